"""What several tests use: games made at random from a fixed seed, and a slow second way to run games."""

import random
import sys


def shallow(call, *arguments):
    """What the call returns, with room for only a hundred calls that stand in each other."""
    depth = 100
    frame = sys._getframe()
    while frame is not None:
        depth += 1
        frame = frame.f_back
    limit = sys.getrecursionlimit()
    sys.setrecursionlimit(depth)
    try:
        return call(*arguments)
    finally:
        sys.setrecursionlimit(limit)


def refusal(kind, call, *arguments, **named):
    """The error of this kind that the call raises; fails if it raises none."""
    try:
        call(*arguments, **named)
    except kind as error:
        return error
    raise AssertionError(f"{call.__name__} raised no {kind.__name__}")


class Writer:
    """Writes random texts of games within the bounds of the document, word by word."""

    def __init__(self, seed):
        self._random = random.Random(seed)
        self._options = []
        self._variables = []
        self._choices = 0
        self._most_choices = 4

    def game_words(self):
        """The words of one game."""
        choose = self._random
        self._options = [f"o{k}" for k in range(choose.randint(0, 3))]
        self._variables = [f"x{k}" for k in range(choose.randint(0, 3))]
        self._choices = 0
        words = []
        for name in self._options:
            words += ["option", name, choose.choice(["on", "off"])]
        for name in self._variables:
            words += ["var", name, choose.choice(["1", "2", "3", "7", "400", "65535"])]
        for k in range(choose.randint(0, 3)):
            words += ["round", f"r{k}", *self._block(0, choose.randint(0, 4)), "end"]
        return words

    def _block(self, depth, count):
        words = []
        for _ in range(count):
            words += self._statement(depth)
        return words

    def _statement(self, depth):
        choose = self._random
        kinds = ["show", "pay", "take"]
        if depth < 4:
            kinds += ["if", "if"] + ["when"] * (len(self._options) > 0)
        if self._variables:
            kinds += ["set"]
            if self._choices < self._most_choices:
                kinds += ["draw", "first", "second"] * 2
        kind = choose.choice(kinds)
        if kind == "show":
            return [kind, choose.choice(["first", "second", "both"]), *self._expression(3)]
        if kind in ("pay", "take"):
            return [kind, *self._expression(3)]
        if kind == "set":
            return [kind, choose.choice(self._variables), *self._expression(3)]
        if kind in ("draw", "first", "second"):
            self._choices += 1
            return [kind, choose.choice(self._variables), choose.choice(["1", "2", "3"])]
        return self._branches(kind, depth)

    def _branches(self, kind, depth):
        choose = self._random
        test = self._expression(2) if kind == "if" else [choose.choice(self._options)]
        words = [kind, *test, *self._block(depth + 1, choose.randint(0, 2))]
        if choose.random() < 0.5:
            words += ["else", *self._block(depth + 1, choose.randint(1, 2))]
        return words + ["end"]

    def _expression(self, room):
        choose = self._random
        kinds = ["number"] + ["variable"] * 2 * (len(self._variables) > 0)
        if room > 1:
            kinds += ["+", "-", "*", "/", "mod", "<", "="] + ["pick"] * (len(self._options) > 0)
        kind = choose.choice(kinds)
        if kind == "number":
            return [choose.choice(["0", "1", "2", "3", "9", "65535"])]
        if kind == "variable":
            return [choose.choice(self._variables)]
        name = [choose.choice(self._options)] if kind == "pick" else []
        return [kind, *name, *self._expression(room - 1), *self._expression(room - 1)]


def reckon(expression, table, on):
    """The value of an expression in a round, by the words of the document."""
    kind = expression[0]
    if kind == "number":
        return expression[1]
    if kind == "variable":
        return table[expression[1]]
    if kind == "pick":
        return reckon(expression[2] if on[expression[1]] else expression[3], table, on)
    a = reckon(expression[1], table, on)
    b = reckon(expression[2], table, on)
    if kind in ("/", "mod"):
        return (a // b if kind == "/" else a % b) if b else 0
    return {"+": (a + b) % 65536, "-": a - b if a >= b else 0, "*": (a * b) % 65536,
            "<": int(a < b), "=": int(a == b)}[kind]


class Pause(Exception):
    """A slow run needs one more choice than it was given."""


class SlowRun:
    """Runs a game from its beginning along one way, and stops where the way ends.

    `next` is then ("end", paid), ("lot", N) or ("turn", player, view, N).
    """

    def __init__(self, game, choices):
        self._choices = list(choices)
        self._sizes = dict(game.variables)
        self._on = dict(game.options)
        self._table = {name: 0 for name in self._sizes}
        self._seen = {1: (), 2: ()}
        self._paid = 0
        try:
            for index, (_, block) in enumerate(game.rounds):
                self._show((1, 2), ("round", index))
                self._run(block)
            self.next = ("end", self._paid)
        except Pause:
            pass

    def _show(self, players, event):
        for player in players:
            self._seen[player] += (event,)

    def _choice(self, what):
        if not self._choices:
            self.next = what
            raise Pause
        return self._choices.pop(0)

    def _store(self, name, value):
        self._table[name] = value % self._sizes[name]

    def _run(self, block):
        for statement in block:
            kind, *parts = statement
            if kind == "draw":
                self._store(parts[0], self._choice(("lot", parts[1])))
            elif kind == "move":
                player, name, count, number = parts
                self._show((player,), ("move", number, count))
                move = self._choice(("turn", player, self._seen[player], count))
                self._show((player,), ("did", move))
                self._store(name, move)
            elif kind == "when":
                self._run(parts[1] if self._on[parts[0]] else parts[2])
            elif kind == "if":
                self._run(parts[1] if self._value(parts[0]) else parts[2])
            elif kind == "show":
                self._show({0: (1, 2), 1: (1,), 2: (2,)}[parts[0]], ("told", self._value(parts[1])))
            elif kind == "set":
                self._store(parts[0], self._value(parts[1]))
            else:
                self._paid += self._value(parts[0]) * {"pay": 1, "take": -1}[kind]

    def _value(self, expression):
        return reckon(expression, self._table, self._on)


def slow_ways(game, way=()):
    """The pairs of a way and what is next behind it, for all ways, in the order of the tree."""
    found = SlowRun(game, way).next
    pairs = [(way, found)]
    if found[0] != "end":
        for k in range(found[-1]):
            pairs += slow_ways(game, (*way, k))
    return pairs
