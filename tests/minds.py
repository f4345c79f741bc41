"""What the tests of brains use: brains made at random from a fixed seed, and a slow second way to run brains."""

import random
from fractions import Fraction

from sureplay.views import views_of, way_to


class BrainWriter:
    """Writes random texts of brains within the bounds of the document, word by word."""

    def __init__(self, seed, cells=3, lots=("0", "1", "2", "2", "3")):
        self._random = random.Random(seed)
        self._most_cells = cells
        self._lots = lots
        self._cells = []

    def text(self):
        choose = self._random
        self._cells = [f"c{k}" for k in range(choose.randint(0, self._most_cells))]
        words = ["player", choose.choice(["1", "2", "5", "9", "30", "200"])]
        for name in self._cells:
            words += ["keep", name, choose.choice(["0", "1", "2", "7", "65535"])]
        words += [*self._block(0, choose.randint(0, 5)), "answer", *self._expression(4)]
        return " ".join(words)

    def _block(self, depth, count):
        words = []
        for _ in range(count):
            words += self._statement(depth)
        return words

    def _statement(self, depth):
        choose = self._random
        kinds = ["set", "set", "lot", "lot"] if self._cells else []
        if depth < 4:
            kinds += ["if", "if", "while"]
        if not kinds:
            return []
        kind = choose.choice(kinds)
        if kind == "set":
            return [kind, choose.choice(self._cells), *self._expression(4)]
        if kind == "lot":
            # Few results only, so that the lots can be followed in all ways.
            return [kind, choose.choice(self._cells), choose.choice(self._lots)]
        words = [kind, *self._expression(3), *self._block(depth + 1, choose.randint(0, 2))]
        if kind == "if" and choose.random() < 0.5:
            if depth < 3 or self._cells:
                words += ["else", *self._block(depth + 1, choose.randint(1, 2))]
        return words + ["end"]

    def _expression(self, room):
        choose = self._random
        kinds = ["number", "long"] + ["cell"] * 3 * (len(self._cells) > 0)
        if room > 1:
            kinds += ["+", "-", "*", "/", "mod", "<", "=", "view", "view"]
        kind = choose.choice(kinds)
        if kind == "number":
            return [choose.choice(["0", "1", "2", "3", "4", "5", "65535"])]
        if kind == "cell":
            return [choose.choice(self._cells)]
        parts = {"long": 0, "view": 1}.get(kind, 2)
        words = [kind]
        for _ in range(parts):
            words += self._expression(room - 1)
        return words


def slow_numbers(view):
    found = ()
    for event in view:
        found += ({"round": 1, "told": 2, "move": 3, "did": 4}[event[0]], *event[1:], *(0,) * (3 - len(event)))
    return found


class Silent(Exception):
    """A unit of work is missing."""


class SlowThought:
    """One move of a brain, by the words of the document. `fallen` are the pairs (result, count) of its lots."""

    def __init__(self, brain, cells, view, count, results):
        self.fallen = []
        self._results = list(results)
        self._names = [name for name, _ in brain.cells]
        self._table = dict(zip(self._names, cells))
        self._seen = slow_numbers(view)
        self._units = brain.units
        try:
            self._run(brain.block)
            answer = self._value(brain.answer)
            self.move = answer if answer < count else 0
            self.cells = tuple(self._table[name] for name in self._names)
        except Silent:
            self.move, self.cells = 0, tuple(cells)

    def _use_a_unit(self):
        if self._units == 0:
            raise Silent
        self._units -= 1

    def _run(self, block):
        for kind, *parts in block:
            self._use_a_unit()
            if kind == "set":
                self._table[parts[0]] = self._value(parts[1])
            elif kind == "lot":
                self._table[parts[0]] = self._lot(self._value(parts[1]))
            elif kind == "if":
                self._run(parts[1] if self._value(parts[0]) else parts[2])
            else:
                while self._value(parts[0]):
                    self._run(parts[1])
                    self._use_a_unit()

    def _lot(self, count):
        if count == 0:
            return 0
        given = self._results[len(self.fallen)] if len(self.fallen) < len(self._results) else 0
        self.fallen.append((given % count, count))
        return given % count

    def _value(self, expression):
        kind, *parts = expression
        if kind == "number":
            return parts[0]
        if kind == "variable":
            return self._table[parts[0]]
        if kind == "long":
            return min(len(self._seen), 65535)
        a = self._value(parts[0])
        if kind == "view":
            return self._seen[a] if a < len(self._seen) else 0
        b = self._value(parts[1])
        if kind in ("/", "mod"):
            return (a // b if kind == "/" else a % b) if b else 0
        return {"+": (a + b) % 65536, "-": a - b if a >= b else 0, "*": (a * b) % 65536,
                "<": int(a < b), "=": int(a == b)}[kind]


def slow_outcomes(brain, cells, view, count, way=(), most=201):
    """The pairs of a way and its triple (chance, move, cells), for at most so many ways, in order."""
    thought = SlowThought(brain, cells, view, count, way)
    if len(thought.fallen) <= len(way):
        chance = Fraction(1)
        for _, many in thought.fallen:
            chance /= many
        return [(way, (chance, thought.move, thought.cells))]
    found = []
    for k in range(thought.fallen[len(way)][1]):
        if len(found) < most:
            found += slow_outcomes(brain, cells, view, count, (*way, k), most - len(found))
    return found


def slow_weights(brain, view, count):
    """The weights of the rows of a view, by running the brain through all earlier views in all ways."""
    states = [(Fraction(1), brain.start())]
    for earlier, made in way_to(view):
        after = []
        for weight, cells in states:
            for _, (chance, move, changed) in slow_outcomes(brain, cells, earlier, earlier[-1][2]):
                if move == made:
                    after.append((weight * chance, changed))
        states = after
    weights = [Fraction(0)] * count
    for weight, cells in states:
        for _, (chance, move, _) in slow_outcomes(brain, cells, view, count):
            weights[move] += weight * chance
    return weights


def slow_lots_of(brain, tree, player):
    """The entries of the plan of a brain, with fractions as lots."""
    entries = []
    for view, count in views_of(tree, player):
        weights = slow_weights(brain, view, count)
        whole = sum(weights)
        lots = [weight / whole for weight in weights] if whole else [Fraction(int(k == 0)) for k in range(count)]
        entries.append((view, lots))
    return entries
