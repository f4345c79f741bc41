"""What the tests of brains that play games use: a slow second way to play, and games, brains and codes at random."""

import random
from fractions import Fraction

from sureplay.brain import read_brain
from sureplay.check import check_code
from sureplay.errors import BadCode
from sureplay.gametext import read_game
from tests.minds import BrainWriter, SlowThought
from tests.support import SlowRun, Writer


class SlowPlay(SlowRun):
    """A game that two brains play, by the words of the document. `fallen` are the pairs (result, count) of all lots."""

    def __init__(self, game, first, second, results):
        self._brains = (first, second)
        self._results = list(results)
        self.cells = [tuple(value for _, value in brain.cells) for brain in self._brains]
        self.fallen = []
        self.choices = []
        super().__init__(game, ())
        self.paid = self._paid
        self.views = [self._seen[1], self._seen[2]]
        self.table = [self._table[name] for name, _ in game.variables]

    def _choice(self, what):
        if what[0] == "lot":
            given = self._results[len(self.fallen)] if len(self.fallen) < len(self._results) else 0
            choice = given % what[1]
            self.fallen.append((choice, what[1]))
        else:
            _, player, view, count = what
            rest = self._results[len(self.fallen):]
            thought = SlowThought(self._brains[player - 1], self.cells[player - 1], view, count, rest)
            self.fallen += thought.fallen
            self.cells[player - 1] = thought.cells
            choice = thought.move
        self.choices.append(choice)
        return choice

    def parts(self):
        """What the fields of a Played should be."""
        return (self.paid, tuple(self.choices), len(self.fallen), tuple(self.cells))


def slow_playings(game, first, second, way=(), most=401):
    """The pairs of a chance and a payment for all ways in which the lots can fall, for at most so many ways."""
    played = SlowPlay(game, first, second, way)
    if len(played.fallen) <= len(way):
        chance = Fraction(1)
        for _, count in played.fallen:
            chance /= count
        return [(chance, played.paid)]
    found = []
    for k in range(played.fallen[len(way)][1]):
        if len(found) < most:
            found += slow_playings(game, first, second, (*way, k), most - len(found))
    return found


def random_game(seed):
    return read_game(" ".join(Writer(seed).game_words()))


def random_brain(seed, **named):
    return read_brain(BrainWriter(seed, **named).text())


def random_matches(count, seed=0):
    """Quadruples of a game, two brains and a list of results."""
    choose = random.Random(seed)
    found = []
    for k in range(count):
        results = [choose.choice([0, 1, 2, 3, 5, 77, 65536, 10 ** 20]) for _ in range(choose.randint(0, 12))]
        found.append((random_game(1000 * seed + k), random_brain(3 * k + seed), random_brain(5 * k + 1 + seed), results))
    return found


class CodeWriter:
    """Writes random codes that pass the check, with jumps into all directions that it allows."""

    def __init__(self, seed, thinking, slots=3, moves=3):
        self._random = random.Random(seed)
        self._thinking = thinking
        self._slots = slots
        self._moves = moves

    def code(self):
        """One code. Most pieces fit by themselves; then some steps are changed, as far as the check allows."""
        height = 1 if self._thinking else 0
        code = self._piece(0, self._random.randint(0, 10)) + [("push", 1)] * height + [("end", 0)]
        for _ in range(self._random.randint(0, 12)):
            changed = self._changed(code)
            if self.passes(changed):
                code = changed
        return code

    def passes(self, code):
        try:
            check_code(code, self._slots, self._moves, thinking=self._thinking)
        except BadCode:
            return False
        return True

    def _changed(self, code):
        choose = self._random
        at = choose.randrange(len(code))
        name, argument = code[at]
        if name in ("jump", "skip", "back"):
            return code[:at] + [(name, max(0, argument + choose.choice([-2, -1, 1, 2, 3, 5])))] + code[at + 1:]
        return code[:at] + [choose.choice([("jump", choose.randint(0, 6)), code[at]])] + code[at + 1:]

    def _piece(self, depth, count):
        """Instructions that leave the stack as high as it was."""
        code = []
        for _ in range(count):
            code += self._part(depth)
        return code

    def _part(self, depth):
        choose = self._random
        kinds = ["store", "store", "jump", "chain", "lot", "same"]
        kinds += ["unit", "unit", "see"] if self._thinking else ["ask", "show", "pay", "take"]
        if depth < 3:
            kinds += ["if", "if", "else", "dead"] + ["loop"] * self._thinking
        kind = choose.choice(kinds)
        inner = self._piece(depth + 1, choose.randint(0, 2)) if depth < 3 else []
        other = self._piece(depth + 1, choose.randint(0, 2)) if depth < 3 else []
        slot = choose.randrange(self._slots)
        return {
            "store": self._value() + [("store", slot)], "jump": [("jump", 0)], "same": [("load", slot), ("store", slot)],
            "chain": [("load", slot), ("skip", 1), ("jump", 1), ("jump", 0), ("jump", 0)],
            "lot": [("push", choose.randint(0, 3)), ("lot", 0), ("store", slot)],
            "unit": [("unit", 0)], "see": [("long", 0), ("view", 0), ("store", slot)],
            "ask": [("ask", choose.randrange(self._moves)), ("store", slot)],
            "show": self._value() + [("show", choose.randint(0, 2))],
            "pay": self._value() + [("pay", 0)], "take": self._value() + [("take", 0)],
            "if": self._value() + [("skip", len(inner))] + inner,
            "else": self._value() + [("skip", len(inner) + 1)] + inner + [("jump", len(other))] + other,
            "dead": [("push", choose.randint(0, 1)), ("skip", len(inner))] + inner,
            "loop": self._loop(inner),
        }[kind]

    def _loop(self, inner):
        test = self._value()
        return [("unit", 0)] + test + [("skip", len(inner) + 1)] + inner + [("back", len(test) + len(inner) + 2)]

    def _value(self, room=6):
        """Instructions that push one value, and need at most so many places of the stack."""
        choose = self._random
        kind = choose.randint(0, 3) if room > 1 else 2
        if kind == 0:
            return [("push", choose.choice([0, 0, 1, 2, 65535]))]
        if kind == 1:
            return self._value(room) + self._value(room - 1) + [("sign", choose.randint(0, 6))]
        return [("load", choose.randrange(self._slots))]
