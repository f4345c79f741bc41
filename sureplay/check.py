"""The check that a code must pass before it runs."""

from sureplay.errors import BadCode
from sureplay.instructions import BRAIN_NAMES, COMMON_NAMES, POPS, PUSHES, ROUND_NAMES, places_behind
from sureplay.words import GREATEST_NUMBER

GREATEST_HEIGHT = 16

GREATEST_SIGN = 6

GREATEST_SEAT = 2


def check_code(code, slots, moves, *, thinking=False):
    """The greatest height of the stack that a code needs; BadCode at the first place that does not pass."""
    if not code:
        raise BadCode(0)
    checker = Checker(code, slots, moves, thinking)
    for place in range(len(code)):
        if not checker.passes(place):
            raise BadCode(place)
    return checker.greatest


class Checker:
    """Goes through the places of a code in order, and gives each of them its height of the stack."""

    def __init__(self, code, slots, moves, thinking):
        self._code = code
        self._most = _greatest_arguments(len(code), slots, moves, thinking)
        self._height_at_end = 1 if thinking else 0
        self._heights = {0: 0}
        self.greatest = 0

    def passes(self, place):
        """True if the place satisfies all conditions; then the places that it leads to get their heights."""
        name, argument = self._code[place]
        # A name that the code may not have has no argument in its range.
        if place not in self._heights or not 0 <= argument <= self._most.get(name, -1):
            return False
        before = self._heights[place]
        after = before - POPS[name] + PUSHES[name]
        if before < POPS[name] or after > GREATEST_HEIGHT:
            return False
        self.greatest = max(self.greatest, before, after)
        if name == "end":
            return before == self._height_at_end
        if name == "back":
            return self._may_go_back(place, place - argument)
        return all([self._reach(target, after) for target in places_behind(self._code, place)])

    def _may_go_back(self, place, target):
        if not 0 <= target < place or self._code[target][0] != "unit":
            return False
        return self._heights[target] == self._heights[place]

    def _reach(self, place, height):
        """Gives a place this height; False if it is no place of the code or has another height."""
        if place >= len(self._code):
            return False
        if place not in self._heights:
            self._heights[place] = height
        return self._heights[place] == height


def _greatest_arguments(length, slots, moves, thinking):
    """For each name that the code may have, its greatest argument; the least one is always 0."""
    own_names = BRAIN_NAMES if thinking else ROUND_NAMES
    most = {name: 0 for name in [*COMMON_NAMES, *own_names]}
    most["push"] = GREATEST_NUMBER
    most["load"] = slots - 1
    most["store"] = slots - 1
    most["sign"] = GREATEST_SIGN
    # A larger step than the length leads out of the code anyway.
    most["jump"] = length
    most["skip"] = length
    if thinking:
        most["back"] = length
    else:
        most["show"] = GREATEST_SEAT
        most["ask"] = moves - 1
    return most


def check_program(program):
    """The greatest height over all rounds, 0 if there is none; BadCode for the first round that does not pass."""
    heights = [check_code(code, len(program.sizes), len(program.moves)) for code in program.rounds]
    return max(heights, default=0)


def check_mind(mind):
    """The greatest height for the code of a compiled brain; BadCode if it does not pass."""
    return check_code(mind.code, len(mind.cells), 0, thinking=True)


def longest(code):
    """The greatest number of instructions on a way through the code of a round that passes."""
    # For each place, the greatest number of instructions from there on.
    lengths = {}
    for place in reversed(range(len(code))):
        rest = [lengths[target] for target in places_behind(code, place)]
        lengths[place] = 1 + max(rest, default=0)
    return lengths[0]
