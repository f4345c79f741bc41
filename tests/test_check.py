"""The check of codes and the longest way through them: points 91, 92 and 93."""

import random
import unittest

from sureplay.check import check_code, check_mind, check_program, longest
from sureplay.errors import BadCode
from sureplay.gametext import read_game
from sureplay.program import Mind, Program, mind_of, program_of
from tests.boards import CodeWriter, random_brain, random_game
from tests.support import refusal

END, UNIT = ("end", 0), ("unit", 0)

ROUND_NAMES = {"push", "load", "store", "sign", "jump", "skip", "lot", "end", "ask", "show", "pay", "take"}

BRAIN_NAMES = {"push", "load", "store", "sign", "jump", "skip", "lot", "end", "view", "long", "unit", "back"}


def slow_check(code, slots, moves, thinking):
    """The pair of the greatest height and None, or of None and the place that is refused; by the words of point 91."""
    heights = [None] * len(code)
    if not code:
        return None, 0
    heights[0] = 0
    seen = [0]
    for p, (name, a) in enumerate(code):
        ranges = {"push": range(65536), "load": range(slots), "store": range(slots), "sign": range(7),
                  "show": range(3), "ask": range(moves)}
        if heights[p] is None or name not in (BRAIN_NAMES if thinking else ROUND_NAMES):
            return None, p
        if name in ("jump", "skip", "back"):
            if a < 0:
                return None, p
        elif a not in ranges.get(name, (0,)):
            return None, p
        pops = {"store": 1, "sign": 2, "skip": 1, "lot": 1, "show": 1, "pay": 1, "take": 1, "view": 1}.get(name, 0)
        pushes = 1 if name in ("push", "load", "sign", "lot", "ask", "view", "long") else 0
        height = heights[p] - pops + pushes
        if heights[p] < pops or height > 16:
            return None, p
        seen += [heights[p], height]
        if name == "end":
            if heights[p] != int(thinking):
                return None, p
        elif name == "back":
            if not (0 <= p - a < p and code[p - a] == UNIT and heights[p - a] == height):
                return None, p
        else:
            for q in {"jump": [p + 1 + a], "skip": [p + 1, p + 1 + a]}.get(name, [p + 1]):
                if q >= len(code) or heights[q] not in (None, height):
                    return None, p
                heights[q] = height
    return max(seen), None


class CheckTest(unittest.TestCase):

    def fine(self, code, height, slots=2, moves=3, thinking=False):
        given = list(code)
        self.assertEqual(check_code(given, slots, moves, thinking=thinking), height)
        self.assertEqual(check_code(tuple(given), slots, moves, thinking=thinking), height)
        self.assertEqual(given, list(code))
        self.assertEqual(slow_check(code, slots, moves, thinking), (height, None))

    def bad(self, code, at, slots=2, moves=3, thinking=False):
        given = list(code)
        error = refusal(BadCode, check_code, given, slots, moves, thinking=thinking)
        self.assertEqual(error.at, at, code)
        self.assertIs(type(error), BadCode)
        self.assertEqual(given, list(code))
        self.assertEqual(slow_check(code, slots, moves, thinking), (None, at))


class ConditionTest(CheckTest):

    def test_examples(self):
        self.fine([("push", 1), ("push", 2), ("sign", 0), ("pay", 0), END], 2, slots=0, moves=0)
        self.bad([("push", 1), END], 1, slots=0, moves=0)

    def test_default_is_a_round(self):
        self.assertEqual(check_code([END], 0, 0), 0)
        self.assertEqual(refusal(BadCode, check_code, [UNIT, ("push", 1), END], 0, 0).at, 0)

    def test_empty_code(self):
        for thinking in (False, True):
            self.bad([], 0, thinking=thinking)

    def test_least_codes(self):
        self.fine([END], 0)
        self.fine([("push", 0), END], 1, thinking=True)
        self.bad([("push", 0)], 0)
        self.bad([("ask", 0)], 0)
        self.bad([UNIT], 0, thinking=True)
        self.fine([UNIT, ("back", 1)], 0, thinking=True)

    def test_places_that_nothing_before_leads_to(self):
        self.bad([END, END], 1)
        self.bad([("jump", 1), END, END], 1)
        self.fine([("jump", 0), END], 0)
        self.bad([("push", 1), ("skip", 2), ("jump", 1), END, END], 3)
        self.fine([("push", 1), ("skip", 1), ("jump", 0), END], 1)
        self.bad([("push", 1), END, END], 2, thinking=True)
        self.bad([UNIT, ("back", 1), ("push", 0), END], 2, thinking=True)

    def test_place_that_only_a_back_leads_to(self):
        self.bad([("jump", 2), UNIT, ("jump", 0), ("back", 2)], 1, thinking=True)

    def test_names(self):
        begin = {"store": [("push", 1)], "sign": [("push", 1)] * 2, "skip": [("push", 1)], "lot": [("push", 1)],
                 "show": [("push", 1)], "pay": [("push", 1)], "take": [("push", 1)], "view": [("push", 1)],
                 "back": [UNIT]}
        for name in sorted(ROUND_NAMES | BRAIN_NAMES):
            for thinking in (False, True):
                code = begin.get(name, []) + [(name, 1 if name == "back" else 0)]
                if name == "back" and not thinking:
                    code = [(name, 1)]
                fits = name in (BRAIN_NAMES if thinking else ROUND_NAMES)
                pushes = name in ("push", "load", "sign", "lot", "ask", "view", "long")
                if name not in ("end", "back"):
                    code += [("store", 0)] * pushes + [("push", 0)] * thinking + [END]
                if name == "end" and thinking:
                    code = [("push", 0), END]
                if fits:
                    self.fine(code, max(len(begin.get(name, [])) - (name == "back"), int(pushes),
                                        int(thinking and name != "back")), thinking=thinking)
                else:
                    place = [one for one, _ in code].index(name)
                    self.bad(code, place, thinking=thinking)
        for name in ("", "Push", "add", "answer", "stop", "push ", "if"):
            for thinking in (False, True):
                self.bad([("push", 0), (name, 0), END], 1, thinking=thinking)

    def ranged(self, begin, name, end, greatest, thinking=False):
        """The arguments of an instruction between others are from 0 to the greatest one."""
        for argument in (0, greatest):
            check_code([*begin, (name, argument), *end], 2, 3, thinking=thinking)
        for argument in (-1, greatest + 1, -65536, 10 ** 9):
            self.bad([*begin, (name, argument), *end], len(begin), thinking=thinking)

    def test_ranges(self):
        for thinking in (False, True):
            end = [("push", 0)] * thinking + [END]
            self.ranged([], "push", [("store", 0), *end], 65535, thinking)
            self.ranged([], "load", [("store", 0), *end], 1, thinking)
            self.ranged([("push", 1)], "store", end, 1, thinking)
            self.ranged([("push", 1)] * 2, "sign", [("store", 0), *end], 6, thinking)
            self.ranged([("push", 1)], "lot", [("store", 0), *end], 0, thinking)
            self.ranged([("push", 0)] * thinking, "end", [], 0, thinking)
            self.ranged([("push", 0)] * thinking, "jump", [END], 0, thinking)
            self.ranged([("push", 0)] * (1 + thinking), "skip", [END], 0, thinking)
        self.ranged([], "ask", [("store", 0), END], 2)
        self.ranged([("push", 1)], "show", [END], 2)
        self.ranged([("push", 1)], "pay", [END], 0)
        self.ranged([("push", 1)], "take", [END], 0)
        self.ranged([("push", 1)], "view", [END], 0, True)
        self.ranged([], "long", [END], 0, True)
        self.ranged([], "unit", [("push", 0), END], 0, True)

    def test_ranges_that_are_empty(self):
        for name in ("load", "ask"):
            self.bad([(name, 0), ("pay", 0), END], 0, slots=0, moves=0)
        self.bad([("push", 0), ("store", 0), END], 1, slots=0)
        self.fine([("load", 0), ("pay", 0), END], 1, slots=1, moves=0)
        self.fine([("ask", 0), ("pay", 0), END], 1, slots=0, moves=1)

    def test_greatest_height(self):
        for count in (16, 17):
            code = [("push", 1)] * count + [("pay", 0)] * count + [END]
            if count == 16:
                self.fine(code, 16)
                self.fine([("push", 1)] * 16 + [("sign", 0)] * 15 + [END], 16, thinking=True)
            else:
                self.bad(code, 16)
                self.bad([("push", 1)] * 15 + [("long", 0)] * 2 + [("sign", 0)] * 16 + [END], 16, thinking=True)
        self.bad([("push", 1)] * 16 + [("load", 0), END], 16)
        self.bad([("push", 1)] * 16 + [("ask", 0), END], 16)

    def test_too_few_values(self):
        for name in ("store", "skip", "lot", "show", "pay", "take"):
            self.bad([(name, 0), END], 0)
            self.bad([("push", 1), ("pay", 0), (name, 0), END], 2)
        for name in ("store", "skip", "lot", "view"):
            self.bad([(name, 0), END], 0, thinking=True)
        for thinking in (False, True):
            self.bad([("sign", 0), END], 0, thinking=thinking)
            self.bad([("push", 1), ("sign", 0), END], 1, thinking=thinking)

    def test_height_at_the_end(self):
        for height in range(4):
            code = [("push", 1)] * height + [END]
            if height == 0:
                self.fine(code, 0)
            else:
                self.bad(code, height)
            if height == 1:
                self.fine(code, 1, thinking=True)
            else:
                self.bad(code, height, thinking=True)

    def test_back(self):
        self.fine([UNIT, UNIT, ("push", 1), ("skip", 1), ("back", 3), ("push", 0), END], 1, thinking=True)
        self.fine([UNIT, UNIT, ("push", 1), ("skip", 1), ("back", 4), ("push", 0), END], 1, thinking=True)
        code = [UNIT, UNIT, ("push", 1), ("skip", 1), ("back", 0), ("push", 0), END]
        for argument in (0, 1, 2, 5, 6, 65536):
            # Its own place, places that hold no unit, and places before the code.
            self.bad([*code[:4], ("back", argument), *code[5:]], 4, thinking=True)
        self.bad([("push", 1), ("skip", 1), ("back", 1), ("push", 0), END], 2, thinking=True)
        self.bad([("push", 5), UNIT, ("load", 0), ("back", 2)], 3, thinking=True)
        self.bad([UNIT, ("push", 1), ("back", 2)], 2, thinking=True)
        # A place before the code is not one at its end.
        self.bad([UNIT, ("back", 2), UNIT], 1, thinking=True)
        self.fine([("push", 5), UNIT, ("back", 1)], 1, thinking=True)

    def test_back_leads_behind_nothing(self):
        # What stands behind a `back` needs another way to it.
        self.bad([UNIT, ("back", 1), END], 2, thinking=True)
        self.fine([UNIT, ("load", 0), ("skip", 1), ("back", 3), ("load", 0), END], 1, thinking=True)

    def test_ways_out_of_the_code(self):
        self.bad([("jump", 0)], 0)
        self.bad([("jump", 1), END], 0)
        self.bad([("push", 1), ("skip", 1), END], 1)
        self.bad([("push", 1), ("skip", 0)], 1)
        self.bad([("push", 1), ("pay", 0)], 1)
        self.bad([("push", 1), ("skip", 10 ** 30), END], 1)
        self.fine([("push", 1), ("skip", 0), END], 1)

    def test_ways_that_join(self):
        self.bad([("push", 1), ("skip", 1), ("push", 2), END], 2)
        self.bad([("push", 1), ("push", 1), ("skip", 1), ("pay", 0), END], 3)
        self.fine([("push", 1), ("skip", 2), ("push", 2), ("pay", 0), END], 1)
        self.fine([("load", 0), ("skip", 2), ("push", 1), ("jump", 1), ("push", 2), END], 1, thinking=True)
        self.bad([("load", 0), ("skip", 3), ("push", 1), ("push", 1), ("jump", 1), ("push", 2), END], 5, thinking=True)
        self.bad([("push", 1), ("push", 1), ("skip", 1), ("jump", 1), ("pay", 0), END], 4)

    def test_greatest_height_of_all_ways(self):
        self.fine([("load", 0), ("skip", 5), ("push", 1), ("push", 1), ("sign", 0), ("pay", 0), ("jump", 2),
                   ("push", 1), ("pay", 0), END], 2)
        self.fine([("load", 0), ("skip", 3), ("push", 1), ("pay", 0), ("jump", 6), ("push", 1), ("push", 1),
                   ("push", 1), ("sign", 0), ("sign", 0), ("pay", 0), END], 3)

    def test_several_faults(self):
        self.bad([("push", 70000), ("load", 9), ("sign", 9), ("pay", 0), END, END], 0)
        self.bad([("push", 1), ("load", 9), ("sign", 9), ("pay", 0), END, END], 1)
        self.bad([("push", 1), ("load", 1), ("sign", 9), ("pay", 0), END, END], 2)
        self.bad([("push", 1), ("load", 1), ("sign", 6), ("pay", 0), END, END], 5)
        # A wrong place to lead to is a fault of the place that leads there.
        self.bad([("push", 1), ("skip", 9), ("bad", 0), END], 1)
        self.bad([("jump", 1), ("bad", 0), END], 1)


class RandomTest(CheckTest):

    def test_random_codes(self):
        refused = 0
        for seed in range(400):
            thinking = seed % 2 == 1
            writer, choose = CodeWriter(seed, thinking), random.Random(seed)
            code = writer.code()
            height, _ = slow_check(code, 3, 3, thinking)
            self.fine(code, height, 3, 3, thinking)
            for _ in range(20):
                changed, at = list(code), choose.randrange(len(code))
                name, argument = code[at]
                changed[at:at + choose.randint(0, 1)] = choose.choice([
                    [], [(name, argument + choose.choice([-1, 1, 2]))],
                    [(choose.choice(sorted(ROUND_NAMES | BRAIN_NAMES)), choose.randint(0, 4))]])
                height, place = slow_check(changed, 3, 3, thinking)
                if place is None:
                    self.fine(changed, height, 3, 3, thinking)
                else:
                    refused += 1
                    self.bad(changed, place, 3, 3, thinking)
        self.assertGreater(refused, 2000)

    def test_compiled_codes_pass(self):
        for seed in range(400):
            program, mind = program_of(random_game(seed)), mind_of(random_brain(seed))
            heights = [slow_check(code, len(program.sizes), len(program.moves), False)[0] for code in program.rounds]
            self.assertEqual(check_program(program), max(heights, default=0))
            self.assertEqual(check_mind(mind), slow_check(mind.code, len(mind.cells), 0, True)[0])

    def test_deepest_expression(self):
        deep = "+ 1 " * 11 + "1"
        self.assertEqual(check_program(program_of(read_game(f"round a pay {deep} end"))), 12)
        wide = "+ " * 11 + "1" + " 1" * 11
        self.assertEqual(check_program(program_of(read_game(f"round a pay {wide} end"))), 2)


class ProgramTest(unittest.TestCase):

    def test_rounds(self):
        high = [("push", 1)] * 3 + [("pay", 0)] * 3 + [END]
        low = [("push", 1), ("pay", 0), END]
        self.assertEqual(check_program(Program((), (), ())), 0)
        self.assertEqual(check_program(Program((), (), ([END],))), 0)
        for rounds in ((high, low), (low, high), (low, [END], high, low), (high,)):
            self.assertEqual(check_program(Program((), (), rounds)), 3)

    def test_first_bad_round(self):
        fine, late, early = [("push", 1), ("pay", 0), END], [("push", 1), ("pay", 0), ("pay", 0), END], [("pay", 0), END]
        for rounds, at in (((fine, late, early), 2), ((fine, early, late), 0), ((early,), 0), ((fine, ()), 0)):
            self.assertEqual(refusal(BadCode, check_program, Program((), (), rounds)).at, at)

    def test_slots_and_moves(self):
        code = [("ask", 1), ("store", 2), END]
        self.assertEqual(check_program(Program((1, 1, 1), ((1, 2), (2, 2)), (code,))), 1)
        self.assertEqual(refusal(BadCode, check_program, Program((1, 1, 1), ((1, 2),), (code,))).at, 0)
        self.assertEqual(refusal(BadCode, check_program, Program((1, 1), ((1, 2), (2, 2)), (code,))).at, 1)

    def test_mind(self):
        code = [UNIT, ("load", 1), END]
        self.assertEqual(check_mind(Mind(1, (0, 0), code)), 1)
        self.assertEqual(refusal(BadCode, check_mind, Mind(1, (0,), code)).at, 1)
        self.assertEqual(refusal(BadCode, check_mind, Mind(1, (0, 0), code[:2])).at, 1)
        self.assertEqual(refusal(BadCode, check_mind, Mind(1, (0, 0), ())).at, 0)
        self.assertEqual(refusal(BadCode, check_mind, Mind(1, (0, 0), [END])).at, 0)
        self.assertEqual(refusal(BadCode, check_mind, Mind(1, (0, 0), [("ask", 0), END])).at, 0)


def slow_longest(code, place=0):
    """The greatest number of instructions on a way, by following all ways."""
    name, argument = code[place]
    if name == "end":
        return 1
    behind = {"jump": [place + 1 + argument], "skip": [place + 1, place + 1 + argument]}.get(name, [place + 1])
    return 1 + max(slow_longest(code, target) for target in behind)


class LongestTest(unittest.TestCase):

    def test_without_skips(self):
        self.assertEqual(longest([END]), 1)
        self.assertEqual(longest([("push", 1), ("pay", 0), END]), 3)
        self.assertEqual(longest([("jump", 0), END]), 2)
        self.assertEqual(longest([("push", 1), ("skip", 0), END]), 3)

    def test_ways_of_different_lengths(self):
        longer_first = [("load", 0), ("skip", 5), ("push", 1), ("pay", 0), ("push", 1), ("pay", 0), ("jump", 2),
                        ("push", 2), ("pay", 0), END]
        self.assertEqual(longest(longer_first), 8)
        longer_last = [("load", 0), ("skip", 3), ("push", 1), ("pay", 0), ("jump", 6), ("push", 2), ("pay", 0),
                       ("push", 2), ("pay", 0), ("push", 2), ("pay", 0), END]
        self.assertEqual(longest(longer_last), 9)
        self.assertEqual(longest([("load", 0), ("skip", 1), END, ("push", 1), ("pay", 0), END]), 5)
        self.assertEqual(longest([("load", 0), ("skip", 3), ("push", 1), ("pay", 0), END, END]), 5)

    def test_ways_do_not_all_come_true(self):
        # A skip may lead to either of its places, whatever value it pops.
        self.assertEqual(longest([("push", 0), ("skip", 2), ("push", 1), ("pay", 0), END]), 5)

    def test_random_codes(self):
        for seed in range(200):
            code = CodeWriter(seed, False).code()
            self.assertEqual(longest(code), slow_longest(code))
            self.assertEqual(longest(tuple(code)), slow_longest(code))
            for compiled in program_of(random_game(seed)).rounds:
                self.assertEqual(longest(compiled), slow_longest(compiled))

    def test_many_ways(self):
        code = [("load", 0), ("skip", 2), ("push", 1), ("pay", 0)] * 5000 + [END]
        self.assertEqual(longest(code), 20001)


if __name__ == "__main__":
    unittest.main()
