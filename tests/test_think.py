"""What a brain does at a move: points 19, 20, 74 to 77, 79 and 82."""

import random
import time
import unittest

from sureplay.brain import Brain, read_brain
from sureplay.errors import TooLarge
from sureplay.ratio import Ratio, total
from sureplay.tape import Tape
from sureplay.think import outcomes, think, view_numbers
from sureplay.views import views_of
from tests.minds import BrainWriter, SlowThought, slow_numbers, slow_outcomes
from tests.support import refusal
from tests.trees import ROUND, sample_trees, whole

VIEW = (ROUND, ("told", 40), ("move", 2, 4))

VIEWS = [(), (ROUND,), (ROUND, ("move", 0, 4)), VIEW, VIEW + (("did", 3), ("round", 1), ("told", 65535)),
         (("told", 7),) * 9 + (("move", 23, 8),)]


class NumbersTest(unittest.TestCase):

    def test_each_event(self):
        self.assertEqual(view_numbers((("round", 7),)), (1, 7, 0))
        self.assertEqual(view_numbers((("told", 65535),)), (2, 65535, 0))
        self.assertEqual(view_numbers((("move", 5, 8),)), (3, 5, 8))
        self.assertEqual(view_numbers((("did", 6),)), (4, 6, 0))

    def test_order(self):
        self.assertEqual(view_numbers(VIEW), (1, 0, 0, 2, 40, 0, 3, 2, 4))
        self.assertEqual(view_numbers(()), ())
        self.assertIs(type(view_numbers(VIEW)), tuple)
        for tree in sample_trees(20):
            for player in (1, 2):
                for view, _ in views_of(tree, player):
                    self.assertEqual(view_numbers(view), slow_numbers(view))


class ThinkTest(unittest.TestCase):

    def check(self, text, move, after, cells=None, view=VIEW, count=4, results=()):
        """The brain makes this move and has these cells afterwards; what it took from the tape is returned."""
        brain = read_brain(text)
        tape = Tape(results)
        before = brain.start() if cells is None else cells
        found = think(brain, before, view, count, tape)
        self.assertEqual(found, (move, after))
        self.assertIs(type(found), tuple)
        self.assertIs(type(found[1]), tuple)
        return tape.taken


class StatementTest(ThinkTest):

    def test_example(self):
        self.check("player 9 keep a 0 set a + a 1 answer a", 2, (2,), cells=(1,), view=(ROUND, ("move", 0, 4)))

    def test_answer(self):
        self.check("player 1 answer 3", 3, ())
        self.check("player 1 answer 4", 0, ())
        self.check("player 1 answer 65535", 0, ())
        self.check("player 1 answer 1", 0, (), count=1)

    def test_a_move_that_is_not_possible_keeps_the_cells(self):
        self.check("player 9 keep a 5 set a 7 answer a", 0, (7,))
        self.check("player 9 keep a 5 set a 7 answer a", 7, (7,), count=8)

    def test_set(self):
        self.check("player 9 keep a 1 keep b 2 set b + a b set a b answer a", 3, (3, 3))
        self.check("player 9 keep a 65535 set a + a 3 answer a", 2, (2,))

    def test_lot(self):
        text = "player 9 keep a 9 keep b 3 lot a 5 lot b b answer a"
        self.assertEqual(self.check(text, 2, (2, 1), results=[7, 4]), [(2, 5), (1, 3)])
        self.assertEqual(self.check(text, 0, (0, 0)), [(0, 5), (0, 3)])
        self.assertEqual(self.check(text, 3, (3, 0), results=[3]), [(3, 5), (0, 3)])

    def test_lot_without_results(self):
        text = "player 9 keep a 9 keep b 0 lot a 0 lot b 3 answer b"
        self.assertEqual(self.check(text, 2, (0, 2), results=[5, 1]), [(2, 3)])
        self.assertEqual(self.check("player 9 keep a 4 lot a - a 4 answer a", 0, (0,), results=[3]), [])
        self.assertEqual(self.check("player 9 keep a 4 lot a 1 answer a", 0, (0,), results=[3]), [(0, 1)])

    def test_if(self):
        text = "player 9 keep a 0 if = a 5 set a 1 set a + a 1 else set a 3 end if 0 set a 9 end answer a"
        self.check(text, 2, (2,), cells=(5,))
        self.check(text, 3, (3,), cells=(4,))
        self.check("player 9 keep a 3 if 65535 end if 0 end answer a", 3, (3,))

    def test_while(self):
        text = "player 99 keep a 0 keep b 0 while < a 5 set a + a 1 set b + b 2 end answer b"
        self.check(text, 10, (5, 10), count=11)
        self.check(text, 0, (5, 0), cells=(5, 0))
        self.check(text, 2, (5, 2), cells=(4, 0))

    def test_nested_blocks(self):
        text = ("player 999 keep a 0 keep b 0 keep c 0 while < a 3 set b 0 while < b 4 if < b a set c + c 1 "
                "else if = b 3 lot b 1 set b 3 end end set b + b 1 end set a + a 1 end answer c")
        self.assertEqual(self.check(text, 3, (3, 4, 3)), [(0, 1)] * 3)

    def test_view_and_long(self):
        numbers = view_numbers(VIEW)
        for index, number in enumerate(numbers):
            self.check(f"player 1 answer view {index}", number, (), count=65535)
        for index in (9, 10, 65535):
            self.check(f"player 1 answer + 1 view {index}", 1, ())
        self.check("player 1 answer long", 9, (), count=10)
        self.check("player 1 answer long", 0, (), view=())
        self.check("player 1 answer + 1 view 0", 1, (), view=())
        self.check("player 1 answer view - long 2", 2, ())
        self.check("player 1 answer view view 7", 0, ())

    def test_views_that_do_not_end_with_a_move(self):
        self.check("player 1 answer view - long 2", 40, (), view=VIEW[:2], count=50)
        self.check("player 1 answer view - long 2", 3, (), view=VIEW + (("did", 3),))

    def test_long_views(self):
        for events, told in ((21844, 65532), (21845, 65535), (21846, 65535), (30000, 65535)):
            view = (("told", 5),) * events
            self.check("player 2 keep a 0 set a long answer = a " + str(told), 1, (told,), view=view, count=2)
        view = (("told", 5),) * 21845 + (("told", 6), ("move", 1, 2))
        self.check("player 2 keep a 0 set a view 65534 answer view 65533", 0, (0,), view=view)
        self.check("player 2 answer view 65535", 2, (), view=view)

    def test_cells_of_the_move_before(self):
        brain = read_brain("player 3 keep a 1 keep b 0 set b + b a set a b answer a")
        cells = brain.start()
        for told in ((1, 1), (2, 2), (4, 4), (8, 8)):
            _, cells = think(brain, cells, VIEW, 4, Tape([]))
            self.assertEqual(cells, told)

    def test_data_of_several_kinds(self):
        brain = Brain(5, [("x", 2)], [("set", "x", ("view", ("number", 4)))], ("-", ("variable", "x"), ("number", 38)))
        self.assertEqual(think(brain, (2,), VIEW, 4, Tape([])), (2, (40,)))


class UnitTest(ThinkTest):

    def check_units(self, needed, body, move, after, cells, lots=0):
        """The brain needs so many units; with one less it is silent, with one more it does the same."""
        for units in (needed, needed + 1, needed + 100):
            self.assertEqual(len(self.check(f"player {units} {body}", move, after, cells=cells)), lots)
        if needed > 1:
            self.check(f"player {needed - 1} {body}", 0, cells, cells=cells)

    def test_statements(self):
        self.check_units(2, "keep a 9 set a 1 set a + a 1 answer a", 2, (2,), (9,))
        self.check_units(1, "keep a 9 lot a 3 answer + a 1", 1, (0,), (9,), lots=1)
        self.check_units(1, "keep a 9 if 0 set a 1 end answer 3", 3, (9,), (9,))
        self.check_units(2, "keep a 9 if 1 set a 1 end answer a", 1, (1,), (9,))
        self.check_units(3, "keep a 9 if 0 else set a 1 set a + a 2 end answer a", 3, (3,), (9,))

    def test_while(self):
        self.check_units(1, "keep a 9 while 0 set a 1 end answer 3", 3, (9,), (9,))
        # The while, and then twice its statement and the repetition.
        self.check_units(5, "keep a 9 while < a 2 set a + a 1 end answer a", 2, (2,), (0,))
        self.check_units(6, "keep a 9 while < a 2 set a + a 1 end set a + a 1 answer a", 3, (3,), (0,))
        self.check_units(5, "keep a 9 keep b 0 while < a 2 set a + a 1 end answer b", 3, (2, 3), (0, 3))

    def test_nested(self):
        body = "keep a 0 keep b 0 while < a 2 set b 0 while < b 2 set b + b 1 end set a + a 1 end answer + a b"
        self.check_units(1 + 2 * (1 + 5 + 1 + 1), body, 0, (2, 2), (0, 0))
        body = "keep a 0 if 1 while < a 1 if 1 if a else set a 3 end end end end answer a"
        self.check_units(6, body, 3, (3,), (0,))

    def test_silent(self):
        for units in (1, 2, 7, 65535):
            self.check(f"player {units} keep a 3 keep b 2 while 1 set a + a 1 end answer 1", 0, (3, 2))
        self.check("player 65535 keep a 3 while 1 end answer 1", 0, (8,), cells=(8,))
        self.check("player 65535 while 1 end answer 1", 0, ())

    def test_lots_of_a_silent_brain_have_fallen(self):
        taken = self.check("player 4 keep a 3 lot a 5 while 1 lot a 7 end answer 1", 0, (3,), results=[4, 5, 6])
        self.assertEqual(taken, [(4, 5), (5, 7)])
        taken = self.check("player 2 keep a 3 lot a 5 lot a 6 lot a 7 answer 1", 0, (3,), results=[4, 5, 6])
        self.assertEqual(taken, [(4, 5), (5, 6)])

    def test_all_counts_of_units(self):
        texts = [BrainWriter(seed).text().split(" ", 2)[2] for seed in range(150)]
        for text in texts:
            for units in range(1, 25):
                brain = read_brain(f"player {units} {text}")
                tape = Tape([5, 2, 8, 1, 1])
                slow = SlowThought(brain, brain.start(), VIEW, 4, [5, 2, 8, 1, 1])
                self.assertEqual(think(brain, brain.start(), VIEW, 4, tape), (slow.move, slow.cells))
                self.assertEqual(tape.taken, slow.fallen)


class RandomTest(unittest.TestCase):

    def test_random_brains(self):
        choose = random.Random(3)
        for seed in range(600):
            brain = read_brain(BrainWriter(seed).text())
            cells = tuple(choose.choice([0, 1, 2, 65535]) for _ in brain.cells)
            view = choose.choice(VIEWS)
            results = [choose.randint(0, 9) for _ in range(choose.randint(0, 6))]
            tape = Tape(results)
            slow = SlowThought(brain, cells, view, 4, results)
            self.assertEqual(think(brain, cells, view, 4, tape), (slow.move, slow.cells), seed)
            self.assertEqual(tape.taken, slow.fallen)


class OutcomesTest(unittest.TestCase):

    def check(self, text, *told, view=VIEW, count=4):
        brain = read_brain(text)
        found = outcomes(brain, brain.start(), view, count)
        self.assertIs(type(found), list)
        self.assertEqual([(str(chance), move, cells) for chance, move, cells in found], list(told))
        return found

    def refused(self, text):
        brain = read_brain(text)
        error = refusal(TooLarge, outcomes, brain, brain.start(), VIEW, 4)
        self.assertEqual(error.what, "lots")

    def test_one_way(self):
        self.check("player 9 keep a 2 set a + a 1 answer a", ("1", 3, (3,)))
        self.check("player 9 keep a 2 lot a 1 answer + a 1", ("1", 1, (0,)))
        self.check("player 9 keep a 2 lot a 0 answer + a 1", ("1", 1, (0,)))

    def test_order(self):
        found = self.check("player 9 keep a 0 keep b 0 lot a 2 lot b + a 1 answer + a b",
                           ("1/2", 0, (0, 0)), ("1/4", 1, (1, 0)), ("1/4", 2, (1, 1)))
        for triple in found:
            self.assertIs(type(triple), tuple)
            self.assertIsInstance(triple[0], Ratio)
            self.assertIs(type(triple[2]), tuple)
        self.check("player 9 keep a 0 keep b 0 lot b 2 if = b 0 lot a 3 end answer a",
                   ("1/6", 0, (0, 0)), ("1/6", 1, (1, 0)), ("1/6", 2, (2, 0)), ("1/2", 0, (0, 1)))

    def test_silent_ways(self):
        self.check("player 2 keep a 7 lot a 3 if a set a 1 end answer 2", ("1/3", 2, (0,)), ("1/3", 0, (7,)),
                   ("1/3", 0, (7,)))
        self.check("player 3 keep a 7 lot a 2 while 1 lot a 2 end answer 2", *[("1/4", 0, (7,))] * 4)

    def test_random_brains(self):
        choose = random.Random(5)
        large = 0
        for seed in range(400):
            brain = read_brain(BrainWriter(seed, lots=("0", "1", "2", "3", "3", "5")).text())
            cells = tuple(choose.choice([0, 1, 2, 65535]) for _ in brain.cells)
            view = choose.choice(VIEWS)
            expected = slow_outcomes(brain, cells, view, 3)
            if len(expected) > 200:
                large += 1
                self.assertEqual(refusal(TooLarge, outcomes, brain, cells, view, 3).what, "lots")
            else:
                found = outcomes(brain, cells, view, 3)
                self.assertEqual([(whole(chance), move, after) for chance, move, after in found],
                                 [triple for _, triple in expected], seed)
                self.assertEqual(total([chance for chance, _, _ in found]), Ratio(1))
                for (way, _), (chance, move, after) in zip(expected, found):
                    tape = Tape(way)
                    self.assertEqual((think(brain, cells, view, 3, tape), tape.chance()), ((move, after), chance))
        self.assertGreater(large, 1)

    def test_ways_follow_each_other(self):
        brain = read_brain("player 50 keep a 0 keep b 0 while < a 3 lot b + a 1 set a + a + b 1 end answer mod b 3")
        beginning, found = [], []
        while beginning is not None:
            tape = Tape(beginning)
            found.append((tape, think(brain, (0, 0), VIEW, 4, tape)))
            beginning = tape.following()
        self.assertEqual([(tape.chance(), *pair) for tape, pair in found], outcomes(brain, (0, 0), VIEW, 4))

    def test_bound(self):
        head = "player 900 keep a 0 keep b 0 keep c 0 "
        for body in ("lot a 200", "lot a 10 lot b 20", "lot a 2 if a lot b 199 end", "lot a 199 if = a 7 lot b 2 end",
                     "lot a 4 lot b 5 lot c 10", "while < c 9 lot a 1 set c + c 1 end lot b 200"):
            brain = read_brain(head + body + " answer a")
            found = outcomes(brain, brain.start(), VIEW, 4)
            self.assertEqual(len(found), 200)
            self.assertEqual(total([chance for chance, _, _ in found]), Ratio(1))
        for body in ("lot a 201", "lot a 2 if a lot b 200 end", "lot a 199 if = a 7 lot b 3 end",
                     "lot a 199 if = a 198 lot b 3 end", "lot a 67 lot b 3", "lot a 3 lot b 67", "lot a 65535",
                     "lot a 200 if = a 199 lot b 2 end", "lot a 100 lot b 2 if = b + a 1 lot c 2 end"):
            self.refused(head + body + " answer a")

    def test_silent_ways_count(self):
        self.refused("player 1 keep a 0 lot a 201 set a 1 answer a")
        brain = read_brain("player 1 keep a 0 lot a 200 set a 1 answer a")
        self.assertEqual(outcomes(brain, (5,), VIEW, 4), [(Ratio(1, 200), 0, (5,))] * 200)

    def test_time(self):
        begin = time.monotonic()
        self.refused("player 65535 keep a 0 while 1 lot a 2 end answer a")
        self.refused("player 65535 keep a 0 while 1 lot a 65535 end answer a")
        self.refused("player 65535 keep a 0 keep b 0 while < b 9999 set b + b 1 end "
                     + "lot a 2 " * 60 + "answer a")
        self.refused("player 65535 keep a 0 keep b 0 while < b 9999 lot a 1 set b + b 1 end lot a 201 answer a")
        self.assertLess(time.monotonic() - begin, 20)


if __name__ == "__main__":
    unittest.main()
