"""Games that two brains play: points 31, 32 and 74 to 80, 83."""

import random
import time
import unittest

from sureplay.average import average
from sureplay.brain import read_brain
from sureplay.errors import TooLarge
from sureplay.gametext import game_text, read_game
from sureplay.mixing import lots_of
from sureplay.ratio import Ratio
from sureplay.table import Played, average_of_brains, play
from sureplay.tree import End, tree_of
from sureplay.walk import follow
from tests.boards import SlowPlay, random_brain, random_game, random_matches, slow_playings
from tests.support import refusal
from tests.trees import whole

ZERO = read_brain("player 1 answer 0")


def fields(played):
    return (played.paid, played.choices, played.taken, played.cells)


class PlayedTest(unittest.TestCase):

    PARTS = (3, (1, 0), 2, ((5,), ()))

    def test_fields(self):
        for played in (Played(*self.PARTS), Played(3, [1, 0], 2, [[5], []]),
                       Played(paid=3, choices=(1, 0), taken=2, cells=((5,), ()))):
            self.assertEqual(vars(played), {"paid": 3, "choices": (1, 0), "taken": 2, "cells": ((5,), ())})

    def test_equal_exactly_if_all_fields_are(self):
        played = Played(*self.PARTS)
        self.assertTrue(played == Played(*self.PARTS))
        self.assertFalse(played != Played(*self.PARTS))
        for at, other in enumerate((-3, (1, 0, 0), 3, ((5,), (5,)))):
            changed = Played(*self.PARTS[:at], other, *self.PARTS[at + 1:])
            self.assertFalse(played == changed)
            self.assertTrue(played != changed)
        self.assertFalse(played == self.PARTS)
        self.assertFalse(played == None)  # noqa: E711

    def test_keeps_copies(self):
        choices, cells = [1, 0], [[5], []]
        played = Played(3, choices, 2, cells)
        choices.append(4)
        cells[0][0] = 6
        cells.pop()
        self.assertTrue(played == Played(*self.PARTS))


class PlayTest(unittest.TestCase):

    def check(self, text, first, second, results, *told):
        game, one, two = read_game(text), read_brain(first), read_brain(second)
        given = list(results)
        played = play(game, one, two, given)
        self.assertEqual(given, list(results))
        self.assertIsInstance(played, Played)
        self.assertIs(type(played.choices), tuple)
        self.assertIs(type(played.cells), tuple)
        self.assertEqual([type(values) for values in played.cells], [tuple, tuple])
        self.assertEqual(fields(played), told)
        self.assertEqual(SlowPlay(game, one, two, results).parts(), told)


class StatementTest(PlayTest):

    def test_example(self):
        brain = "player 2 keep c 0 lot c 3 answer c"
        self.check("var x 6 round a draw x 6 second x 3 pay x end", brain, brain, [4, 5], 2, (4, 2), 2, ((0,), (2,)))

    def test_nothing(self):
        for text in ("", "round a end", "round a end round b show both 4 end"):
            self.check(text, "player 1 keep a 7 answer a", "player 1 answer 0", [3], 0, (), 0, ((7,), ()))

    def test_payments(self):
        self.check("round a pay 3 take 5 end", "player 1 answer 0", "player 1 answer 0", [], -2, (), 0, ((), ()))
        self.check("round a take 65535 end round b take 65535 pay 1 end", "player 1 answer 0", "player 1 answer 0", [],
                   -131069, (), 0, ((), ()))

    def test_results_and_moves_are_not_reduced(self):
        self.check("var x 2 round a draw x 7 pay x first x 8 pay * 10 x end", "player 1 answer 7", "player 1 answer 0",
                   [6], 10, (6, 7), 1, ((), ()))

    def test_sets_ifs_and_whens(self):
        text = ("option o on option p off var x 9 var y 4 round a draw x 9 set y * x 3 if < x 5 pay y else take x "
                "when o draw y 2 end end when p pay 1000 else pay 100 end end")
        self.check(text, "player 1 answer 0", "player 1 answer 0", [3, 1], 101, (3,), 1, ((), ()))
        self.check(text, "player 1 answer 0", "player 1 answer 0", [6, 1], 94, (6, 1), 2, ((), ()))

    def test_results_larger_than_a_lot(self):
        self.check("var x 64 var y 64 round a draw x 6 draw y 64 pay + * 100 x y end", "player 1 answer 0",
                   "player 1 answer 0", [10 ** 30, 129], 100 * (10 ** 30 % 6) + 1, (10 ** 30 % 6, 1), 2, ((), ()))

    def test_lots_behind_the_end_of_the_list(self):
        text = "var x 6 round a draw x 6 first x 6 draw x 6 end"
        brain = "player 1 keep c 5 lot c 6 answer c"
        for results, choices in (([], (0, 0, 0)), ([5], (5, 0, 0)), ([5, 4], (5, 4, 0)), ([5, 4, 3, 2], (5, 4, 3))):
            self.check(text, brain, brain, results, 0, choices, 3, ((choices[1],), (5,)))

    def test_a_lot_without_results(self):
        self.check("var x 6 round a first x 6 draw x 6 end", "player 2 keep c 5 lot c 0 answer c", "player 1 answer 0",
                   [4], 0, (0, 4), 1, ((0,), ()))


class BrainTest(PlayTest):

    def test_order_of_the_lots(self):
        text = "var x 9 round a draw x 9 first x 8 draw x 9 second x 8 first x 8 draw x 9 end"
        first = "player 9 keep c 0 keep d 0 lot c 8 lot d 9 answer c"
        second = "player 9 keep c 0 lot c 8 answer c"
        self.check(text, first, second, [1, 2, 3, 4, 5, 6, 7, 8], 0, (1, 2, 4, 5, 6, 8), 8, ((6, 7), (5,)))

    def test_one_brain_on_both_seats(self):
        text = "var x 8 round a first x 8 second x 8 second x 8 first x 8 pay x second x 8 end"
        brain = "player 2 keep n 3 set n + n 1 answer n"
        self.check(text, brain, brain, [], 5, (4, 4, 5, 5, 6), 0, ((5,), (6,)))

    def test_silent_moves(self):
        text = "var x 8 round a first x 4 first x 4 draw x 9 end"
        # Silent at its first move only; the lots that fell there have fallen.
        first = "player 5 keep n 2 lot n 5 if = n 4 while 1 end end answer 3"
        self.check(text, first, "player 1 answer 0", [4, 1, 7], 0, (0, 3, 7), 3, ((1,), ()))
        self.check(text, "player 1 keep n 6 set n 1 set n 2 answer 2", "player 1 answer 0", [], 0, (0, 0, 0), 1,
                   ((6,), ()))

    def test_moves_out_of_range(self):
        text = "var x 8 round a second x 4 pay x second x 5 pay x end"
        self.check(text, "player 1 answer 0", "player 1 keep n 3 set n + n 1 answer n", [], 0, (0, 0), 0, ((), (5,)))
        self.check(text, "player 1 answer 0", "player 1 keep n 2 set n + n 1 answer n", [], 7, (3, 4), 0, ((), (4,)))
        self.check(text, "player 1 answer 0", "player 1 answer 65535", [], 0, (0, 0), 0, ((), ()))

    def test_each_brain_sees_its_own_view(self):
        text = ("var x 9 round a show first 5 show second 6 show both 7 first x 8 second x 8 end "
                "round b show second + x 1 first x 8 second x 8 end")
        last = "player 1 keep n 0 set n view - long {} answer view - long {}"
        # The first number of the event before the last one: what was told, or which round began.
        self.check(text, last.format(5, 5), last.format(5, 5), [], 0, (7, 7, 1, 0), 0, ((1,), (8,)))
        self.check(text, "player 1 answer 3", "player 2 keep a 0 keep b 0 set a long set b view 4 answer view 7", [], 0,
                   (3, 7, 3, 7), 0, ((), (24, 6)))

    def test_views_of_several_rounds(self):
        game = read_game("var x 8 round a first x 8 end round b show both x first x 8 draw x 3 end "
                         "round c show first 9 first x 8 end")
        expected = (1, 0, 0, 3, 0, 8, 4, 2, 0, 1, 1, 0, 2, 2, 0, 3, 1, 8, 4, 2, 0, 1, 2, 0, 2, 9, 0, 3, 2, 8)
        for index, number in enumerate(expected):
            brain = read_brain(f"player 9 keep n 0 set n view {index} answer 2")
            self.assertEqual(play(game, brain, ZERO, []).cells[0], (number,))
        brain = read_brain("player 9 keep n 0 set n long answer 2")
        self.assertEqual(play(game, brain, ZERO, []).cells[0], (len(expected),))

    def test_moves_in_a_branch_that_is_not_taken(self):
        text = "option o off var x 9 round a draw x 2 if x first x 8 else second x 8 end when o first x 3 end end"
        self.check(text, "player 1 keep n 0 set n view 4 answer 5", "player 1 answer 6", [1], 0, (1, 5), 1, ((0,), ()))
        self.check(text, "player 1 answer 5", "player 1 keep n 0 set n view 4 answer 6", [0], 0, (0, 6), 1, ((), (1,)))

    def test_arguments_stay(self):
        game = read_game("var x 6 round a draw x 6 second x 3 first x 3 pay x end")
        brain = read_brain("player 9 keep c 0 lot c 3 answer c")
        text, results = game_text(game), [5, 4, 3, 2]
        found = [fields(play(game, brain, brain, results)) for _ in range(2)]
        self.assertEqual(found[0], found[1])
        self.assertEqual((game_text(game), results, brain.start()), (text, [5, 4, 3, 2], (0,)))
        self.assertNotEqual(fields(play(game, brain, brain, [4, 3, 2])), found[0])
        self.assertEqual(fields(play(game, brain, brain, tuple(results))), found[0])


class RandomTest(unittest.TestCase):

    def test_same_as_the_slow_way(self):
        for game, first, second, results in random_matches(400):
            slow = SlowPlay(game, first, second, results)
            self.assertEqual(fields(play(game, first, second, results)), slow.parts())

    def test_way_through_the_tree(self):
        ended = 0
        for game, first, second, results in random_matches(200, seed=7):
            try:
                tree = tree_of(game)
            except TooLarge:
                continue
            played = play(game, first, second, results)
            node = follow(tree, played.choices)
            self.assertIsInstance(node, End)
            self.assertEqual(node.paid, played.paid)
            ended += 1
        self.assertGreater(ended, 100)

    def test_games_without_a_tree(self):
        game = read_game("var x 64 round a " + "draw x 64 pay x first x 8 take x " * 12 + "end")
        brain = read_brain("player 9 keep c 1 set c + * c 5 3 answer mod c 8")
        results = [17 * k + 60 for k in range(12)]
        self.assertEqual(fields(play(game, brain, brain, results)), SlowPlay(game, brain, brain, results).parts())

    def test_time_of_long_loops(self):
        game = read_game("var x 8 round a first x 2 second x 2 end")
        begin = time.monotonic()
        brain = read_brain("player 65535 keep a 0 keep n 7 while 1 set a + a 1 end answer 1")
        self.assertEqual(fields(play(game, brain, brain, [])), (0, (0, 0), 0, ((0, 7), (0, 7))))
        brain = read_brain("player 65535 keep a 0 keep n 7 while < a 20000 lot n 5 set a + a 1 end answer 1")
        played = play(game, brain, brain, [])
        self.assertEqual((played.choices, played.taken, played.cells), ((1, 1), 40000, ((20000, 0), (20000, 0))))
        self.assertLess(time.monotonic() - begin, 30)


class AverageTest(unittest.TestCase):

    def refused(self, game, first, second):
        self.assertEqual(refusal(TooLarge, average_of_brains, game, first, second).what, "lots")

    def test_without_lots(self):
        game = read_game("var x 9 round a first x 8 take x end")
        self.assertEqual(average_of_brains(game, read_brain("player 1 answer 7"), ZERO), Ratio(-7))
        self.assertEqual(average_of_brains(read_game(""), ZERO, ZERO), Ratio(0))

    def test_ways_of_different_lengths(self):
        game = read_game("var x 3 round a draw x 2 if x draw x 3 pay * 6 x else second x 2 pay 4 end end")
        second = read_brain("player 9 keep c 0 lot c 2 if c lot c 5 end answer 0")
        # 1/2 times 4, and 1/2 times the average of 0, 6 and 12.
        self.assertEqual(average_of_brains(game, ZERO, second), Ratio(5))
        self.assertIsInstance(average_of_brains(game, ZERO, second), Ratio)

    def test_slow_sum(self):
        large = fine = 0
        matches = [(game, first, second) for game, first, second, _ in random_matches(200, seed=3)]
        for seed in range(100):
            brains = [random_brain(number, lots=("3", "9", "40")) for number in (seed, seed + 500)]
            matches.append((random_game(seed), *brains))
        for game, first, second in matches:
            expected = slow_playings(game, first, second)
            if len(expected) > 400:
                large += 1
                self.refused(game, first, second)
            else:
                fine += 1
                found = average_of_brains(game, first, second)
                self.assertEqual(whole(found), sum(chance * paid for chance, paid in expected))
        self.assertGreater(large, 2)
        self.assertGreater(fine, 100)

    def test_average_of_the_plans(self):
        same = 0
        for seed in range(250):
            game, first, second = random_game(seed), random_brain(seed, cells=2), random_brain(seed + 900)
            try:
                tree = tree_of(game)
                plans = (lots_of(first, tree, 1), lots_of(second, tree, 2))
                found = average_of_brains(game, first, second)
            except TooLarge:
                continue
            self.assertEqual(found, average(tree, *plans), game_text(game))
            same += 1
        self.assertGreater(same, 100)

    def test_bound(self):
        lot = "player 900 keep a 0 keep b 0 lot a {} if b lot b 2 end answer a"
        for draws, count, fine in (("draw x 20 draw x 20", 1, True), ("draw x 20", 20, True), ("", 400, True),
                                   ("", 401, False), ("draw x 2 if x draw x 19 end", 20, True),
                                   ("draw x 2", 201, False), ("draw x 20", 21, False), ("draw x 4", 100, True),
                                   ("draw x 4", 101, False), ("draw x 2", 65535, False),
                                   ("draw x 64 draw x 64", 1, False)):
            game = read_game(f"var x 64 round a {draws} first x 2 pay x end".replace("  ", " "))
            brain = read_brain(lot.format(count))
            if fine:
                self.assertIsInstance(average_of_brains(game, brain, ZERO), Ratio)
            else:
                self.refused(game, brain, ZERO)

    def test_exactly_400_and_401_ways_of_different_lengths(self):
        game = read_game("var x 64 var y 64 round a draw y 2 first x 2 end")
        # 200 ways behind each result of the draw; one more if the lot is 199 behind result 0 and has two results then.
        fine = read_brain("player 9 keep a 0 lot a 200 answer 0")
        more = read_brain("player 9 keep a 0 lot a 200 if = a 199 lot a 2 end answer 0")
        self.assertEqual(average_of_brains(game, fine, ZERO), Ratio(0))
        self.refused(game, more, ZERO)
        shown = read_game("var x 64 var y 64 round a draw y 2 show first y first x 2 pay x end")
        last = "player 9 keep a 0 lot a 200 if * view 4 = a 199 lot a {} end answer 1"
        self.assertEqual(average_of_brains(shown, read_brain(last.format(1)), ZERO), Ratio(1))
        self.refused(shown, read_brain(last.format(2)), ZERO)
        first = last.replace("view 4", "- 1 view 4")
        self.assertEqual(average_of_brains(shown, read_brain(first.format(1)), ZERO), Ratio(1))
        self.refused(shown, read_brain(first.format(2)), ZERO)

    def test_silent_ways_count(self):
        game = read_game("var x 2 round a first x 2 pay + x 1 end")
        self.assertEqual(average_of_brains(game, read_brain("player 1 keep a 0 lot a 400 set a 1 answer 1"), ZERO),
                         Ratio(1))
        self.refused(game, read_brain("player 1 keep a 0 lot a 401 set a 1 answer 1"), ZERO)

    def test_time(self):
        begin = time.monotonic()
        endless = read_brain("player 65535 keep a 0 while 1 lot a 2 end answer a")
        wide = read_brain("player 65535 keep a 0 while 1 lot a 65535 end answer a")
        many = "draw x 64 first x 8 " * 12
        self.refused(read_game(f"var x 64 round a {many}end"), endless, ZERO)
        self.refused(read_game(f"var x 64 round a {many}end"), ZERO, ZERO)
        for brain in (endless, wide):
            self.refused(read_game("var x 64 round a first x 8 end"), brain, ZERO)
            self.refused(read_game("var x 64 round a second x 8 end"), ZERO, brain)
        self.refused(read_game("var x 64 round a " + "draw x 2 " * 24 + "end"), ZERO, ZERO)
        single = read_brain("player 65535 keep a 0 keep n 0 while < n 20000 lot a 1 set n + n 1 end answer a")
        self.assertEqual(average_of_brains(read_game("var x 64 round a first x 8 pay 3 end"), single, ZERO), Ratio(3))
        self.assertLess(time.monotonic() - begin, 30)

    def test_brains_that_remember(self):
        game = read_game("var x 3 var y 3 round a first x 2 second y 2 pay = x y end "
                         "round b first x 2 second y 2 pay = x y end")
        first = read_brain("player 9 keep n 5 if = n 5 lot n 2 else set n = n 0 end answer n")
        choose = random.Random(2)
        for _ in range(20):
            second = random_brain(choose.randint(0, 10 ** 6))
            expected = slow_playings(game, first, second)
            if len(expected) <= 400:
                self.assertEqual(whole(average_of_brains(game, first, second)), sum(a * b for a, b in expected))


if __name__ == "__main__":
    unittest.main()
