"""Averages: points 43 and 44."""

import unittest

from sureplay.average import average, average_by_weights, chances
from sureplay.plan import Plan, even, pure
from sureplay.ratio import Ratio, total
from sureplay.tree import End, Lot, Turn
from sureplay.views import remembers, views_of
from sureplay.walk import ends
from tests.trees import (FORGETFUL, asked, random_plan, ratios, sample_trees, slow_average, slow_chances, tree_from,
                         whole)

NOTHING = Plan([])


def told(pairs):
    return [(str(chance), paid) for chance, paid in pairs]


class ChancesTest(unittest.TestCase):

    TEXT = "var x 2 var y 2 round a draw x 2 show first x first y 2 second x 2 pay + * 2 y x end"

    def test_every_end_in_order(self):
        tree = tree_from(self.TEXT)
        first = Plan([(asked(0, 2, 1), ratios("1/3 2/3"))])
        second = Plan([(asked(1, 2), ratios("1/4 3/4"))])
        self.assertEqual(told(chances(tree, first, second)), [
            ("1/8", 0), ("3/8", 1), ("0", 2), ("0", 3), ("1/24", 0), ("1/8", 1), ("1/12", 2), ("1/4", 3)])
        self.assertEqual(str(average(tree, first, second)), str(Ratio(3 * 3 + 3 + 4 + 18, 24)))

    def test_kinds(self):
        found = chances(tree_from(self.TEXT), NOTHING, NOTHING)
        self.assertIs(type(found), list)
        for pair in found:
            self.assertIs(type(pair), tuple)
            self.assertIsInstance(pair[0], Ratio)
            self.assertIs(type(pair[1]), int)

    def test_no_choices(self):
        self.assertEqual(told(chances(End(-7), NOTHING, NOTHING)), [("1", -7)])
        self.assertEqual(average(End(-7), NOTHING, NOTHING), Ratio(-7))
        self.assertEqual(average_by_weights(End(-7), NOTHING, NOTHING), Ratio(-7))

    def test_lots(self):
        tree = Lot([End(1), Lot([End(2), End(4), End(9)])])
        self.assertEqual(told(chances(tree, NOTHING, NOTHING)), [("1/2", 1), ("1/6", 2), ("1/6", 4), ("1/6", 9)])
        for function in (average, average_by_weights):
            self.assertEqual(function(tree, NOTHING, NOTHING), Ratio(3))

    def test_move_zero_without_a_fitting_entry(self):
        tree = tree_from("var x 3 round a first x 3 pay x end")
        for entries in ([], [(asked(0, 3), ratios("0 1"))], [(asked(0, 3), ratios("0 1 0 0"))]):
            self.assertEqual(told(chances(tree, Plan(entries), NOTHING)), [("1", 0), ("0", 1), ("0", 2)])

    def test_plans_of_the_other_player_do_not_matter(self):
        tree = tree_from("var x 3 round a second x 3 pay x end")
        plan = Plan([(asked(0, 3), ratios("0 0 1"))])
        self.assertEqual(average(tree, plan, NOTHING), Ratio(0))
        self.assertEqual(average(tree, NOTHING, plan), Ratio(2))

    def test_a_tree_that_forgets(self):
        self.assertFalse(remembers(FORGETFUL))
        first = Plan([(asked(0, 2), ratios("1/3 2/3")), (asked(2, 3), ratios("1/2 1/4 1/4"))])
        second = Plan([(asked(1, 2), ratios("1/5 4/5"))])
        expected = slow_chances(FORGETFUL, {1: first, 2: second})
        self.assertEqual([(whole(chance), paid) for chance, paid in chances(FORGETFUL, first, second)], expected)
        self.assertEqual(whole(average(FORGETFUL, first, second)), slow_average(FORGETFUL, first, second))

    def test_large_payments(self):
        tree = Lot([End(10 ** 59), End(-10 ** 59), End(1)])
        self.assertEqual(str(average(tree, NOTHING, NOTHING)), "1/3")

    def test_a_long_way(self):
        tree = End(5)
        for _ in range(200):
            tree = Lot([Turn(1, asked(0, 1), [tree])])
        self.assertEqual(average(tree, NOTHING, NOTHING), Ratio(5))


class SamplesTest(unittest.TestCase):

    def test_random_plans(self):
        for seed, tree in enumerate(sample_trees(120)):
            for keep in (1.0, 0.5):
                first, second = random_plan(seed, tree, 1, keep), random_plan(seed + 1, tree, 2, keep)
                found = chances(tree, first, second)
                expected = slow_chances(tree, {1: first, 2: second})
                self.assertEqual([(whole(chance), paid) for chance, paid in found], expected)
                self.assertEqual([paid for _, paid in found], ends(tree))
                self.assertEqual(total([chance for chance, _ in found]), Ratio(1))
                self.assertEqual(whole(average(tree, first, second)), slow_average(tree, first, second))
                self.assertEqual(average_by_weights(tree, first, second), average(tree, first, second))

    def test_even_and_pure_plans(self):
        for tree in sample_trees(40):
            views = [views_of(tree, player) for player in (1, 2)]
            last = [pure(one, [count - 1 for _, count in one]) for one in views]
            for first in (even(views[0]), last[0]):
                for second in (even(views[1]), last[1]):
                    found = average(tree, first, second)
                    self.assertEqual(whole(found), slow_average(tree, first, second))
                    self.assertEqual(found, average_by_weights(tree, first, second))


if __name__ == "__main__":
    unittest.main()
