"""Best answers, what plans secure, and all pure plans: points 50 to 52."""

import unittest

from sureplay.answers import all_pure, answer_plan, best_for, sure_of
from sureplay.average import average
from sureplay.errors import TooLarge
from sureplay.plan import Plan, even, fits
from sureplay.ratio import Ratio
from sureplay.tree import End, Lot, Turn
from sureplay.views import views_of
from tests.support import refusal
from tests.trees import (asked, pure_count, random_plan, ratios, sample_trees, slow_average, slow_pure,
                         tree_from, whole, written)

NOTHING = Plan([])

# Player 2 sees whether the draw was 0 or 1 and may tell it; player 1 hears a number and guesses.
GUESS = ("var x 2 var y 2 var z 2 round a draw x 2 show second x second y 2 show first y first z 2 "
         "if = z x pay 6 else take 2 end end")


def reached(tree, player, own, other):
    return average(tree, own, other) if player == 1 else average(tree, other, own)


class BestForTest(unittest.TestCase):

    def check_kinds(self, answer, tree, player):
        """One move in range at each view, in order."""
        views = views_of(tree, player)
        self.assertIsInstance(answer.paid, Ratio)
        self.assertIs(type(answer.moves), list)
        self.assertEqual([view for view, _ in answer.moves], [view for view, _ in views])
        for pair, (_, count) in zip(answer.moves, views):
            self.assertIs(type(pair), tuple)
            self.assertIn(pair[1], range(count))

    def check(self, tree, player, other):
        answer = best_for(tree, player, other)
        self.check_kinds(answer, tree, player)
        plan = answer_plan(answer, tree, player)
        self.assertEqual([(view, [Ratio(int(k == move)) for k in range(count)])
                          for (view, move), (_, count) in zip(answer.moves, views_of(tree, player))], plan.entries())
        self.assertTrue(fits(plan, tree, player))
        self.assertEqual(reached(tree, player, plan, other), answer.paid)
        self.assertEqual(sure_of(tree, 3 - player, other), answer.paid)
        return answer

    def test_against_all_pure_plans(self):
        checked = 0
        for seed, tree in enumerate(sample_trees(150, most=150)):
            for player in (1, 2):
                if 2 <= pure_count(tree, player) <= 64:
                    for keep in (1.0, 0.4, 0.0):
                        other = random_plan(seed, tree, 3 - player, keep)
                        answer = self.check(tree, player, other)
                        pairs = [(plan, other) if player == 1 else (other, plan) for _, plan in slow_pure(tree, player)]
                        paid = [slow_average(tree, *pair) for pair in pairs]
                        self.assertEqual(whole(answer.paid), max(paid) if player == 1 else min(paid))
                        checked += 1
        self.assertGreater(checked, 100)

    def test_moves_that_are_best(self):
        tree = tree_from(GUESS)
        honest = Plan([(asked(0, 2, 0), ratios("1 0")), (asked(0, 2, 1), ratios("0 1"))])
        answer = self.check(tree, 1, honest)
        self.assertEqual(answer.paid, Ratio(6))
        self.assertEqual(answer.moves, [(asked(1, 2, 0), 0), (asked(1, 2, 1), 1)])
        self.assertEqual(self.check(tree, 1, even(views_of(tree, 2))).paid, Ratio(2))
        trusting = Plan([(asked(1, 2, 1), ratios("0 1"))])
        self.assertEqual(self.check(tree, 2, trusting).paid, Ratio(-2))
        self.assertEqual(best_for(tree, 2, trusting).moves, [(asked(0, 2, 0), 1), (asked(0, 2, 1), 0)])

    def test_what_a_plan_secures(self):
        tree = tree_from(GUESS)
        for player, plan, told in ((1, even(views_of(tree, 1)), 2), (1, NOTHING, 2), (2, NOTHING, 2),
                                   (1, Plan([(asked(1, 2, 1), ratios("0 1"))]), -2),
                                   (2, Plan([(asked(0, 2, 1), ratios("0 1"))]), 6)):
            self.assertEqual(sure_of(tree, player, plan), Ratio(told))

    def test_no_views(self):
        for tree, told in ((End(4), "4"), (Lot([End(1), End(2)]), "3/2")):
            for player in (1, 2):
                answer = self.check(tree, player, NOTHING)
                self.assertEqual((str(answer.paid), answer.moves), (told, []))
        tree = tree_from("var x 3 round a second x 3 pay x end")
        plan = Plan([(asked(0, 3), ratios("1/2 0 1/2"))])
        answer = self.check(tree, 1, plan)
        self.assertEqual((str(answer.paid), answer.moves), ("1", []))
        self.assertEqual(str(self.check(tree, 2, NOTHING).paid), "0")

    def test_views_that_are_never_reached(self):
        tree = tree_from("var x 2 var y 3 round a second x 2 show first x first y 3 if x pay y end end")
        answer = self.check(tree, 1, Plan([(asked(0, 2), ratios("1 0"))]))
        self.assertEqual(answer.paid, Ratio(0))
        self.assertEqual(self.check(tree, 1, Plan([(asked(0, 2), ratios("0 1"))])).moves[1], (asked(1, 3, 1), 2))

    def test_equal_payments(self):
        tree = tree_from("var x 3 round a first x 3 second x 2 first x 2 pay 7 end")
        for player in (1, 2):
            self.assertEqual(self.check(tree, player, even(views_of(tree, 3 - player))).paid, Ratio(7))

    def test_own_earlier_moves_are_planned_ahead(self):
        tree = tree_from("var x 2 var y 2 round a first x 2 first y 2 if x if y take 5 else pay 3 end "
                         "else pay 2 end end")
        answer = self.check(tree, 1, NOTHING)
        later = asked(0, 2) + (("did", 1), ("move", 1, 2))
        self.assertEqual(answer.paid, Ratio(3))
        self.assertEqual([answer.moves[0], dict(answer.moves)[later]], [(asked(0, 2), 1), 0])

    def test_nothing_is_changed(self):
        tree = tree_from(GUESS)
        plan = Plan([(asked(0, 2, 0), ratios("1/2 1/2"))])
        before = written(plan)
        best_for(tree, 1, plan).moves.clear()
        self.assertEqual(written(plan), before)
        self.assertEqual(len(best_for(tree, 1, plan).moves), 2)


class AllPureTest(unittest.TestCase):

    def test_order(self):
        tree = tree_from("var x 3 round a first x 3 second x 2 show first x first x 2 end")
        self.assertEqual([written(plan) for plan in all_pure(tree, 2)], [[(asked(1, 2), ["1", "0"])],
                                                                         [(asked(1, 2), ["0", "1"])]])
        plans = all_pure(tree, 1)
        self.assertIs(type(plans), list)
        self.assertEqual(len(plans), 3 * 2 ** 6)
        self.assertEqual([written(plan) for plan in plans], [written(plan) for _, plan in slow_pure(tree, 1)])
        first, last = views_of(tree, 1)[0][0], views_of(tree, 1)[-1][0]
        self.assertEqual(last, asked(0, 3) + (("did", 2), ("told", 1), ("move", 2, 2)))
        self.assertEqual([str(plan.lots_at(last, 2)[1]) for plan in plans], ["0", "1"] * 96)
        self.assertEqual([str(plan.lots_at(first, 3)[1]) for plan in plans], ["0"] * 64 + ["1"] * 64 + ["0"] * 64)

    def test_samples(self):
        for tree in sample_trees(60):
            for player in (1, 2):
                if pure_count(tree, player) <= 256:
                    expected = [written(plan) for _, plan in slow_pure(tree, player)]
                    self.assertEqual([written(plan) for plan in all_pure(tree, player)], expected)
                else:
                    self.assertEqual(refusal(TooLarge, all_pure, tree, player).what, "plans")

    def test_one_plan_without_views(self):
        for tree in (End(0), Lot([End(0), End(1)]), tree_from("var x 2 round a second x 2 end")):
            self.assertEqual([written(plan) for plan in all_pure(tree, 1)], [[]])

    def turns(self, *counts):
        """Turns of player 1 beside each other, with these numbers of moves."""
        return Lot([Turn(1, asked(k, count), [End(0)] * count) for k, count in enumerate(counts)])

    def test_bounds(self):
        for counts in ((2,) * 8, (4, 8, 8), (256,), (1,) * 50 + (4,) * 4):
            self.assertEqual(len(all_pure(self.turns(*counts), 1)), 256)
        for counts in ((2,) * 9, (257,), (16, 17), (3,) * 6, (1, 8, 1, 8, 5), (2,) * 8 + (1, 2), (8,) * 40):
            self.assertEqual(refusal(TooLarge, all_pure, self.turns(*counts), 1).what, "plans")
            self.assertEqual(len(all_pure(self.turns(*counts), 2)), 1)


if __name__ == "__main__":
    unittest.main()
