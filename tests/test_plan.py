"""Plans: points 40 to 42, and the weights of point 44."""

import unittest

from sureplay.errors import BadPlan
from sureplay.plan import Plan, even, fits, pure, weight_of
from sureplay.ratio import Ratio
from sureplay.views import views_of, way_to
from tests.support import refusal
from tests.trees import ROUND, asked, random_plan, ratios, sample_trees, slow_lots, tree_from, whole, written

A, B, C = asked(0, 2), asked(1, 3), asked(2, 1)

TINY = f"1/{10 ** 40}"


def texts(lots):
    return [str(lot) for lot in lots]


class RefusedTest(unittest.TestCase):

    def check(self, place, *entries):
        self.assertEqual(refusal(BadPlan, Plan, [(view, ratios(lots)) for view, lots in entries]).place, place)

    def test_no_lots(self):
        self.check(0, (A, ""))
        self.check(0, (A, "0 0"))
        self.check(0, (A, "-1"))
        self.check(0, (A, "2 -1"))
        self.check(0, (A, "-1/2 1/2 1"))

    def test_sums(self):
        for lots in ("1/2", "1/2 1/3", "1 1", f"1/2 1/2 {TINY}", f"1 {TINY}", "1/3 1/3 1/3 1/3", "2", "0 0 2"):
            self.check(0, (A, lots))
        almost = Ratio(1, 2) - Ratio(1, 10 ** 40)
        self.assertEqual(refusal(BadPlan, Plan, [(A, [Ratio(1, 2), almost])]).place, 0)
        self.assertEqual(len(Plan([(A, [Ratio(1, 2), almost, Ratio(1, 10 ** 40)])]).entries()), 1)

    def test_a_view_twice(self):
        self.check(1, (A, "1 0"), (A, "1 0"))
        self.check(2, (A, "1 0"), (B, "1"), (A, "0 1"))
        self.check(2, (A, "1 0"), (B, "1"), (A, "1 0 0"), (B, "1"))

    def test_the_first_invalid_entry(self):
        self.check(0, (A, "1/2"), (A, "1"), (B, ""))
        self.check(1, (A, "1"), (B, "2"), (A, "1"), (C, ""))
        self.check(1, (A, "1"), (A, "1"), (B, "2"))
        self.check(2, (A, "1"), (B, "1/2 1/2"), (C, "1/2 1/3"), (A, "1"))
        self.check(3, (A, "1"), (B, "1/2 1/2"), (C, "1/2 1/2"), ((), "0"))


class PlanTest(unittest.TestCase):

    PLAN = Plan([(B, ratios("1/2 0 1/2")), (A, ratios("2/3 1/3"))])

    def test_entries_in_the_given_order(self):
        self.assertEqual(written(self.PLAN), [(B, ["1/2", "0", "1/2"]), (A, ["2/3", "1/3"])])
        self.assertEqual(Plan([]).entries(), [])
        for pair in self.PLAN.entries():
            self.assertIs(type(pair), tuple)
            self.assertIs(type(pair[1]), list)
        self.assertIs(type(self.PLAN.entries()), list)

    def test_lots_at(self):
        self.assertEqual(texts(self.PLAN.lots_at(A, 2)), ["2/3", "1/3"])
        self.assertEqual(texts(self.PLAN.lots_at(B, 3)), ["1/2", "0", "1/2"])

    def test_move_zero_where_the_plan_says_nothing(self):
        for view, count in ((C, 1), (C, 3), ((), 2), (A, 1), (A, 3), (B, 2), (B, 4), (A[:1], 2)):
            self.assertEqual(texts(self.PLAN.lots_at(view, count)), ["1"] + ["0"] * (count - 1))
        self.assertEqual(texts(Plan([]).lots_at(A, 8)), ["1"] + ["0"] * 7)

    def test_copies(self):
        lots = ratios("1/2 1/2")
        given = [(A, lots)]
        plan = Plan(given)
        lots[0] = Ratio(7)
        given.append((B, []))
        self.assertEqual(written(plan), [(A, ["1/2", "1/2"])])
        for change in (lambda: plan.lots_at(A, 2).append(Ratio(1)), lambda: plan.lots_at(B, 2).clear(),
                       lambda: plan.entries().clear(), lambda: plan.entries()[0][1].pop()):
            change()
            self.assertEqual(written(plan), [(A, ["1/2", "1/2"])])
            self.assertEqual(texts(plan.lots_at(A, 2)), ["1/2", "1/2"])
            self.assertEqual(texts(plan.lots_at(B, 2)), ["1", "0"])

    def test_the_given_list_stays(self):
        lots = ratios("1/2 1/2")
        given = [(A, lots), (B, ratios("1"))]
        Plan(given).lots_at(A, 3)
        self.assertEqual((len(given), texts(lots)), (2, ["1/2", "1/2"]))


class PureTest(unittest.TestCase):

    VIEWS = [(B, 3), (A, 2), (C, 1)]

    def test_pure(self):
        plan = pure(self.VIEWS, [2, 0, 0])
        self.assertEqual(written(plan), [(B, ["0", "0", "1"]), (A, ["1", "0"]), (C, ["1"])])
        self.assertEqual(written(pure([], [])), [])

    def test_even(self):
        plan = even(self.VIEWS)
        self.assertEqual(written(plan), [(B, ["1/3"] * 3), (A, ["1/2"] * 2), (C, ["1"])])
        self.assertEqual(written(even([])), [])

    def test_views_of_trees(self):
        for tree in sample_trees(20):
            for player in (1, 2):
                views = views_of(tree, player)
                for plan in (even(views), pure(views, [count - 1 for _, count in views])):
                    self.assertEqual([(view, len(lots)) for view, lots in plan.entries()], views)
                    self.assertTrue(fits(plan, tree, player))


class FitsTest(unittest.TestCase):

    TREE = tree_from("var x 3 round a first x 2 second x 3 show first x first x 2 end")

    FIRST = asked(0, 2)

    LATER = (ROUND, ("move", 0, 2), ("did", 1), ("told", 2), ("move", 2, 2))

    def check(self, told, player, *entries):
        self.assertIs(fits(Plan([(view, ratios(lots)) for view, lots in entries]), self.TREE, player), told)

    def test_fits(self):
        self.check(True, 1, (self.LATER, "1/2 1/2"), (self.FIRST, "0 1"))
        self.check(True, 1, (self.LATER, "0 1"))
        self.check(True, 2, (asked(1, 3), "1/2 1/2 0"))
        self.check(True, 1)
        self.check(True, 2)

    def test_another_number_of_lots(self):
        self.check(False, 1, (self.FIRST, "1"))
        self.check(False, 1, (self.FIRST, "1 0 0"))
        self.check(False, 1, (self.LATER, "1 0"), (self.FIRST, "1 0 0"))
        self.check(False, 2, (asked(1, 3), "1/2 1/2"))

    def test_views_of_others(self):
        self.check(False, 2, (self.FIRST, "1 0"))
        self.check(False, 1, (asked(1, 3), "1 0 0"))
        self.check(False, 1, (self.FIRST, "1 0"), (self.FIRST[:1], "1 0"))
        self.check(False, 2, ((), "1"))


class WeightTest(unittest.TestCase):

    def test_product(self):
        first = asked(0, 2)
        second = first + (("did", 1), ("told", 9), ("move", 3, 3))
        third = second + (("did", 0), ("round", 1), ("move", 4, 2))
        plan = Plan([(first, ratios("1/4 3/4")), (second, ratios("1/5 4/5 0")), (third, ratios("1/7 6/7"))])
        self.assertEqual(str(weight_of(plan, first, 2, 1)), "3/4")
        self.assertEqual(str(weight_of(plan, second, 3, 1)), "3/5")
        self.assertEqual(str(weight_of(plan, second, 3, 2)), "0")
        self.assertEqual(str(weight_of(plan, third, 2, 1)), str(Ratio(3 * 1 * 6, 4 * 5 * 7)))

    def test_the_number_of_moves_is_read_off_an_earlier_view(self):
        second = asked(0, 3) + (("did", 0), ("move", 1, 2))
        for lots, told in (("1/4 3/4 0", "1/8"), ("1/4 3/4", "1/2"), ("1/4 1/4 1/4 1/4", "1/2")):
            plan = Plan([(asked(0, 3), ratios(lots)), (second, ratios("1/2 1/2"))])
            self.assertEqual(str(weight_of(plan, second, 2, 1)), told)
        self.assertEqual(str(weight_of(plan, second, 3, 1)), "0")
        self.assertEqual(str(weight_of(plan, second, 3, 0)), "1")

    def test_all_rows_of_trees(self):
        for seed, tree in enumerate(sample_trees(40)):
            for player in (1, 2):
                plan = random_plan(seed, tree, player)
                for view, count in views_of(tree, player):
                    for move in range(count):
                        told = slow_lots(plan, view, count)[move]
                        for earlier, made in way_to(view):
                            told *= slow_lots(plan, earlier, earlier[-1][2])[made]
                        self.assertEqual(whole(weight_of(plan, view, count, move)), told)


if __name__ == "__main__":
    unittest.main()
