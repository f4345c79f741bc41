"""Linear programs: points 55 and 56. Every outcome is checked by its own certificate."""

import itertools
import random
import unittest
from fractions import Fraction

from sureplay.linear import dot, greatest
from sureplay.ratio import Ratio
from tests.trees import ratios, whole

ZERO = Ratio(0)


def texts(found):
    return None if found is None else [str(ratio) for ratio in found]


class LinearTest(unittest.TestCase):

    def not_negative(self, found, count):
        self.assertIs(type(found), list)
        self.assertEqual(len(found), count)
        for ratio in found:
            self.assertIsInstance(ratio, Ratio)
            self.assertGreaterEqual(ratio.sign(), 0)

    def products(self, left, right):
        """The sum of the products, without the program's own dot."""
        return sum((whole(one) * whole(other) for one, other in zip(left, right)), Fraction(0))

    def check(self, goal, rows, bounds):
        """The outcome of a program, if its certificate is right."""
        given = [texts(goal), [texts(row) for row in rows], texts(bounds)]
        outcome = greatest(goal, rows, bounds)
        self.assertEqual([texts(goal), [texts(row) for row in rows], texts(bounds)], given)
        named = {"best": "point prices", "none": "prices", "endless": "point ray"}[outcome.kind].split()
        for name in ("point", "prices", "ray"):
            if name not in named:
                self.assertIsNone(getattr(outcome, name))
            else:
                self.not_negative(getattr(outcome, name), len(rows) if name == "prices" else len(goal))
        if outcome.point is not None:
            for row, bound in zip(rows, bounds):
                self.assertLessEqual(self.products(row, outcome.point), whole(bound))
        if outcome.prices is not None:
            needed = goal if outcome.kind == "best" else [ZERO] * len(goal)
            for k, worth in enumerate(needed):
                self.assertGreaterEqual(self.products(outcome.prices, [row[k] for row in rows]), whole(worth))
            paid = self.products(outcome.prices, bounds)
            if outcome.kind == "best":
                self.assertEqual(paid, self.products(outcome.point, goal))
            else:
                self.assertLess(paid, 0)
        if outcome.ray is not None:
            for row in rows:
                self.assertLessEqual(self.products(row, outcome.ray), 0)
            self.assertGreater(self.products(outcome.ray, goal), 0)
        return outcome

    def check_kind(self, kind, goal, rows, bounds):
        outcome = self.check(ratios(goal), [ratios(row) for row in rows], ratios(bounds))
        self.assertEqual(outcome.kind, kind)
        return outcome

    def check_worth(self, worth, goal, rows, bounds):
        outcome = self.check_kind("best", goal, rows, bounds)
        self.assertEqual(self.products(outcome.point, ratios(goal)), Fraction(worth))
        return outcome


class DotTest(unittest.TestCase):

    def test_products(self):
        self.assertEqual(str(dot(ratios("1/2 3 -1"), ratios("2/3 1/9 5/6"))), "-1/6")
        self.assertEqual(dot([], []), ZERO)
        self.assertEqual(dot([Ratio(2)], [Ratio(3)]), Ratio(6))


class KindTest(LinearTest):

    def test_best(self):
        outcome = self.check_worth("36", "3 5", ["1 0", "0 2", "3 2"], "4 12 18")
        self.assertEqual(texts(outcome.point), ["2", "6"])
        self.assertEqual(texts(outcome.prices), ["0", "3/2", "1"])
        self.check_worth("20/9", "1 1", ["1 2", "4 -1"], "3 5")
        self.check_worth("17/72", "1/2 1/3", ["1/5 1/7", "3/4 9/8"], "1 17/48")

    def test_point_zero(self):
        self.check_worth("0", "-1 0", ["1 1"], "5")
        self.check_worth("0", "0 0", ["1 1", "-1 -1"], "5 5")
        self.check_worth("0", "1 1", ["1 1"], "0")

    def test_bounds_below_zero(self):
        self.check_worth("-3", "-1", ["-1"], "-3")
        self.check_worth("-3", "-1 -2", ["-1 -1", "-2 1"], "-3 -5")
        self.check_worth("8", "1 2", ["-1 -1", "1 1", "1 0"], "-4 4 3")
        self.check_worth("1", "1 0", ["-1 -1", "1 1", "1 -1"], "-2 2 0")

    def test_none(self):
        self.check_kind("none", "1", ["1"], "-1")
        self.check_kind("none", "1", ["1", "-1"], "2 -3")
        self.check_kind("none", "0 0", ["1 1", "-1 0", "0 -1"], "1 -2/3 -1/2")
        # The goal would have no end, but no point satisfies the rows.
        self.check_kind("none", "0 1", ["1 0", "-1 0"], "2 -3")

    def test_endless(self):
        outcome = self.check_kind("endless", "0 1", ["1 0"], "3")
        self.assertEqual(outcome.ray[0], ZERO)
        self.check_kind("endless", "1 1", ["1 -1", "-1 1"], "1 1")
        self.check_kind("endless", "2 -1", ["1 -1", "-1 0"], "0 -5")
        self.check_kind("endless", "1", ["-1"], "-10")
        self.check_kind("endless", "1", ["-1"], "10")
        self.check_kind("endless", "0 3/2 0", ["0 0 1"], "4")

    def test_no_coordinates(self):
        self.assertEqual(self.check_worth("0", "", ["", ""], "0 4").point, [])
        self.assertEqual(texts(self.check_kind("none", "", ["", "", ""], "1 -2 3").prices)[::2], ["0", "0"])
        self.check_kind("none", "", ["", ""], "-1 -1/2")
        outcome = self.check_worth("0", "", [], "")
        self.assertEqual((outcome.point, outcome.prices), ([], []))

    def test_no_rows(self):
        self.assertEqual(self.check_worth("0", "0 -1 -2/3", [], "").prices, [])
        self.check_kind("endless", "0 1 -1", [], "")
        self.check_kind("endless", "1/7", [], "")

    def test_rows_that_say_nothing(self):
        self.check_worth("5", "1 0", ["0 0", "1 0", "0 0"], "0 5 2")
        self.check_kind("none", "1 0", ["0 0", "1 0"], "-1 5")
        self.check_kind("endless", "1 0", ["0 0"], "0")

    def test_rows_that_repeat(self):
        self.check_worth("4", "1 1", ["1 1"] * 5, "4 4 4 4 4")
        self.check_worth("4", "1 1", ["1 1", "2 2", "1/3 1/3"], "4 8 4/3")
        self.check_worth("3", "1 0", ["1 1", "-1 -1", "1 -1", "2 0", "0 0"], "3 -3 3 6 0")
        self.check_kind("none", "1 0", ["1 1", "-1 -1", "1 1"], "3 -4 3")
        self.check_kind("endless", "1 1", ["1 -1", "1 -1", "2 -2", "-1 1"], "0 0 0 0")


class CircleTest(LinearTest):
    """Programs on which careless choices go round in circles."""

    def test_beale(self):
        self.check_worth("1/20", "3/4 -150 1/50 -6", ["1/4 -60 -1/25 9", "1/2 -90 -1/50 3", "0 0 1 0"], "0 0 1")

    def test_chvatal(self):
        self.check_worth("1", "10 -57 -9 -24", ["1/2 -11/2 -5/2 9", "1/2 -3/2 -1/2 1", "1 0 0 0"], "0 0 1")

    def test_kuhn(self):
        self.check_worth("2", "2 3 -1 -12", ["-2 -9 1 9", "1/3 1 -1/3 -2", "2 3 -1 -12"], "0 0 2")

    def test_marshall_suurballe(self):
        self.check_kind("endless", "2/5 2/5 -9/5", ["3/5 -32/5 24/5", "1/5 -9/5 3/5", "-1 0 0"], "0 0 0")
        self.check_kind("best", "1 -7 -1 -2", ["1/2 -11/2 -5/2 9", "1/2 -3/2 -1/2 1", "1 0 0 0"], "0 0 1")

    def test_without_a_point_at_zero(self):
        self.check_worth("-1", "0 -1", ["1 -1", "-1 -1", "1 1", "2 0", "-2 0"], "0 -1 1 0 0")
        self.check_kind("none", "0 0", ["-1 1", "1 -1", "1 1", "-1 -1"], "0 0 1 -2")

    def test_cube_that_is_long_to_walk_around(self):
        many = 8
        rows, bounds = [], []
        for k in range(many):
            rows.append([Ratio(2 ** (k - j + 1)) if j < k else Ratio(int(j == k)) for j in range(many)])
            bounds.append(Ratio(5 ** (k + 1)))
        outcome = self.check([Ratio(2 ** (many - 1 - k)) for k in range(many)], rows, bounds)
        self.assertEqual(dot(outcome.point, [Ratio(2 ** (many - 1 - k)) for k in range(many)]), Ratio(5 ** many))

    def test_many_bounds_of_zero(self):
        choose = random.Random(11)
        for _ in range(150):
            columns, count = choose.randint(1, 8), choose.randint(1, 8)
            rows = [[Ratio(choose.choice([-1, 0, 0, 1])) for _ in range(columns)] for _ in range(count)]
            bounds = [Ratio(choose.choice([0, 0, 0, 1])) for _ in range(count)]
            self.check([Ratio(choose.randint(-1, 1)) for _ in range(columns)], rows, bounds)


class RandomTest(LinearTest):

    def random_ratio(self, choose, size):
        return Ratio(choose.randint(-size, size), choose.choice([1, 1, 1, 2, 3, 7]))

    def test_certificates(self):
        choose = random.Random(4)
        kinds = {"best": 0, "none": 0, "endless": 0}
        for _ in range(2500):
            columns, count, size = choose.randint(0, 5), choose.randint(0, 6), choose.choice([1, 2, 9])
            rows = [[self.random_ratio(choose, size) for _ in range(columns)] for _ in range(count)]
            bounds = [self.random_ratio(choose, size) for _ in range(count)]
            if count > 2 and choose.random() < 0.4:
                rows[0] = [one + other for one, other in zip(rows[1], rows[2])]
                bounds[0] = bounds[1] + bounds[2]
            goal = [self.random_ratio(choose, size) for _ in range(columns)]
            kinds[self.check(goal, rows, bounds).kind] += 1
        self.assertGreater(min(kinds.values()), 200)

    def test_all_corners(self):
        """In two dimensions the best corner is found by looking at all of them."""
        choose = random.Random(6)
        for _ in range(200):
            rows = [[choose.randint(-3, 3), choose.randint(-3, 3)] for _ in range(3)] + [[1, 0], [0, 1]]
            bounds = [choose.randint(-2, 4) for _ in range(3)] + [5, 5]
            goal = [choose.randint(-3, 3), choose.randint(-3, 3)]
            lines = list(zip(rows, bounds)) + [([-1, 0], 0), ([0, -1], 0)]
            worths = []
            for ((a, b), e), ((c, d), f) in itertools.combinations(lines, 2):
                if a * d != b * c:
                    x, y = Fraction(e * d - b * f, a * d - b * c), Fraction(a * f - e * c, a * d - b * c)
                    if all(p * x + q * y <= bound for (p, q), bound in lines):
                        worths.append(goal[0] * x + goal[1] * y)
            numbers = [[Ratio(n) for n in row] for row in rows]
            outcome = self.check([Ratio(n) for n in goal], numbers, [Ratio(n) for n in bounds])
            if worths:
                self.assertEqual(whole(dot(outcome.point, [Ratio(n) for n in goal])), max(worths))
            else:
                self.assertEqual(outcome.kind, "none")

    def test_large_numbers(self):
        big = Ratio(10 ** 59 + 7, 3)
        outcome = self.check([Ratio(1), Ratio(1)], [[big, Ratio(1)], [Ratio(1), big]], [big, big])
        self.assertEqual(outcome.kind, "best")
        self.assertEqual(outcome.point[0], outcome.point[1])

    def test_the_same_list_twice(self):
        row = ratios("1 2")
        outcome = self.check(row, [row, row], ratios("3 3"))
        self.assertEqual(str(dot(outcome.point, row)), "3")


if __name__ == "__main__":
    unittest.main()
