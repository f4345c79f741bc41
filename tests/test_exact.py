"""The value of a game: points 57 and 58."""

import random
import time
import unittest

from sureplay.answers import all_pure, sure_of
from sureplay.average import average, average_by_weights
from sureplay.errors import TooLarge
from sureplay.exact import solve
from sureplay.plan import Plan, even, fits
from sureplay.ratio import Ratio
from sureplay.tree import End, Lot, Turn
from sureplay.views import rows_of, views_of
from tests.support import refusal
from tests.trees import asked, pure_count, sample_trees, slow_average, slow_pure, tree_from, whole

ODD_ONE = "var x {0} var y {0} round a first x {0} second y {0} if = x y pay 1 else take 1 end end"


def matrix(rows):
    """The tree in which both players move once, without seeing each other's move."""
    turns = [Turn(2, asked(1, len(row)), [End(paid) for paid in row]) for row in rows]
    return Turn(1, asked(0, len(rows)), turns)


def two_hands(many, choose):
    """Both players get one of so many cards each, and player 2 sees nothing of player 1's move."""
    def second(j):
        return Turn(2, asked(1, 2, j), [End(choose.randint(-9, 9)) for _ in range(2)])
    return Lot([Lot([Turn(1, asked(0, 2, i), [second(j) for _ in range(2)]) for j in range(many)])
                for i in range(many)])


class SolveTest(unittest.TestCase):

    def check(self, tree, value=None):
        """The solution of a tree, if its plans fit and secure its value exactly."""
        solution = solve(tree)
        self.assertIsInstance(solution.value, Ratio)
        for player, plan in ((1, solution.first), (2, solution.second)):
            self.assertTrue(fits(plan, tree, player))
            told = sorted([(repr(view), len(lots)) for view, lots in plan.entries()])
            self.assertEqual(told, sorted([(repr(view), count) for view, count in views_of(tree, player)]))
            self.assertEqual(sure_of(tree, player, plan), solution.value)
        self.assertEqual(average(tree, solution.first, solution.second), solution.value)
        self.assertEqual(average_by_weights(tree, solution.first, solution.second), solution.value)
        if value is not None:
            self.assertEqual(str(solution.value), value)
        return solution


class KnownTest(SolveTest):

    def check_text(self, value, text):
        return self.check(tree_from(text), value)

    def test_matching_coins(self):
        solution = self.check_text("0", ODD_ONE.format(2))
        for plan, number in ((solution.first, 0), (solution.second, 1)):
            self.assertEqual(plan.lots_at(asked(number, 2), 2), [Ratio(1, 2), Ratio(1, 2)])
        self.check_text("-1/3", ODD_ONE.format(3))
        self.check_text("-3/4", ODD_ONE.format(8))
        self.check_text("1", ODD_ONE.format(1))

    def test_scissors(self):
        text = ("var x 3 var y 3 var z 3 round a first x 3 second y 3 set z mod - + x 3 y 3 "
                "if = z 1 pay 1 end if = z 2 take 1 end end")
        solution = self.check_text("0", text)
        self.assertEqual(solution.first.lots_at(asked(0, 3), 3), [Ratio(1, 3)] * 3)

    def test_moves_that_are_seen(self):
        self.check_text("-1", ODD_ONE.format(2).replace("second", "show second x second"))
        self.check_text("1", "var x 2 var y 2 round a second y 2 show first y first x 2 "
                             "if = x y pay 1 else take 1 end end")

    def test_an_own_move_that_must_be_remembered(self):
        # Player 1 is paid for repeating its own unseen move, or else for being guessed wrong.
        self.check_text("3", "var x 2 var y 2 round a first x 2 first y 2 if = x y pay 3 end end")
        text = ("var x 2 var y 2 var z 2 round a first x 2 second y 2 end "
                "round b first z 2 if = x z if = x y pay 1 else pay 3 end end end")
        self.check_text("2", text)

    def test_a_card_game(self):
        # One of three cards for each; player 1 may bet, player 2 may call: the high card takes the pot.
        text = ("var a 3 var b 3 var x 2 var y 2 round deal draw a 3 draw b 2 if < b a else set b + b 1 end "
                "show first a show second b end "
                "round bet first x 2 if x show second 1 second y 2 "
                "if y if < b a pay 2 else take 2 end else pay 1 end "
                "else if < b a pay 1 else take 1 end end end")
        self.check_text("1/18", text)

    def test_a_game_against_chance(self):
        self.check_text("7/2", "var x 6 var y 2 round a draw x 6 first y 2 if y pay 3 else pay + x 1 end end")
        self.check_text("9/2", "var x 6 var y 2 round a draw x 6 show first x first y 2 "
                                "if y pay / 7 2 else pay + x 1 end pay < 2 x end")

    def test_no_views(self):
        for text, value in (("", "0"), ("round a take 5 end", "-5"), ("var x 4 round a draw x 4 pay x end", "3/2")):
            solution = self.check_text(value, text)
            self.assertEqual((solution.first.entries(), solution.second.entries()), ([], []))
        self.assertEqual(self.check_text("4", "var x 5 round a first x 5 pay x end").second.entries(), [])
        self.assertEqual(self.check_text("0", "var x 5 round a second x 5 pay x end").first.entries(), [])
        self.check(End(-3), "-3")

    def test_one_move_only(self):
        self.check_text("4", "var x 2 round a first x 1 second x 1 pay 4 end")

    def test_moves_that_never_matter(self):
        self.check_text("6", "var x 8 round a first x 8 second x 8 pay 6 end")
        text = "var x 2 var y 2 round a first x 2 if x second y 2 first y 2 pay y else pay 9 end end"
        solution = self.check_text("9", text)
        self.assertEqual(len(solution.first.entries()), 2)

    def test_large_payments(self):
        big = 10 ** 58
        self.check(matrix([[big, -big], [-big, big]]), "0")
        self.check(matrix([[big, big + 1], [big + 2, big]]), str(Ratio(3 * big + 2, 3)))
        self.check(matrix([[-big, 0], [0, -1]]), str(Ratio(-big, big + 1)))
        self.check(Lot([matrix([[3 * big, 1], [1, big]]), End(-big)]))

    def test_a_matrix_without_a_best_move(self):
        self.check(matrix([[3, -1], [-2, 4]]), "1")
        self.check(matrix([[1, 5, 2], [7, 0, 3]]), "5/2")
        self.check(matrix([[5]]), "5")
        self.check(matrix([[2, 3], [1, 9]]), "2")


class PureTest(SolveTest):

    def test_against_every_pure_plan(self):
        checked = 0
        for tree in sample_trees(150, most=200):
            if max(len(rows_of(tree, player)) for player in (1, 2)) <= 24:
                solution = self.check(tree)
                for player in (1, 2):
                    if pure_count(tree, player) <= 32:
                        for _, plan in slow_pure(tree, player):
                            checked += 1
                            if player == 2:
                                paid = slow_average(tree, solution.first, plan)
                                self.assertGreaterEqual(paid, whole(solution.value))
                            else:
                                paid = slow_average(tree, plan, solution.second)
                                self.assertLessEqual(paid, whole(solution.value))
        self.assertGreater(checked, 500)

    def test_random_matrices(self):
        choose = random.Random(2)
        for _ in range(60):
            count = choose.randint(1, 6)
            self.check(matrix([[choose.randint(-3, 3) for _ in range(count)] for _ in range(choose.randint(1, 6))]))

    def test_random_hands(self):
        choose = random.Random(3)
        for many in (1, 2, 3, 4):
            tree = two_hands(many, choose)
            solution = self.check(tree)
            for plan in all_pure(tree, 1):
                self.assertTrue(average(tree, plan, solution.second).at_most(solution.value))
            for plan in all_pure(tree, 2):
                self.assertTrue(solution.value.at_most(average(tree, solution.first, plan)))

    def test_the_tree_stays(self):
        tree = matrix([[3, -1], [-2, 4]])
        solve(tree)
        self.assertEqual(average(tree, even(views_of(tree, 1)), Plan([])), Ratio(1, 2))


class RowsTest(SolveTest):

    def one_side(self, player, *counts):
        turns = [Turn(player, asked(k, count), [End(m) for m in range(count)]) for k, count in enumerate(counts)]
        return Lot(turns)

    def test_bounds_of_each_player(self):
        for player in (1, 2):
            for counts in ((24,), (8, 8, 8), (1,) * 24, (7, 8, 8, 1)):
                self.check(self.one_side(player, *counts))
            for counts in ((25,), (8, 8, 8, 1), (1,) * 25, (2,) * 13):
                self.assertEqual(refusal(TooLarge, solve, self.one_side(player, *counts)).what, "rows")

    def test_both_at_the_bound(self):
        self.check(matrix([[(i * j + i) % 7 for j in range(24)] for i in range(24)]))
        for rows, columns in ((24, 25), (25, 24), (25, 25)):
            tree = matrix([[0] * columns for _ in range(rows)])
            self.assertEqual(refusal(TooLarge, solve, tree).what, "rows")

    def test_a_text_at_the_bound(self):
        text = "var x 8 var y 8 round a draw x 3 show first x first y 8 end"
        self.check(tree_from(text), "0")
        more = text.replace(" end", " if = x 2 if = y 7 first x 1 end end end")
        self.assertEqual(refusal(TooLarge, solve, tree_from(more)).what, "rows")

    def test_time(self):
        choose = random.Random(9)
        begin = time.monotonic()
        for size in (1, 9, 10 ** 12):
            self.check(matrix([[choose.randint(-size, size) for _ in range(24)] for _ in range(24)]))
        self.check(matrix([[0 if i == j else 1 if (i - j) % 24 <= 12 else -1 for j in range(24)] for i in range(24)]))
        for _ in range(3):
            self.check(two_hands(12, choose))
        self.assertLess(time.monotonic() - begin, 60)


if __name__ == "__main__":
    unittest.main()
