"""Certificates: points 65 and 66."""

import unittest

from sureplay.answers import sure_of
from sureplay.errors import BadPaper, GameError
from sureplay.exact import solve
from sureplay.paper import Paper, belongs, judge, paper_text, read_paper, settles
from sureplay.plan import Plan, even
from sureplay.ratio import Ratio
from sureplay.tree import End
from sureplay.views import rows_of, views_of
from tests.support import refusal
from tests.trees import asked, random_plan, ratios, sample_trees, tree_from, written

COINS = tree_from("var x 2 var y 2 round a first x 2 second y 2 if = x y pay 1 else take 1 end end")

# Player 1 has two views with two and three moves, player 2 one with two moves.
GAME = tree_from("var x 2 var y 3 round a draw x 2 second x 2 first x 2 if x first y 3 pay y end end")

LATER = asked(1, 2) + (("did", 1), ("move", 2, 3))

NOTHING = Paper(Plan([]), Plan([]))


class PaperTest(unittest.TestCase):

    def test_attributes(self):
        first, second = Plan([]), Plan([(asked(0, 2), ratios("0 1"))])
        paper = Paper(first, second)
        self.assertEqual(written(paper.first), [])
        self.assertEqual(written(paper.second), [(asked(0, 2), ["0", "1"])])

    def test_judge(self):
        found = judge(COINS, NOTHING)
        self.assertIs(type(found), tuple)
        self.assertEqual([str(ratio) for ratio in found], ["-1", "1"])
        half = Paper(even(views_of(COINS, 1)), Plan([]))
        self.assertEqual([str(ratio) for ratio in judge(COINS, half)], ["0", "1"])
        lots = Paper(Plan([(asked(0, 2), ratios("1/3 2/3"))]), Plan([(asked(1, 2), ratios("3/4 1/4"))]))
        self.assertEqual([str(ratio) for ratio in judge(COINS, lots)], ["-1/3", "1/2"])
        self.assertEqual([str(ratio) for ratio in judge(End(-4), NOTHING)], ["-4", "-4"])

    def test_settles(self):
        both = Paper(even(views_of(COINS, 1)), even(views_of(COINS, 2)))
        self.assertIs(settles(COINS, both), True)
        for paper in (NOTHING, Paper(both.first, Plan([])), Paper(Plan([]), both.second)):
            self.assertIs(settles(COINS, paper), False)
        self.assertIs(settles(End(-4), NOTHING), True)

    def test_solutions_and_samples(self):
        for seed, tree in enumerate(sample_trees(60, most=200)):
            if max(len(rows_of(tree, player)) for player in (1, 2)) <= 24:
                solution = solve(tree)
                paper = Paper(solution.first, solution.second)
                self.assertEqual(judge(tree, paper), (solution.value, solution.value))
                self.assertTrue(settles(tree, paper) and belongs(tree, paper))
                again = read_paper(tree, paper_text(tree, paper))
                self.assertTrue(settles(tree, again) and belongs(tree, again))
                other = Paper(random_plan(seed, tree, 1), random_plan(seed, tree, 2))
                low, high = judge(tree, other)
                self.assertEqual((low, high), (sure_of(tree, 1, other.first), sure_of(tree, 2, other.second)))
                self.assertTrue(low.at_most(solution.value) and solution.value.at_most(high))
                self.assertEqual(settles(tree, other), low == high)

    def test_belongs(self):
        first, second = even(views_of(GAME, 1)), even(views_of(GAME, 2))
        more = Plan([(asked(0, 2), ratios("1 0 0"))])
        for told, paper in ((True, Paper(first, second)), (True, NOTHING), (True, Paper(Plan([]), second)),
                            (False, Paper(second, first)), (False, Paper(second, Plan([]))),
                            (False, Paper(Plan([]), first)), (False, Paper(first, more)), (False, Paper(more, second))):
            self.assertIs(belongs(GAME, paper), told)
        self.assertIs(belongs(COINS, Paper(first, second)), False)


class TextTest(unittest.TestCase):

    def test_lines_in_order(self):
        paper = Paper(Plan([(LATER, ratios("1/2 0 1/2")), (asked(1, 2), ratios("1/3 2/3"))]),
                      Plan([(asked(0, 2), ratios("0 1"))]))
        lines = paper_text(GAME, paper)
        self.assertIs(type(lines), list)
        self.assertEqual(lines, ["1/3 2/3", "1/2 0 1/2", "0 1"])
        lines.clear()
        self.assertEqual(len(paper_text(GAME, paper)), 3)
        self.assertEqual(paper_text(End(3), NOTHING), [])

    def test_views_that_are_left_out(self):
        self.assertEqual(paper_text(GAME, NOTHING), ["1 0", "1 0 0", "1 0"])
        paper = Paper(Plan([(LATER, ratios("0 1"))]), Plan([(asked(0, 2), ratios("0 0 1"))]))
        self.assertEqual(paper_text(GAME, paper), ["1 0", "1 0 0", "1 0"])

    def test_read(self):
        lines = ["1/3 2/3", "1/2 0 1/2", "0 1"]
        paper = read_paper(GAME, lines)
        self.assertEqual(written(paper.first), [(asked(1, 2), ["1/3", "2/3"]), (LATER, ["1/2", "0", "1/2"])])
        self.assertEqual(written(paper.second), [(asked(0, 2), ["0", "1"])])
        self.assertEqual(lines, ["1/3 2/3", "1/2 0 1/2", "0 1"])
        empty = read_paper(End(3), [])
        self.assertEqual((written(empty.first), written(empty.second)), ([], []))

    def test_read_what_was_written(self):
        for seed, tree in enumerate(sample_trees(60)):
            paper = Paper(random_plan(seed, tree, 1), random_plan(seed + 1, tree, 2))
            lines = paper_text(tree, paper)
            again = read_paper(tree, lines)
            self.assertEqual(paper_text(tree, again), lines)
            for player, plan, old in ((1, again.first, paper.first), (2, again.second, paper.second)):
                told = [(view, old.lots_at(view, count)) for view, count in views_of(tree, player)]
                self.assertEqual(plan.entries(), told)

    def test_sixty_digits(self):
        big = 10 ** 59
        lines = [f"1/{big} {big - 1}/{big}", "1 0 0", "1 0"]
        self.assertEqual(paper_text(GAME, read_paper(GAME, lines)), lines)
        self.check(0, f"1/{big * 10} {big * 10 - 1}/{big * 10}", "1 0 0", "1 0")

    def check(self, place, *lines):
        error = refusal(BadPaper, read_paper, GAME, list(lines))
        self.assertEqual(error.place, place, lines)
        self.assertIsInstance(error, GameError)

    def test_wrong_lines(self):
        right = ["1/2 1/2", "1/3 1/3 1/3", "0 1"]
        wrong = ["", " ", "1", "1/2 1/4 1/4 0 0", "1/2  1/2", " 1/2 1/2", "1/2 1/2 ", "1/2 1/2  ", "1/2\t1/2", "1/2 1/2\n",
                 "1/2 1/2\t", "1/2\n1/2", "2/4 1/2", "1/2 0.5", "1/2 a", "+1 0", "01 0", "-0 1", "1/1 0", "1/0 1",
                 "1/2 1/3", "1 1", "0 0", "2 -1", "-1/2 3/2", "1/2,1/2", "1/2 / 1/2", "1/2 -1/2", "1/ 0"]
        for at in range(3):
            for line in wrong:
                lines = list(right)
                # Behind numbers that are right for two and for three moves the line stays wrong.
                lines[at] = line + " 0" if at == 1 and len(line.split(" ")) == 2 else line
                self.check(at, *lines)
        self.check(0, "1/3 1/3 1/3", *right[1:])
        self.check(1, right[0], "1/2 1/2", right[2])
        self.check(2, *right[:2], "0 1 0")
        self.check(1, right[0], right[1] + " 0", right[2])

    def test_missing_and_surplus_lines(self):
        right = ["1/2 1/2", "1/3 1/3 1/3", "0 1"]
        for count in range(3):
            self.check(count, *right[:count])
        for more in ("", "0 1", "1", "nothing"):
            self.check(3, *right, more)
            self.check(3, *right, more, "")
        self.assertEqual(refusal(BadPaper, read_paper, End(0), [""]).place, 0)
        self.assertEqual(refusal(BadPaper, read_paper, COINS, ["1 0"]).place, 1)

    def test_the_first_wrong_line(self):
        self.check(0, "", "", "")
        self.check(1, "1 0", "1 0", "1")
        self.check(1, "1 0", "1 0")
        self.check(0, "1 1")
        self.check(2, "1 0", "1 0 0", "x 0", "1 0")
        self.check(1, "1 0", "1 0 1/2", "1 0", "1 0")


if __name__ == "__main__":
    unittest.main()
