"""Brains and plans: points 80 to 82 and 84."""

import random
import time
import unittest
from fractions import Fraction

from sureplay.average import average
from sureplay.brain import brain_text, read_brain
from sureplay.errors import TooLarge
from sureplay.exact import solve
from sureplay.lots import common
from sureplay.mixing import brain_of, lots_of
from sureplay.plan import Plan, even, fits, pure, weight_of
from sureplay.ratio import Ratio
from sureplay.tape import Tape
from sureplay.think import outcomes, think
from sureplay.tree import End, Lot, Turn
from sureplay.views import last_row, rows_of, views_of
from tests.minds import BrainWriter, slow_lots_of, slow_outcomes
from tests.support import refusal
from tests.trees import asked, random_plan, ratios, sample_trees, tree_from, whole, written

# Player 1 moves twice, seeing what it did first; player 2 moves between, unseen.
TWICE = "var x {0} var y 2 round a first x {0} second y 2 first x {1} pay + x y end"

FIRST = asked(0, 2)


def then(move, number, count, view=FIRST):
    """The view behind this move, at which the player is asked again."""
    return view + (("did", move), ("move", number, count))


def fractions(plan):
    return [(view, [whole(lot) for lot in lots]) for view, lots in plan.entries()]


class LotsOfTest(unittest.TestCase):

    def check(self, text, tree, player, *told):
        plan = lots_of(read_brain(text), tree, player)
        self.assertIsInstance(plan, Plan)
        self.assertTrue(fits(plan, tree, player))
        self.assertEqual([(view, len(lots)) for view, lots in plan.entries()], views_of(tree, player))
        if told:
            self.assertEqual(written(plan), [(view, lots.split()) for view, lots in told])
        return plan

    def test_one_view(self):
        tree = tree_from("var x 4 var y 3 round a first x 4 second y 3 end")
        self.check("player 9 answer 2", tree, 1, (asked(0, 4), "0 0 1 0"))
        self.check("player 9 answer 2", tree, 2, (asked(1, 3), "0 0 1"))
        self.check("player 9 answer 3", tree, 2, (asked(1, 3), "1 0 0"))
        self.check("player 9 keep a 0 lot a 6 answer a", tree, 1, (asked(0, 4), "1/2 1/6 1/6 1/6"))
        self.check("player 9 keep a 0 lot a 4 answer / a 2", tree, 2, (asked(1, 3), "1/2 1/2 0"))
        self.check("player 1 keep a 0 lot a 3 if a end answer a", tree, 1, (asked(0, 4), "1 0 0 0"))

    def test_what_the_player_sees(self):
        tree = tree_from("var x 3 var y 2 round a draw x 3 show second x second y 2 end")
        self.check("player 9 keep a 0 lot a + 1 view 4 answer a", tree, 2,
                   (asked(0, 2, 0), "1 0"), (asked(0, 2, 1), "1/2 1/2"), (asked(0, 2, 2), "2/3 1/3"))

    def test_cells_remember_lots(self):
        # The lot falls at the first move only; the second move repeats it, whatever was done first.
        tree = tree_from(TWICE.format(2, 2))
        text = "player 9 keep a 0 keep n 0 if n else lot a 3 set n 1 end answer {0}"
        self.check(text.format("< 0 a"), tree, 1, (FIRST, "1/3 2/3"), (then(0, 2, 2), "1 0"), (then(1, 2, 2), "0 1"))
        self.check(text.format("= a n"), tree, 1, (FIRST, "2/3 1/3"), (then(0, 2, 2), "1 0"), (then(1, 2, 2), "0 1"))
        # What the first move tells of the cell makes the lots of the second one.
        self.check("player 9 keep a 0 keep n 0 if n else lot a 3 end set n + n 1 answer / a - 3 n", tree, 1,
                   (FIRST, "2/3 1/3"), (then(0, 2, 2), "1/2 1/2"), (then(1, 2, 2), "1 0"))

    def test_cells_remember_moves(self):
        tree = tree_from(TWICE.format(2, 2))
        self.check("player 9 keep a 0 keep b 0 set b a lot a 2 answer - a b", tree, 1,
                   (FIRST, "1/2 1/2"), (then(0, 2, 2), "1/2 1/2"), (then(1, 2, 2), "1 0"))

    def test_silent_moves_keep_the_cells(self):
        tree = tree_from(TWICE.format(2, 2))
        # The first move of the brain is silent if the lot is 2, and then the cell is still 5.
        self.check("player 4 keep a 5 if = a 5 lot a 3 end if = a 2 while 1 end end answer < 0 a", tree, 1,
                   (FIRST, "2/3 1/3"), (then(0, 2, 2), "5/6 1/6"), (then(1, 2, 2), "0 1"))

    def test_views_that_the_brain_never_reaches(self):
        tree = tree_from("var x 3 round a first x 3 first x 2 first x 2 end")
        first = asked(0, 3)
        lines = [(first, "0 1 0")]
        for k in range(3):
            second = then(k, 1, 2, first)
            lines.append((second, "0 1" if k == 1 else "1 0"))
            lines += [(then(j, 2, 2, second), "0 1" if (k, j) == (1, 1) else "1 0") for j in range(2)]
        self.check("player 9 answer 1", tree, 1, *lines)

    def test_no_views(self):
        for tree in (End(3), tree_from("var x 2 round a second x 2 end")):
            self.assertEqual(written(lots_of(read_brain("player 9 answer 1"), tree, 1)), [])

    def test_the_other_player_does_not_matter(self):
        tree = tree_from(TWICE.format(2, 2))
        brain = read_brain("player 9 keep a 0 lot a 2 answer a")
        self.assertEqual(written(lots_of(brain, tree, 2)), [(asked(1, 2), ["1/2", "1/2"])])

    def test_slow_computation(self):
        checked = 0
        trees = sample_trees(60, most=80)
        for seed in range(240):
            tree = trees[seed % len(trees)]
            brain = read_brain(BrainWriter(seed).text())
            for player in (1, 2):
                views = views_of(tree, player)
                if all(len(slow_outcomes(brain, brain.start(), view, count)) < 30 for view, count in views):
                    checked += len(views)
                    plan = lots_of(brain, tree, player)
                    self.assertEqual(fractions(plan), slow_lots_of(brain, tree, player), seed)
        self.assertGreater(checked, 500)

    def test_three_moves(self):
        tree = tree_from("var x 2 round a first x 2 show first x first x 2 first x 2 end")
        for seed in range(120):
            brain = read_brain(BrainWriter(1000 + seed, lots=("1", "2", "2")).text())
            if len(slow_outcomes(brain, brain.start(), FIRST, 2)) < 9:
                self.assertEqual(fractions(lots_of(brain, tree, 1)), slow_lots_of(brain, tree, 1), seed)


class TooLargeTest(unittest.TestCase):

    TREE = tree_from("var x 2 round a first x 1 first x 1 first x 1 end")

    # So many numbers does the brain see at its three moves.
    LONG = (6, 12, 18)

    def brain(self, *bodies):
        """A brain with one body for each of its moves."""
        parts = [f"if = long {long} {body} end" for long, body in zip(self.LONG, bodies) if body]
        return read_brain(" ".join(["player 9999 keep a 0 keep b 0 keep c 0", *parts, "answer 0"]))

    def refused(self, what, *bodies):
        self.assertEqual(refusal(TooLarge, lots_of, self.brain(*bodies), self.TREE, 1).what, what)

    def accepted(self, *bodies):
        plan = lots_of(self.brain(*bodies), self.TREE, 1)
        self.assertEqual([lots for _, lots in written(plan)], [["1"]] * 3)

    def test_lots(self):
        self.accepted("lot a 200")
        self.refused("lots", "lot a 201")
        self.accepted("lot a 2", "if a set a 0 lot b 200 end")
        self.refused("lots", "lot a 2", "if a set a 0 lot b 201 end")
        self.refused("lots", "", "", "lot a 201")
        self.accepted("", "", "lot a 200")

    def test_minds(self):
        self.accepted("lot a 200", "set b a set a + a 7")
        self.accepted("lot a 2", "lot b 100")
        self.refused("minds", "lot a 3", "lot b 67")
        self.accepted("lot a 200", "if = a 7 set a 0 end lot b 1", "set b a set a 0")
        self.refused("minds", "lot a 199", "if a else lot b 3 end")
        self.accepted("lot a 199", "if a else lot b 2 end")
        self.refused("minds", "lot a 100", "lot b 2", "if = b a lot c 2 end")
        self.accepted("lot a 100", "lot b 2", "set b 0 lot c 2")

    def test_minds_count_for_each_move(self):
        tree = tree_from("var x 2 round a first x 1 first x 2 end")
        text = "player 99 keep a 0 keep b 0 if = long 6 lot a {0} else lot b {1} end answer mod b 2"
        for many, more, fine in ((100, 4, True), (101, 4, False), (200, 2, True), (67, 6, False), (66, 6, True)):
            brain = read_brain(text.format(many, more))
            if fine:
                self.assertEqual(written(lots_of(brain, tree, 1))[1][1], ["1/2", "1/2"])
            else:
                self.assertEqual(refusal(TooLarge, lots_of, brain, tree, 1).what, "minds")

    def test_equal_cells_count_once(self):
        self.accepted("lot a 200 set a 0", "lot a 200 set a / a 100", "lot b 100")
        self.refused("minds", "lot a 200 set a 0", "lot a 200 set a / a 100", "lot b 101")

    def test_the_first_one_that_is_met(self):
        # All ways at a view come before the cells that are reached there.
        self.refused("lots", "lot a 3", "if = a 2 lot b 201 else lot b 150 end")
        self.refused("lots", "lot a 4", "if = a 3 lot b 201 else lot b 101 end")
        self.refused("lots", "lot a 4", "if = a 0 lot b 201 else lot b 101 end")
        self.refused("minds", "lot a 3", "lot b 67", "lot c 201")
        self.refused("minds", "lot a 3", "lot b 67", "if = a 0 lot c 300 end")
        self.refused("lots", "lot a 3", "if = a 1 lot b 300 end", "lot b 150 lot c 1")

    def test_views_in_order(self):
        tree = tree_from("var x 2 var y 2 round a draw y 2 first x 1 show first y first x 1 end")
        text = ("player 99 keep a 0 keep b 0 if = long 6 lot a 3 else if = view 10 {0} lot b 67 else lot b 201 end end "
                "answer 0")
        for told, what in ((0, "minds"), (1, "lots")):
            self.assertEqual(refusal(TooLarge, lots_of, read_brain(text.format(told)), tree, 1).what, what)

    def test_views_that_are_not_reached_do_not_count(self):
        tree = tree_from("var x 2 round a first x 2 first x 2 end")
        text = "player 99 keep a 0 if = view 7 {0} lot a 300 end answer 1"
        self.assertEqual(views_of(tree, 1)[1][0], then(0, 1, 2))
        self.assertEqual(written(lots_of(read_brain("player 9 answer 1"), tree, 1))[1], (then(0, 1, 2), ["1", "0"]))
        self.assertEqual(refusal(TooLarge, lots_of, read_brain(text.format(1)), tree, 1).what, "lots")
        never = read_brain("player 99 keep a 0 if = long 12 if = view 7 0 lot a 300 end end answer 1")
        self.assertEqual([lots for _, lots in written(lots_of(never, tree, 1))], [["0", "1"], ["1", "0"], ["0", "1"]])

    def test_time(self):
        begin = time.monotonic()
        brain = self.brain("while 1 lot a 2 end")
        self.assertEqual(refusal(TooLarge, lots_of, brain, self.TREE, 1).what, "lots")
        self.accepted("lot a 200", "lot b 1 set b a", "lot b 200 set a 0")
        self.assertLess(time.monotonic() - begin, 20)


class BrainOfTest(unittest.TestCase):

    def check(self, plan, tree, player):
        """The brain of a plan: its text, its ways, its cells and its lots at every view."""
        brain = brain_of(plan, tree, player)
        text = brain_text(brain)
        self.assertEqual(brain_text(read_brain(text)), text)
        self.assertEqual(read_brain(text), brain)
        made = lots_of(brain, tree, player)
        after = {None: [brain.start()]}
        for view, count in views_of(tree, player):
            lots = plan.lots_at(view, count)
            # Where the plan never comes, the brain is tried as at the beginning.
            for cells in after.get(last_row(view)) or [brain.start()]:
                found = outcomes(brain, cells, view, count)
                self.assertEqual(len(found), common(lots)[1])
                chances = [Fraction(0)] * count
                behind = {}
                for chance, move, changed in found:
                    chances[move] += whole(chance)
                    self.assertEqual(behind.setdefault(move, changed), changed)
                self.assertEqual(chances, [whole(lot) for lot in lots])
                for move in range(count):
                    after[(view, move)] = [behind[move]] if move in behind else []
            earlier = last_row(view)
            if earlier is None or weight_of(plan, earlier[0], earlier[0][-1][2], earlier[1]):
                self.assertEqual(made.lots_at(view, count), lots)
            else:
                self.assertEqual([str(lot) for lot in made.lots_at(view, count)], ["1"] + ["0"] * (count - 1))
        return brain

    def test_kinds_of_plans(self):
        for seed, tree in enumerate(sample_trees(70)):
            for player in (1, 2):
                views = views_of(tree, player)
                for plan in (even(views), pure(views, [count - 1 for _, count in views]), Plan([]),
                             random_plan(seed, tree, player), random_plan(seed, tree, player, keep=1.0)):
                    self.check(plan, tree, player)

    def test_every_move_of_every_view_is_reached(self):
        choose = random.Random(1)
        for seed, tree in enumerate(sample_trees(70)):
            for player in (1, 2):
                entries = []
                for view, count in views_of(tree, player):
                    weights = [choose.randint(1, 5) for _ in range(count)]
                    entries.append((view, [Ratio(weight, sum(weights)) for weight in weights]))
                plan = Plan(entries)
                brain = self.check(plan, tree, player)
                self.assertEqual(lots_of(brain, tree, player).entries(), plan.entries())

    def test_zeros_among_the_lots(self):
        tree = tree_from("var x 8 round a first x 8 end")
        for lots in ("0 0 0 0 0 0 0 1", "0 1/2 0 0 1/3 0 1/6 0", "1 0 0 0 0 0 0 0", "0 0 1/7 6/7 0 0 0 0",
                     "1/200 0 0 0 0 0 0 199/200", "1/8 1/8 1/8 1/8 1/8 1/8 1/8 1/8"):
            self.check(Plan([(asked(0, 8), ratios(lots))]), tree, 1)

    def test_solutions(self):
        for tree in sample_trees(50, most=120):
            if max(len(rows_of(tree, player)) for player in (1, 2)) <= 24:
                solution = solve(tree)
                plans = [lots_of(brain_of(plan, tree, player), tree, player)
                         for player, plan in ((1, solution.first), (2, solution.second))]
                self.assertEqual(average(tree, *plans), solution.value)

    def test_no_views(self):
        for plan in (Plan([]), Plan([(FIRST, ratios("0 1"))])):
            brain = brain_of(plan, End(1), 2)
            self.assertEqual(read_brain(brain_text(brain)), brain)

    def test_lots_too_many_or_too_few(self):
        tree = tree_from("var x 3 round a first x 3 end")
        for lots in ("0 1", "0 0 0 1"):
            brain = brain_of(Plan([(asked(0, 3), ratios(lots))]), tree, 1)
            self.assertEqual(written(lots_of(brain, tree, 1)), [(asked(0, 3), ["1", "0", "0"])])

    def test_views_that_differ_in_one_number(self):
        views = [tuple(("told", int(k == j)) for k in range(40)) + (("move", 0, 2),) for j in range(40)]
        views.append((("told", 0),) * 39 + (("move", 0, 2),))
        tree = Lot([Turn(1, view, [End(0), End(1)]) for view in views])
        plan = Plan([(view, [Ratio(k + 1, 50), Ratio(49 - k, 50)]) for k, view in enumerate(views)])
        self.assertEqual(self.check(plan, tree, 1).start(), brain_of(plan, tree, 1).start())

    def test_views_that_differ_in_their_first_event(self):
        views = [((kind, number), ("move", 0, 2)) for kind in ("round", "told", "did") for number in (0, 1)]
        tree = Lot([Turn(2, view, [End(0), End(1)]) for view in views if view[0][0] != "did"])
        plan = Plan([(view, [Ratio(k + 1, 50), Ratio(49 - k, 50)]) for k, view in enumerate(views)])
        self.check(plan, tree, 2)

    def test_a_view_without_events(self):
        tree = Turn(1, (), [End(0), End(1), End(2)])
        plan = Plan([((), ratios("1/6 0 5/6"))])
        self.assertEqual(written(lots_of(self.check(plan, tree, 1), tree, 1)), written(plan))

    def test_cells_depend_on_the_move_alone(self):
        tree = tree_from("var x 4 round a first x 4 first x 4 end")
        plan = even(views_of(tree, 1))
        brain = brain_of(plan, tree, 1)
        for cells in {changed for _, _, changed in outcomes(brain, brain.start(), asked(0, 4), 4)}:
            view = then(2, 1, 4, asked(0, 4))
            self.assertEqual(outcomes(brain, cells, view, 4), outcomes(brain, brain.start(), view, 4))


class BrainOfTooLargeTest(unittest.TestCase):

    TREE = tree_from("var x 2 var y 2 round a draw y 2 show first y first x 2 end")

    def refused(self, what, plan, tree, player=1):
        self.assertEqual(refusal(TooLarge, brain_of, plan, tree, player).what, what)

    def test_lots(self):
        for view in (asked(0, 2, 0), asked(0, 2, 1)):
            for den in (65535, 65521):
                plan = Plan([(view, [Ratio(2, den), Ratio(den - 2, den)])])
                brain = brain_of(plan, self.TREE, 1)
                for number, move in ((0, 0), (1, 0), (2, 1), (den - 1, 1), (den, 0)):
                    tape = Tape([number])
                    self.assertEqual(think(brain, brain.start(), view, 2, tape)[0], move)
                    self.assertEqual(tape.taken, [(number % den, den)])
            for den in (65536, 65537, 10 ** 50):
                self.refused("lots", Plan([(view, [Ratio(1, den), Ratio(den - 1, den)])]), self.TREE)

    def test_common_denominators(self):
        tree = tree_from("var x 3 round a first x 3 end")
        view = asked(0, 3)
        self.refused("lots", Plan([(view, [Ratio(1, 256), Ratio(1, 257), Ratio(1) - Ratio(1, 256) - Ratio(1, 257)])]),
                     tree)
        fine = [Ratio(1, 255), Ratio(1, 257), Ratio(1) - Ratio(1, 255) - Ratio(1, 257)]
        self.assertEqual(common(fine)[1], 65535)
        brain = brain_of(Plan([(view, fine)]), tree, 1)
        moves = [think(brain, brain.start(), view, 3, Tape([n]))[0] for n in (0, 256, 257, 511, 512, 65534)]
        self.assertEqual(moves, [0, 0, 1, 1, 2, 2])

    def test_views_that_are_not_in_the_tree_do_not_matter(self):
        den = 65536
        plan = Plan([(asked(0, 2, 7), [Ratio(1, den), Ratio(den - 1, den)]),
                     (asked(0, 2, 0), [Ratio(1, den), Ratio(1, den), Ratio(den - 2, den)])])
        brain = brain_of(plan, self.TREE, 1)
        self.assertEqual(written(lots_of(brain, self.TREE, 1)), [(asked(0, 2, k), ["1", "0"]) for k in (0, 1)])
        self.assertEqual(brain_of(plan, self.TREE, 2).units, brain_of(Plan([]), End(0), 2).units)

    def long_view(self, events, told=0):
        return (("told", told),) * (events - 1) + (("move", 0, 2),)

    def side_by_side(self, *views):
        return Lot([Turn(1, view, [End(0), End(1)]) for view in views])

    def test_units(self):
        # 6 L + 4 for the view and 4 more: 65534 and 65540.
        for events, fine in ((10921, True), (10922, False), (20000, False)):
            view = self.long_view(events)
            tree = self.side_by_side(view)
            plan = Plan([(view, ratios("1/3 2/3"))])
            if fine:
                brain = brain_of(plan, tree, 1)
                self.assertEqual(read_brain(brain_text(brain)), brain)
                self.assertEqual(written(lots_of(brain, tree, 1)), written(plan))
                other = self.long_view(events, told=1)
                self.assertEqual(think(brain, brain.start(), other, 2, Tape([2]))[0], 0)
            else:
                self.refused("units", plan, tree)

    def test_units_of_several_views(self):
        for last, fine in ((914, True), (915, False)):
            views = [self.long_view(1000, told=k) for k in range(10)] + [self.long_view(last)]
            tree = self.side_by_side(*views)
            plan = Plan([(view, ratios("1/3 2/3")) for view in views])
            count = sum(6 * len(view) + 4 for view in views) + 4
            self.assertEqual(count <= 65535, fine)
            if fine:
                brain = brain_of(plan, tree, 1)
                for view in views:
                    moves = [think(brain, brain.start(), view, 2, Tape([n]))[0] for n in range(3)]
                    self.assertEqual(moves, [0, 1, 1])
            else:
                self.refused("units", plan, tree)
                self.assertEqual(brain_of(plan, tree, 2).units, brain_of(Plan([]), End(0), 2).units)

    def test_a_text_with_a_long_view(self):
        tree = tree_from("var x 2 round a " + "show first 3 " * 9000 + "first x 2 pay x end")
        view, count = views_of(tree, 1)[0]
        plan = Plan([(view, ratios("1/4 3/4"))])
        brain = read_brain(brain_text(brain_of(plan, tree, 1)))
        self.assertEqual(written(lots_of(brain, tree, 1)), written(plan))

    def test_order(self):
        fine, broken = ratios("0 1"), [Ratio(1, 65536), Ratio(65535, 65536)]
        short, long = self.long_view(3), self.long_view(11000)
        self.refused("lots", Plan([(long, broken)]), self.side_by_side(long))
        self.refused("lots", Plan([(short, broken), (long, fine)]), self.side_by_side(short, long))
        self.refused("units", Plan([(short, broken), (long, fine)]), self.side_by_side(long, short))
        self.refused("lots", Plan([(long, fine), (short, broken)]), self.side_by_side(short, long))
        self.refused("lots", Plan([(short, fine), (long, broken)]), self.side_by_side(short, long))


if __name__ == "__main__":
    unittest.main()
