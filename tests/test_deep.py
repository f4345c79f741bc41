"""Trees in which all nodes lie on a few long ways: for points 21, 30 to 37 and 101, and what is asked of trees."""

import unittest

from sureplay.answers import all_pure, answer_plan, best_for, sure_of
from sureplay.average import average, average_by_weights, chances
from sureplay.brain import brain_text, read_brain
from sureplay.check import check_program
from sureplay.compose import before, least_switches, swapped
from sureplay.edits import changes
from sureplay.errors import BadMove, TooLarge
from sureplay.exact import solve
from sureplay.gametext import Game, game_text, moves_of, read_game
from sureplay.machine import Machine
from sureplay.mixing import brain_of, lots_of
from sureplay.optimize import fast_program
from sureplay.paper import Paper, belongs, judge, paper_text, read_paper, settles
from sureplay.plan import even, fits, weight_of
from sureplay.program import mind_of, program_of
from sureplay.ratio import Ratio
from sureplay.space import Space
from sureplay.table import average_of_brains, play
from sureplay.tree import End, Lot, Turn, tree_of
from sureplay.views import last_row, places, remembers, rows_of, views_of, way_to
from sureplay.walk import ends, follow, position_of, run
from tests.support import refusal, shallow

WORDS = {"d": "draw", "f": "first", "s": "second"}

# Ways of 400 nodes with the end: draws alone, moves of one player alone, and moves among draws.
LONG_WAYS = ("d" * 399, "f" * 399, "s" * 399, "fs" * 199 + "d", "sdf" * 133)

BRAIN = "player 3 keep a 0 set a + a 1 answer 0"


def one_way(kinds):
    """The game with these draws and moves on a single way; each 24 of them make a game, and all are put together."""
    games = []
    for at in range(0, len(kinds), 24):
        name = f"v{at}"
        choices = " ".join(f"{WORDS[kind]} {name} 1" for kind in kinds[at:at + 24])
        games.append(read_game(f"var {name} 1 round r{at} {choices} pay 1 end"))
    game = games[0]
    for other in games[1:]:
        game = before(game, other)
    return game


def way_data(kinds):
    """What both players have seen at the end of such a way, and the pairs of a view and a move of each player."""
    seen = {1: [], 2: []}
    rows = {1: [], 2: []}
    number = 0
    for at, kind in enumerate(kinds):
        if at % 24 == 0:
            for events in seen.values():
                events.append(("round", at // 24))
        if kind != "d":
            player = "fs".index(kind) + 1
            seen[player].append(("move", number, 1))
            rows[player].append((tuple(seen[player]), 0))
            seen[player].append(("did", 0))
            number += 1
    return seen, rows


class LongWayTest(unittest.TestCase):

    def trees(self):
        """The triples of the kinds, the game and the tree of each long way."""
        return [(kinds, one_way(kinds), shallow(tree_of, one_way(kinds))) for kinds in LONG_WAYS]

    def test_nodes(self):
        for kinds, game, tree in self.trees():
            _, rows = way_data(kinds)
            met = {1: [], 2: []}
            node = tree
            for kind in kinds:
                self.assertIsInstance(node, Lot if kind == "d" else Turn)
                self.assertEqual(len(node.parts), 1)
                if kind != "d":
                    self.assertEqual(node.player, "fs".index(kind) + 1)
                    met[node.player].append((node.view, 0))
                node = node.parts[0]
            self.assertIsInstance(node, End)
            self.assertEqual(node.paid, 17)
            self.assertEqual(met, rows)
            self.assertEqual(shallow(places, tree), 400)
            self.assertEqual(shallow(ends, tree), [17])
            self.assertEqual(len(moves_of(game)), len(kinds) - kinds.count("d"))

    def test_one_more(self):
        for kinds in LONG_WAYS:
            for kind in "dfs":
                self.assertEqual(refusal(TooLarge, shallow, tree_of, one_way(kinds + kind)).what, "places")
        self.assertEqual(refusal(TooLarge, shallow, run, one_way("d" * 400), [5]).what, "places")
        self.assertEqual(refusal(TooLarge, shallow, Space(one_way("d" * 1000)).value, 0).what, "places")

    def test_lengths_at_which_calls_within_calls_would_end(self):
        for many in (100, 200, 250, 333, 337, 384, 398):
            tree = shallow(tree_of, one_way("d" * many))
            self.assertEqual(shallow(places, tree), many + 1)
            self.assertEqual(shallow(ends, tree), [(many + 23) // 24])

    def test_views_and_rows(self):
        for kinds, _, tree in self.trees():
            _, rows = way_data(kinds)
            for player in (1, 2):
                self.assertEqual(shallow(views_of, tree, player), [(view, 1) for view, _ in rows[player]])
                self.assertEqual(shallow(rows_of, tree, player), rows[player])
                for at, (view, _) in list(enumerate(rows[player]))[::50]:
                    self.assertEqual(shallow(way_to, view), rows[player][:at])
                    self.assertEqual(shallow(last_row, view), rows[player][at - 1] if at else None)
            self.assertTrue(shallow(remembers, tree))

    def test_walks(self):
        for kinds, game, tree in self.trees():
            seen, rows = way_data(kinds)
            position = shallow(run, game, [0] * 399)
            self.assertEqual((position.waiting, position.count, position.paid, position.view), ("end", 0, 17, None))
            position = shallow(position_of, shallow(follow, tree, [0] * 398))
            waiting = {"d": "lot", "f": "first", "s": "second"}[kinds[398]]
            self.assertEqual((position.waiting, position.count, position.paid), (waiting, 1, None))
            if kinds[398] != "d":
                self.assertEqual(position.view, tuple(seen["fs".index(kinds[398]) + 1][:-1]))
            self.assertEqual(refusal(BadMove, shallow, run, game, [0] * 398 + [1]).at, 398)
            self.assertEqual(refusal(BadMove, shallow, run, game, [0] * 400).at, 399)

    def test_plans_and_averages(self):
        for _, _, tree in self.trees():
            plans = [even(views_of(tree, player)) for player in (1, 2)]
            self.assertTrue(shallow(average, tree, *plans) == Ratio(17))
            self.assertTrue(shallow(average_by_weights, tree, *plans) == Ratio(17))
            self.assertEqual([(str(chance), paid) for chance, paid in shallow(chances, tree, *plans)], [("1", 17)])
            for player, plan in ((1, plans[0]), (2, plans[1])):
                views = views_of(tree, player)
                self.assertTrue(shallow(fits, plan, tree, player))
                if views:
                    self.assertTrue(shallow(weight_of, plan, *views[-1], 0) == Ratio(1))
                answer = shallow(best_for, tree, player, plans[2 - player])
                self.assertTrue(answer.paid == Ratio(17))
                self.assertEqual(answer.moves, [(view, 0) for view, _ in views])
                self.assertTrue(shallow(fits, shallow(answer_plan, answer, tree, player), tree, player))
                self.assertTrue(shallow(sure_of, tree, player, plan) == Ratio(17))
                self.assertEqual(len(shallow(all_pure, tree, player)), 1)

    def test_papers(self):
        for kinds, _, tree in self.trees():
            paper = Paper(*[even(views_of(tree, player)) for player in (1, 2)])
            self.assertEqual([str(bound) for bound in shallow(judge, tree, paper)], ["17", "17"])
            self.assertTrue(shallow(settles, tree, paper))
            lines = shallow(paper_text, tree, paper)
            self.assertEqual(lines, ["1"] * (len(kinds) - kinds.count("d")))
            self.assertTrue(shallow(belongs, tree, shallow(read_paper, tree, lines)))

    def test_values(self):
        game = one_way("d" * 375 + "f" * 12 + "s" * 12)
        tree = shallow(tree_of, game)
        solution = shallow(solve, tree)
        self.assertTrue(solution.value == Ratio(17))
        self.assertEqual((len(solution.first.entries()), len(solution.second.entries())), (12, 12))
        value, known = shallow(Space(game).value, 0)
        self.assertEqual((str(value), known), ("17", False))
        self.assertEqual(shallow(Space(game).worth, Ratio(17)), [0])
        self.assertEqual(shallow(least_switches, game, [], Ratio(17)), [[]])
        self.assertTrue(shallow(solve, shallow(tree_of, shallow(swapped, game))).value == Ratio(-17))
        self.assertEqual(refusal(TooLarge, shallow, solve, shallow(tree_of, one_way("f" * 399))).what, "rows")

    def test_brains_and_plans(self):
        brain = read_brain(BRAIN)
        for kinds, _, tree in self.trees():
            for player in (1, 2):
                views = views_of(tree, player)
                entries = shallow(lots_of, brain, tree, player).entries()
                self.assertEqual([view for view, _ in entries], [view for view, _ in views])
                self.assertTrue(all(lots[0] == Ratio(1) for _, lots in entries))
                if views:
                    self.assertEqual(refusal(TooLarge, shallow, brain_of, even(views), tree, player).what, "units")
        tree = shallow(tree_of, one_way("d" * 279 + "fs" * 60))
        for player in (1, 2):
            views = views_of(tree, player)
            made = shallow(brain_of, even(views), tree, player)
            self.assertEqual(made.units, sum(6 * len(view) + 4 for view, _ in views) + 4)
            self.assertTrue(read_brain(shallow(brain_text, made)) == made)
            entries = shallow(lots_of, made, tree, player).entries()
            self.assertEqual([(view, len(lots)) for view, lots in entries], views)

    def test_games_that_brains_play(self):
        brain = read_brain(BRAIN)
        mind = mind_of(brain)
        for kinds in (*LONG_WAYS, "dfs" * 500):
            game = one_way(kinds)
            played = shallow(play, game, brain, brain, [])
            self.assertEqual((played.paid, played.choices), ((len(kinds) + 23) // 24, (0,) * len(kinds)))
            self.assertEqual((played.taken, played.cells),
                             (kinds.count("d"), ((kinds.count("f"),), (kinds.count("s"),))))
            self.assertTrue(shallow(average_of_brains, game, brain, brain) == Ratio(played.paid))
            for program in (shallow(program_of, game), shallow(fast_program, game)):
                self.assertEqual(check_program(program), 1)
                machine = Machine(program, mind, mind, [])
                shallow(machine.go)
                self.assertEqual((machine.paid, tuple(machine.choices), tuple(machine.cells), len(machine.tape.taken)),
                                 (played.paid, played.choices, played.cells, played.taken))
                self.assertEqual(machine.views, [tuple(way_data(kinds)[0][player]) for player in (1, 2)])

    def test_texts(self):
        for kinds in LONG_WAYS:
            game = one_way(kinds)
            words = shallow(game_text, game).split(" ")
            self.assertEqual([words.count(WORDS[kind]) for kind in "dfs"], [kinds.count(kind) for kind in "dfs"])
            self.assertEqual(shallow(changes, game, game), [])


class CombTest(unittest.TestCase):
    """Ways that end beside a long one: each lot may end the game, which lets all later lots out."""

    @staticmethod
    def comb(many):
        """The game with so many lots of two results, of which the second one ends the game."""
        last = ("=", ("variable", "y"), ("number", 0))
        lot = (("draw", "x", 2), ("set", "y", ("variable", "x")), ("pay", ("number", 1)))
        return Game((), (("x", 2), ("y", 2)), [("a", (("if", last, lot, ()),) * many)])

    def test_comb(self):
        tree = shallow(tree_of, self.comb(199))
        self.assertEqual(shallow(places, tree), 399)
        # The way on stands before the end beside it.
        self.assertEqual(shallow(ends, tree), [199, *range(199, 0, -1)])
        self.assertEqual(shallow(run, self.comb(199), [0] * 198 + [1]).paid, 199)
        found = shallow(chances, tree, even([]), even([]))
        self.assertEqual([chance.den for chance, _ in found], [2 ** 199, *[2 ** k for k in range(199, 0, -1)]])
        self.assertTrue(shallow(solve, tree).value == Ratio(2 ** 199 - 1, 2 ** 198))

    def test_one_more(self):
        self.assertEqual(refusal(TooLarge, shallow, tree_of, self.comb(200)).what, "places")


class HandMadeTest(unittest.TestCase):
    """Trees that were made by hand may be deeper than those of games."""

    def test_deep_trees(self):
        node = End(5)
        views = []
        for k in reversed(range(600)):
            events = [event for number in range(k) for event in (("move", number, 1), ("did", 0))]
            view = (*events, ("move", k, 1))
            views.append((view, 1))
            node = Turn(1, view, (Lot((node,)),))
        self.assertEqual(shallow(places, node), 1201)
        self.assertEqual(shallow(ends, node), [5])
        self.assertTrue(shallow(remembers, node))
        self.assertEqual(shallow(views_of, node, 1), views[::-1])
        self.assertTrue(shallow(average, node, even([]), even([])) == Ratio(5))
        self.assertTrue(shallow(best_for, node, 1, even([])).paid == Ratio(5))
        self.assertEqual(shallow(position_of, shallow(follow, node, [0] * 1200)).paid, 5)


if __name__ == "__main__":
    unittest.main()
