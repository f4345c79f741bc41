"""Positions on a way: points 33 and 37."""

import unittest

from sureplay.errors import BadMove, GameError, TooLarge
from sureplay.gametext import read_game
from sureplay.tree import End, Lot, Turn, tree_of
from sureplay.walk import Position, ends, follow, position_of, run
from tests.support import SlowRun, Writer, refusal, slow_ways

TEXT = "var x 9 var y 9 round a draw x 3 first y 2 if y second y 4 take y end pay x end"

FIRST = (("round", 0), ("move", 0, 2))

SECOND = (("round", 0), ("move", 1, 4))


class PositionTest(unittest.TestCase):

    def check(self, position, waiting, count, paid, view):
        self.assertIsInstance(position, Position)
        self.assertEqual((position.waiting, position.count, position.paid, position.view),
                         (waiting, count, paid, view))

    def test_position_of(self):
        self.check(position_of(End(-4)), "end", 0, -4, None)
        self.check(position_of(End(0)), "end", 0, 0, None)
        self.check(position_of(Lot((End(1), End(2)))), "lot", 2, None, None)
        self.check(position_of(Turn(1, FIRST, (End(1), End(2)))), "first", 2, None, FIRST)
        self.check(position_of(Turn(2, SECOND, (End(1),))), "second", 1, None, SECOND)

    def test_run(self):
        game = read_game(TEXT)
        self.check(run(game, []), "lot", 3, None, None)
        self.check(run(game, [2]), "first", 2, None, FIRST)
        self.check(run(game, [2, 0]), "end", 0, 2, None)
        self.check(run(game, [2, 1]), "second", 4, None, SECOND)
        self.check(run(game, [0, 1, 3]), "end", 0, -3, None)
        self.check(run(read_game(""), []), "end", 0, 0, None)

    def test_same_as_the_second_way(self):
        for seed in range(60):
            game = read_game(" ".join(Writer(7000 + seed).game_words()))
            ways = slow_ways(game)
            if len(ways) > 400:
                continue
            tree = tree_of(game)
            for way, found in ways[::7]:
                position = position_of(follow(tree, list(way)))
                if found[0] == "end":
                    self.check(position, "end", 0, found[1], None)
                elif found[0] == "lot":
                    self.check(position, "lot", found[1], None, None)
                else:
                    self.check(position, {1: "first", 2: "second"}[found[1]], found[3], None, found[2])
            self.assertEqual(ends(tree), [found[1] for _, found in ways if found[0] == "end"])
            self.assertEqual(run(game, []).waiting == "end", SlowRun(game, []).next[0] == "end")


class RefusalTest(unittest.TestCase):

    CASES = [([-1], 0), ([3], 0), ([4], 0), ([100, 0], 0), ([0, 2], 1), ([0, -1], 1), ([0, -2, 9], 1),
             ([2, 0, 0], 2), ([2, 0, -1], 2), ([2, 0, 0, 0], 2), ([1, 1, 4], 2), ([1, 1, -1], 2), ([1, 1, -4], 2),
             ([1, 1, 3, 0], 3), ([1, 1, 3, 0, 0], 3), ([5, 5, 5], 0), ([0, 1, 0, 7, 7], 3)]

    def test_first_entry_that_is_not_possible(self):
        game = read_game(TEXT)
        tree = tree_of(game)
        for way, at in self.CASES:
            kept = list(way)
            error = refusal(BadMove, run, game, way)
            self.assertEqual(error.at, at, way)
            self.assertIsInstance(error, GameError)
            self.assertEqual(refusal(BadMove, follow, tree, way).at, at, way)
            self.assertEqual(way, kept)

    def test_entries_that_are_no_integers(self):
        game = read_game(TEXT)
        for way, at in (([True], 0), ([False], 0), ([1, True], 1), (["1"], 0), ([None], 0), ([0, 1, "x"], 2)):
            self.assertEqual(refusal(BadMove, run, game, way).at, at, way)

    def test_empty_game(self):
        self.assertEqual(refusal(BadMove, run, read_game(""), [0]).at, 0)
        self.assertEqual(refusal(BadMove, follow, End(1), [0, 1]).at, 0)

    def test_too_large_comes_first(self):
        game = read_game("var x 99 round a draw x 64 draw x 64 end")
        for way in ([], [0], [-1], [0, 99], ["x"]):
            self.assertEqual(refusal(TooLarge, run, game, way).what, "places")


class FollowTest(unittest.TestCase):

    def test_nodes(self):
        inner = Turn(1, FIRST, (End(1), End(2)))
        tree = Lot((End(0), inner))
        self.assertIs(follow(tree, []), tree)
        self.assertIs(follow(tree, [1]), inner)
        self.assertIs(follow(tree, [0]), tree.parts[0])
        self.assertIs(follow(tree, [1, 0]), inner.parts[0])
        self.assertIs(follow(tree, [1, 1]), inner.parts[1])

    def test_way_stays(self):
        way = [1, 1, 3]
        run(read_game(TEXT), way)
        follow(tree_of(read_game(TEXT)), way)
        self.assertEqual(way, [1, 1, 3])


class EndsTest(unittest.TestCase):

    def test_order(self):
        self.assertEqual(ends(End(5)), [5])
        tree = Lot((Turn(1, FIRST, (End(4), Lot((End(-1), End(4))))), End(0), Turn(2, SECOND, (End(9),)), End(2)))
        self.assertEqual(ends(tree), [4, -1, 4, 0, 9, 2])
        self.assertEqual(ends(tree_of(read_game(TEXT))), [0, 0, -1, -2, -3, 1, 1, 0, -1, -2, 2, 2, 1, 0, -1])

    def test_new_list(self):
        tree = Lot((End(1), End(2)))
        self.assertIs(type(ends(tree)), list)
        ends(tree).clear()
        self.assertEqual(ends(tree), [1, 2])


if __name__ == "__main__":
    unittest.main()
