"""Views, rows, ways, remembering: points 34 to 36."""

import unittest

from sureplay.errors import TooLarge
from sureplay.gametext import read_game
from sureplay.tree import End, Lot, Turn, tree_of
from sureplay.views import last_row, places, remembers, rows_of, views_of, way_to
from tests.support import Writer

ROUND = ("round", 0)

TEXT = ("var x 4 var y 4 round a draw x 2 show second x first y 3 second x 2 end "
        "round b if x second x 1 else first x 2 end end")

FIRST = (ROUND, ("move", 0, 3))


def second(told):
    return (ROUND, ("told", told), ("move", 1, 2))


class ViewsTest(unittest.TestCase):

    def test_views_in_the_order_of_first_meeting(self):
        tree = tree_of(read_game(TEXT))
        later = [(FIRST + (("did", k), ("round", 1), ("move", 3, 2)), 2) for k in range(3)]
        self.assertEqual(views_of(tree, 1), [(FIRST, 3), *later])
        asked_again = [(second(told) + (("did", 1), ("round", 1), ("move", 2, 1)), 1) for told in (0, 1)]
        self.assertEqual(views_of(tree, 2), [(second(0), 2), asked_again[0], (second(1), 2), asked_again[1]])

    def test_below_a_node_comes_before_the_next_node_beside_it(self):
        def turn(name, *parts):
            return Turn(1, (name,), parts)
        tree = Lot((turn("a", turn("b", End(0), End(1)), End(2)),
                    turn("c", End(0)), turn("a", End(0), turn("d", End(0))), turn("b", End(0), End(0))))
        self.assertEqual(views_of(tree, 1), [(("a",), 2), (("b",), 2), (("c",), 1), (("d",), 1)])
        self.assertEqual(views_of(tree, 2), [])

    def test_types_and_new_lists(self):
        tree = tree_of(read_game(TEXT))
        for function in (views_of, rows_of):
            for player in (1, 2):
                found = function(tree, player)
                kept = list(found)
                self.assertIs(type(found), list)
                self.assertTrue(all(type(pair) is tuple and type(pair[0]) is tuple for pair in found))
                self.assertEqual(len({repr(pair) for pair in found}), len(found))
                found.clear()
                self.assertEqual(function(tree, player), kept)

    def test_rows(self):
        tree = tree_of(read_game(TEXT))
        self.assertEqual(rows_of(tree, 1)[:5], [(FIRST, 0), (FIRST, 1), (FIRST, 2),
                                                (FIRST + (("did", 0), ("round", 1), ("move", 3, 2)), 0),
                                                (FIRST + (("did", 0), ("round", 1), ("move", 3, 2)), 1)])
        for player, count in ((1, 9), (2, 6)):
            rows = rows_of(tree, player)
            self.assertEqual(rows, [(view, k) for view, moves in views_of(tree, player) for k in range(moves)])
            self.assertEqual(len(rows), count)

    def test_no_turns(self):
        for tree in (End(3), Lot((End(0), End(1)))):
            for player in (1, 2):
                self.assertEqual(views_of(tree, player), [])
                self.assertEqual(rows_of(tree, player), [])

    def test_places(self):
        self.assertEqual(places(End(0)), 1)
        self.assertEqual(places(Lot((End(0), End(1)))), 3)
        self.assertEqual(places(Turn(2, (("move", 0, 1),), (Lot((End(0),)),))), 3)
        self.assertEqual(places(tree_of(read_game(TEXT))), 1 + 2 + 6 + 12 + 18)
        shared = End(0)
        self.assertEqual(places(Lot((shared, shared, Lot((shared, shared))))), 6)


class RowTest(unittest.TestCase):

    ASKED = ("move", 0, 2)

    def test_no_move_made(self):
        for view in ((), (ROUND,), (self.ASKED,), (ROUND, ("told", 4), ("move", 3, 1)), (("told", 0),)):
            self.assertIsNone(last_row(view))
            self.assertEqual(way_to(view), [])

    def test_one_move_made(self):
        start = (ROUND, ("told", 7), self.ASKED)
        for behind in ((), (("round", 1),), (("told", 0), ("round", 1), ("move", 2, 3)), (("move", 1, 1),)):
            for move in (0, 1, 7):
                view = start + (("did", move),) + behind
                self.assertEqual(last_row(view), (start, move))
                self.assertIs(type(last_row(view)), tuple)
                self.assertEqual(way_to(view), [(start, move)])

    def test_move_at_the_very_beginning(self):
        self.assertEqual(last_row((("did", 3),)), ((), 3))
        self.assertEqual(way_to((("did", 3), self.ASKED)), [((), 3)])

    def test_several_moves_made(self):
        one = (ROUND, self.ASKED)
        two = one + (("did", 1), ("told", 3), ("move", 1, 4))
        three = two + (("did", 0), ("move", 2, 5))
        for behind in ((), (("told", 1),), (("round", 1), ("move", 3, 2))):
            view = three + (("did", 4),) + behind
            self.assertEqual(last_row(view), (three, 4))
            self.assertEqual(way_to(view), [(one, 1), (two, 0), (three, 4)])
        self.assertEqual(last_row(three), (two, 0))
        self.assertEqual(last_row(two), (one, 1))
        self.assertIsNone(last_row(one))
        self.assertEqual(way_to(three), [(one, 1), (two, 0)])

    def test_way_in_a_new_list(self):
        view = (self.ASKED, ("did", 1), ("move", 1, 2))
        self.assertIs(type(way_to(view)), list)
        way_to(view).clear()
        self.assertEqual(way_to(view), [((self.ASKED,), 1)])

    def test_rows_of_games(self):
        tree = tree_of(read_game(TEXT))
        for player in (1, 2):
            rows = rows_of(tree, player)
            for view, _ in views_of(tree, player):
                way = way_to(view)
                self.assertTrue(all(row in rows for row in way))
                self.assertEqual(last_row(view), way[-1] if way else None)


class RemembersTest(unittest.TestCase):

    A, B = ("move", 0, 2), ("move", 1, 2)

    def turn(self, player, view, *parts):
        return Turn(player, view, parts or (End(0), End(1)))

    def test_trees_of_games(self):
        grown = 0
        for text in [TEXT, ""] + [" ".join(Writer(9000 + seed).game_words()) for seed in range(150)]:
            try:
                tree = tree_of(read_game(text))
            except TooLarge:
                continue
            grown += 1
            self.assertIs(remembers(tree), True)
        self.assertGreater(grown, 100)

    def test_trees_without_turns(self):
        self.assertIs(remembers(End(0)), True)
        self.assertIs(remembers(Lot((End(0), Lot((End(1),))))), True)

    def test_a_player_who_remembers(self):
        for player in (1, 2):
            later = [self.turn(player, (self.A, ("did", k), self.B)) for k in range(2)]
            self.assertIs(remembers(self.turn(player, (self.A,), *later)), True)
            apart = [Lot((self.turn(3 - player, (("move", 7, 2),), part, End(2)),)) for part in later]
            self.assertIs(remembers(self.turn(player, (self.A,), *apart)), True)

    def test_a_move_that_is_forgotten(self):
        for player in (1, 2):
            forgetful = self.turn(player, (self.B,))
            self.assertIs(remembers(self.turn(player, (self.A,), End(0), forgetful)), False)
            self.assertIs(remembers(self.turn(player, (self.A,), forgetful, End(0))), False)
            self.assertIs(remembers(self.turn(player, (self.A,), End(0), Lot((End(0), forgetful)))), False)

    def test_a_wrong_move(self):
        for player in (1, 2):
            wrong = self.turn(player, (self.A, ("did", 0), self.B))
            self.assertIs(remembers(self.turn(player, (self.A,), wrong, End(0))), True)
            self.assertIs(remembers(self.turn(player, (self.A,), End(0), wrong)), False)
            self.assertIs(remembers(self.turn(player, (self.A,), wrong, wrong)), False)

    def test_a_wrong_view(self):
        for player in (1, 2):
            wrong = self.turn(player, (("move", 5, 2), ("did", 0), self.B))
            self.assertIs(remembers(self.turn(player, (self.A,), wrong, End(0))), False)

    def test_a_move_that_was_never_made(self):
        for player in (1, 2):
            dreamer = self.turn(player, (self.A, ("did", 0), self.B))
            self.assertIs(remembers(dreamer), False)
            self.assertIs(remembers(Lot((End(0), dreamer))), False)
            self.assertIs(remembers(self.turn(3 - player, (self.A,), dreamer, End(0))), False)

    def test_only_the_last_row_of_the_player_counts(self):
        for player in (1, 2):
            one = (self.A,)
            two = one + (("did", 1), self.B)
            three = two + (("did", 0), ("move", 2, 2))
            good = self.turn(player, one, End(0), self.turn(player, two, self.turn(player, three), End(0)))
            self.assertIs(remembers(good), True)
            skipped = self.turn(player, one, End(0), self.turn(player, three))
            self.assertIs(remembers(skipped), False)
            stale = one + (("did", 1), ("move", 2, 2))
            bad = self.turn(player, one, End(0), self.turn(player, two, self.turn(player, stale), End(0)))
            self.assertIs(remembers(bad), False)

    def test_the_other_player_does_not_matter(self):
        same = (self.A,)
        self.assertIs(remembers(self.turn(1, same, self.turn(2, same), self.turn(2, same))), True)
        self.assertIs(remembers(self.turn(2, same, self.turn(1, same), self.turn(1, same))), True)
        mixed = self.turn(1, same, self.turn(2, (self.A, ("did", 0), self.B)), End(0))
        self.assertIs(remembers(mixed), False)

    def test_moves_beside_each_other_do_not_mix(self):
        first = self.turn(1, (self.A,), self.turn(1, (self.A, ("did", 0), self.B)), End(0))
        self.assertIs(remembers(Lot((first, self.turn(1, (self.A,))))), True)
        self.assertIs(remembers(Lot((first, self.turn(1, (self.A, ("did", 0), self.B))))), False)


if __name__ == "__main__":
    unittest.main()
