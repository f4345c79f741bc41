"""The tree of a game: points 19, 30 to 33."""

import unittest

from sureplay.errors import TooLarge
from sureplay.gametext import Game, game_text, read_game
from sureplay.tree import End, Lot, Turn, tree_of
from sureplay.views import places
from tests.support import Writer, refusal, slow_ways


def ways_of(node, way=()):
    """The pairs of a way and what is next behind it, in the order of the tree, as `slow_ways` tells them."""
    if isinstance(node, End):
        return [(way, ("end", node.paid))]
    if isinstance(node, Lot):
        pairs = [(way, ("lot", len(node.parts)))]
    else:
        pairs = [(way, ("turn", node.player, node.view, len(node.parts)))]
    for k, part in enumerate(node.parts):
        pairs += ways_of(part, (*way, k))
    return pairs


def paid(text):
    """The payment of a game in which nobody chooses."""
    tree = tree_of(read_game(text))
    assert isinstance(tree, End)
    return tree.paid


class NodeTest(unittest.TestCase):

    def test_nodes(self):
        end = End(-3)
        self.assertEqual(end.paid, -3)
        lot = Lot((end, End(2)))
        self.assertIs(lot.parts[0], end)
        turn = Turn(2, (("round", 0), ("move", 0, 1)), (lot,))
        self.assertEqual((turn.player, turn.view, turn.parts), (2, (("round", 0), ("move", 0, 1)), (lot,)))
        named = Turn(player=1, view=(), parts=(End(paid=1), Lot(parts=(end,))))
        self.assertEqual((named.player, named.view, len(named.parts)), (1, (), 2))

    def test_nodes_keep_copies(self):
        ends = [End(1), End(2)]
        lot, turn = Lot(ends), Turn(1, (("move", 0, 2),), ends)
        first, second = ends
        ends.clear()
        for node in (lot, turn):
            self.assertIs(type(node.parts), tuple)
            self.assertEqual(node.parts, (first, second))


class RunningTest(unittest.TestCase):

    def test_empty_games(self):
        self.assertEqual(paid(""), 0)
        self.assertEqual(paid("option o on var x 3 round a end"), 0)

    def test_pay_and_take(self):
        self.assertEqual(paid("round a pay 3 pay 4 end"), 7)
        self.assertEqual(paid("round a take 3 pay 1 end round b take 5 end"), -7)
        self.assertEqual(paid("round a " + "take 65535 " * 9 + "end"), -9 * 65535)
        self.assertEqual(paid("round a " + "pay 65535 " * 9 + "end"), 9 * 65535)

    def test_variables(self):
        self.assertEqual(paid("var x 9 round a pay x end"), 0)
        for size in (1, 2, 5, 65535):
            for number in (0, 1, 4, 5, 6, 65534, 65535):
                self.assertEqual(paid(f"var x {size} round a set x {number} pay x end"), number % size)
        self.assertEqual(paid("var x 10 var y 7 round a set x 8 set y + x x pay x take y end"), 6)
        self.assertEqual(paid("var x 65535 round a set x 5 set x - x 6 pay + 1 x end"), 1)

    def test_variables_live_over_rounds(self):
        self.assertEqual(paid("var x 9 round a set x 5 end round b pay x set x + x 2 end round c pay x end"), 12)

    def test_if(self):
        for number in (0, 1, 2, 65535):
            holds = number != 0
            self.assertEqual(paid(f"round a if {number} pay 1 end end"), 1 if holds else 0)
            self.assertEqual(paid(f"round a if {number} pay 1 else pay 2 end end"), 1 if holds else 2)
            self.assertEqual(paid(f"round a if {number} else pay 2 end end"), 0 if holds else 2)
            self.assertEqual(paid(f"round a if {number} pay 1 else pay 2 end pay 10 end"), 11 if holds else 12)

    def test_when(self):
        for state, holds in (("on", True), ("off", False)):
            head = f"option p {'off' if holds else 'on'} option o {state} "
            self.assertEqual(paid(head + "round a when o pay 1 end end"), 1 if holds else 0)
            self.assertEqual(paid(head + "round a when o pay 1 else pay 2 end pay 10 end"), 11 if holds else 12)
            self.assertEqual(paid(head + "round a when o else pay 2 end end"), 0 if holds else 2)
            self.assertEqual(paid(head + "round a pay pick o 3 4 end"), 3 if holds else 4)

    def test_lot(self):
        tree = tree_of(read_game("var x 3 round a draw x 5 pay x end"))
        self.assertIsInstance(tree, Lot)
        self.assertEqual([part.paid for part in tree.parts], [0, 1, 2, 0, 1])
        self.assertIs(type(tree.parts), tuple)
        tree = tree_of(read_game("var x 3 round a draw x 1 pay + 4 x end"))
        self.assertEqual([part.paid for part in tree.parts], [4])

    def test_move(self):
        for player, word in ((1, "first"), (2, "second")):
            tree = tree_of(read_game(f"var x 3 round a {word} x 5 take x end"))
            self.assertIsInstance(tree, Turn)
            self.assertEqual(tree.player, player)
            self.assertEqual(tree.view, (("round", 0), ("move", 0, 5)))
            self.assertEqual([part.paid for part in tree.parts], [0, -1, -2, 0, -1])
            self.assertIs(type(tree.parts), tuple)
            self.assertIs(type(tree.view), tuple)

    def test_ways_do_not_mix(self):
        tree = tree_of(read_game("var x 9 var y 9 round a draw x 2 if x pay 5 set y 7 end first y 2 pay y end"))
        self.assertEqual(ways_of(tree)[2:4] + ways_of(tree)[5:], [
            ((0, 0), ("end", 0)), ((0, 1), ("end", 1)), ((1, 0), ("end", 5)), ((1, 1), ("end", 6))])


class ViewTest(unittest.TestCase):

    TEXT = ("option o on var x 4 var y 9 round a draw x 2 show first x show second + 2 x show both 9 first y 2 end "
            "round b show first y second y 3 show both y when o first x 1 end show second 1 second x 2 end")

    def views_along(self, way):
        tree, views = tree_of(read_game(self.TEXT)), []
        for k in way:
            if isinstance(tree, Turn):
                views.append((tree.player, tree.view))
            tree = tree.parts[k]
        self.assertIsInstance(tree, End)
        return views

    def test_who_sees_what(self):
        first = (("round", 0), ("told", 1), ("told", 9), ("move", 0, 2))
        second = (("round", 0), ("told", 3), ("told", 9), ("round", 1), ("move", 1, 3))
        first_later = first + (("did", 1), ("round", 1), ("told", 1), ("told", 2), ("move", 2, 1))
        second_later = second + (("did", 2), ("told", 2), ("told", 1), ("move", 3, 2))
        self.assertEqual(self.views_along((1, 1, 2, 0, 0)),
                         [(1, first), (2, second), (1, first_later), (2, second_later)])
        first = (("round", 0), ("told", 0), ("told", 9), ("move", 0, 2))
        second = (("round", 0), ("told", 2), ("told", 9), ("round", 1), ("move", 1, 3))
        first_later = first + (("did", 0), ("round", 1), ("told", 0), ("told", 1), ("move", 2, 1))
        second_later = second + (("did", 1), ("told", 1), ("told", 1), ("move", 3, 2))
        self.assertEqual(self.views_along((0, 0, 1, 0, 1)),
                         [(1, first), (2, second), (1, first_later), (2, second_later)])

    def test_draws_are_seen_by_nobody(self):
        tree = tree_of(read_game("var x 4 round a draw x 2 first x 2 second x 2 end"))
        for part in tree.parts:
            self.assertEqual(part.view, (("round", 0), ("move", 0, 2)))
            for inner in part.parts:
                self.assertEqual(inner.view, (("round", 0), ("move", 1, 2)))

    def test_the_move_is_seen_and_not_the_variable(self):
        tree = tree_of(read_game("var x 2 round a first x 4 first x 1 end"))
        self.assertEqual([part.view for part in tree.parts],
                         [(("round", 0), ("move", 0, 4), ("did", k), ("move", 1, 1)) for k in range(4)])

    def test_rounds_that_are_empty_are_seen(self):
        tree = tree_of(read_game("var x 4 round a end round b second x 1 end"))
        self.assertEqual(tree.view, (("round", 0), ("round", 1), ("move", 0, 1)))

    def test_numbers_of_moves_that_are_left_out(self):
        tree = tree_of(read_game("option o off var x 4 round a when o first x 2 else second x 3 end end"))
        self.assertEqual((tree.player, tree.view), (2, (("round", 0), ("move", 1, 3))))

    def test_told_values_are_whole(self):
        tree = tree_of(read_game("var x 4 round a show first 65535 show first * 256 256 first x 1 end"))
        self.assertEqual(tree.view, (("round", 0), ("told", 65535), ("told", 0), ("move", 0, 1)))


class WholeTreeTest(unittest.TestCase):

    def test_same_as_the_second_way(self):
        compared = 0
        for seed in range(400):
            game = read_game(" ".join(Writer(5000 + seed).game_words()))
            ways = slow_ways(game)
            if len(ways) <= 400:
                compared += len(ways) > 1
                self.assertEqual(ways_of(tree_of(game)), ways, game_text(game))
        self.assertGreater(compared, 100)

    def test_game_made_of_data(self):
        block = [("when", "o", (), (("move", 2, "x", 2, 0),)), ("pay", ("variable", "x"))]
        game = Game([["o", False]], [["x", 3]], [["a", block]])
        self.assertEqual(ways_of(tree_of(game)), slow_ways(game))
        self.assertEqual(ways_of(tree_of(game))[0], ((), ("turn", 2, (("round", 0), ("move", 0, 2)), 2)))

    def test_game_stays(self):
        text = ViewTest.TEXT
        game = read_game(text)
        tree_of(game)
        self.assertTrue(game == read_game(text))
        self.assertEqual(game_text(game), text)

    def test_trees_share_nothing_that_changes(self):
        game = read_game(ViewTest.TEXT)
        self.assertEqual(ways_of(tree_of(game)), ways_of(tree_of(game)))


class SizeTest(unittest.TestCase):

    def check_too_large(self, text):
        self.assertEqual(refusal(TooLarge, tree_of, read_game(text)).what, "places")

    # 1 node, 57 below it, and 6 below each of these.
    EXACT = "var x 99 var y 99 round a draw x 57 draw y 6 "

    def test_exactly_as_many_as_there_may_be(self):
        tree = tree_of(read_game(self.EXACT + "end"))
        self.assertEqual(len(ways_of(tree)), 400)
        self.assertEqual(places(tree), 400)

    def test_one_more(self):
        for word in ("draw", "first", "second"):
            for x, y in ((0, 0), (30, 2), (56, 5)):
                self.check_too_large(f"{self.EXACT}if = x {x} if = y {y} {word} x 1 end end end")
        self.check_too_large(self.EXACT + "end round b draw x 1 end")

    def test_bound_with_all_kinds_of_nodes(self):
        start = "var x 99 var y 99 round a draw x 39 first y 3 second y 2 "
        self.assertEqual(places(tree_of(read_game(start + "end"))), 1 + 39 + 117 + 234)
        more = start + "if < x 1 if < y 1 {} first x 1 second x 1 end end end"
        self.assertEqual(places(tree_of(read_game(more.format("draw x 1")))), 400)
        self.check_too_large(more.format("draw x 2"))
        self.check_too_large(more.format("draw x 1 draw x 1"))

    def test_far_too_large(self):
        self.check_too_large("var x 99 round a " + "draw x 64 " * 24 + "end")
        self.check_too_large("var x 99 round a " + "first x 8 second x 8 " * 12 + "end")
        self.check_too_large("var x 99 round a draw x 64 draw x 64 end")
        chain = "var x 99 round a " + "first x 1 " * 24 + "end"
        self.assertEqual(places(tree_of(read_game(chain))), 25)


if __name__ == "__main__":
    unittest.main()
