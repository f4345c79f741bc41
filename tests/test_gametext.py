"""Texts of games, read and written, and their data: points 10 to 15, 17, 18, 21."""

import unittest

from sureplay.gametext import Game, game_text, moves_of, pieces_of, read_game
from sureplay.statement import block_words
from tests.support import Writer

ONE, TWO = ("number", 1), ("number", 2)

X, Y = ("variable", "x"), ("variable", "y")


def block_of(words, head="option o on option p off var x 4 var y 9"):
    """The block that these words write in a round, where these names are known."""
    return read_game(f"{head} round r {words} end".replace("  ", " ")).rounds[0][1]


class DataTest(unittest.TestCase):

    def test_empty_text(self):
        game = read_game("")
        self.assertEqual((game.options, game.variables, game.rounds), ((), (), ()))
        self.assertEqual(game_text(game), "")
        self.assertEqual(pieces_of(game), [])
        self.assertEqual(moves_of(game), ())

    def test_parts_of_a_game(self):
        game = read_game("option o on option p off var x 4 var y 65535 round a end round b pay 1 end")
        self.assertEqual(game.options, (("o", True), ("p", False)))
        self.assertIs(game.options[0][1], True)
        self.assertIs(game.options[1][1], False)
        self.assertEqual(game.variables, (("x", 4), ("y", 65535)))
        self.assertEqual(game.rounds, (("a", ()), ("b", (("pay", ONE),))))
        for field in (game.options, game.variables, game.rounds):
            self.assertIs(type(field), tuple)
            self.assertTrue(all(type(pair) is tuple for pair in field))
        self.assertIs(type(game.rounds[1][1]), tuple)

    def test_statements(self):
        cases = [
            ("", ()),
            ("set x 1", (("set", "x", ONE),)),
            ("set y + x 1", (("set", "y", ("+", X, ONE)),)),
            ("if x end", (("if", X, (), ()),)),
            ("if x pay 1 end", (("if", X, (("pay", ONE),), ()),)),
            ("if x else take y end", (("if", X, (), (("take", Y),)),)),
            ("if 1 pay 1 pay 2 else take 1 take 2 end",
             (("if", ONE, (("pay", ONE), ("pay", TWO)), (("take", ONE), ("take", TWO))),)),
            ("when o end", (("when", "o", (), ()),)),
            ("when p pay 1 end", (("when", "p", (("pay", ONE),), ()),)),
            ("when p else pay 2 end", (("when", "p", (), (("pay", TWO),)),)),
            ("when o pay 1 else pay 2 end", (("when", "o", (("pay", ONE),), (("pay", TWO),)),)),
            ("draw x 1 draw y 64", (("draw", "x", 1), ("draw", "y", 64))),
            ("first x 8", (("move", 1, "x", 8, 0),)),
            ("second y 1", (("move", 2, "y", 1, 0),)),
            ("show first 1 show second x show both y", (("show", 1, ONE), ("show", 2, X), ("show", 0, Y))),
            ("pay x take 1", (("pay", X), ("take", ONE))),
            ("pay pick o x - y 1", (("pay", ("pick", "o", X, ("-", Y, ONE))),)),
        ]
        for words, block in cases:
            self.assertEqual(block_of(words), block, words)
            self.assertIs(type(block_of(words)), tuple)
            self.assertEqual(block_words(block), words.split(), words)

    def test_examples(self):
        self.assertEqual(read_game("var x 4 round a first x 4 pay x end").rounds,
                         (("a", (("move", 1, "x", 4, 0), ("pay", X))),))
        block = (("if", ONE, (), (("move", 2, "x", 3, 0),)), ("show", 0, ("number", 4)))
        self.assertEqual(block_words(block), ["if", "1", "else", "second", "x", "3", "end", "show", "both", "4"])

    def test_nested_to_depth_eight(self):
        words, block = "pay 1", (("pay", ONE),)
        for depth in range(8):
            if depth % 2:
                words, block = f"if x {words} end", (("if", X, block, ()),)
            else:
                words, block = f"when p else {words} end", (("when", "p", (), block),)
        self.assertEqual(block_of(words), block)
        self.assertEqual(block_words(block), words.split())

    def test_else_belongs_to_the_inner_one(self):
        inner = ("if", Y, (("pay", ONE),), (("pay", TWO),))
        self.assertEqual(block_of("if x if y pay 1 else pay 2 end end"), (("if", X, (inner,), ()),))
        self.assertEqual(block_of("if x if y pay 1 end else pay 2 end"),
                         (("if", X, (("if", Y, (("pay", ONE),), ()),), (("pay", TWO),)),))

    def test_new_list_of_words_each_time(self):
        block = block_of("if x pay 1 end")
        words = block_words(block)
        words.append("more")
        self.assertEqual(block_words(block), ["if", "x", "pay", "1", "end"])
        self.assertIs(type(block_words(())), list)
        self.assertEqual(block_words(()), [])

    def test_names_may_be_shared_between_sorts(self):
        text = "option x on var x 3 round x set x pick x x 1 when x pay x end end"
        game = read_game(text)
        self.assertEqual(game_text(game), text)
        self.assertEqual((game.options, game.variables, game.rounds[0][0]), ((("x", True),), (("x", 3),), "x"))


class MovesTest(unittest.TestCase):

    def test_numbered_over_all_rounds(self):
        game = read_game("option o on var x 4 round a draw x 2 first x 3 if x second x 4 else first x 5 end end "
                         "round b end round c when o else second x 6 end draw x 9 first x 1 end")
        first, last = game.rounds[0][1], game.rounds[2][1]
        self.assertEqual(first[1], ("move", 1, "x", 3, 0))
        self.assertEqual(first[2], ("if", X, (("move", 2, "x", 4, 1),), (("move", 1, "x", 5, 2),)))
        self.assertEqual(last[0], ("when", "o", (), (("move", 2, "x", 6, 3),)))
        self.assertEqual(last[2], ("move", 1, "x", 1, 4))
        self.assertEqual(moves_of(game), ((1, 3), (2, 4), (1, 5), (2, 6), (1, 1)))
        self.assertIs(type(moves_of(game)), tuple)

    def test_no_moves(self):
        self.assertEqual(moves_of(read_game("var x 3 round a draw x 3 end")), ())

    def test_many_moves(self):
        game = read_game("var x 9 round a " + " ".join(["first x 2 second x 3"] * 6) + " end round b "
                         + " ".join(["second x 4 first x 5"] * 6) + " end")
        self.assertEqual(moves_of(game), ((1, 2), (2, 3)) * 6 + ((2, 4), (1, 5)) * 6)

    def test_game_made_of_data(self):
        game = Game([], [["x", 3]], [["a", [("move", 2, "x", 3, 0), ("if", X, (("move", 1, "x", 2, 1),), ())]],
                                     ["b", [("when", "o", (("move", 2, "x", 8, 2),), (("move", 1, "x", 7, 3),))]]])
        self.assertEqual(moves_of(game), ((2, 3), (1, 2), (2, 8), (1, 7)))

    def test_order_of_the_numbers(self):
        # Numbers as they are left when a block of moves is taken out of a game.
        game = Game([], [("x", 3)], [("a", (("move", 2, "x", 3, 4), ("move", 1, "x", 5, 11)))])
        self.assertEqual(moves_of(game), ((2, 3), (1, 5)))


class GameTest(unittest.TestCase):

    TEXT = "option o on var x 3 var y 5 round a draw x 2 pay x end round b if y take 1 end end"

    def parts(self):
        return ([["o", True]], [["x", 3], ["y", 5]],
                [["a", [("draw", "x", 2), ("pay", X)]], ["b", [("if", Y, (("take", ONE),), ())]]])

    def check(self, game):
        self.assertEqual(game.options, (("o", True),))
        self.assertEqual(game.variables, (("x", 3), ("y", 5)))
        self.assertEqual(game.rounds, (("a", (("draw", "x", 2), ("pay", X))),
                                       ("b", (("if", Y, (("take", ONE),), ()),))))
        self.assertEqual(game_text(game), self.TEXT)

    def test_made_of_lists_or_tuples(self):
        options, variables, rounds = self.parts()
        game = Game(options, variables, rounds)
        self.check(game)
        self.assertTrue(game == read_game(self.TEXT))
        self.assertFalse(game != read_game(self.TEXT))
        self.check(Game(game.options, game.variables, game.rounds))
        self.check(Game(options=options, variables=variables, rounds=rounds))
        for field in (game.options, game.variables, game.rounds):
            self.assertIs(type(field), tuple)
            self.assertTrue(all(type(pair) is tuple for pair in field))

    def test_keeps_copies(self):
        options, variables, rounds = self.parts()
        game = Game(options, variables, rounds)
        self.assertEqual((options, variables, rounds), self.parts())
        options[0][1] = False
        options.append(["p", True])
        variables[0][0] = "z"
        variables.clear()
        rounds[0][1].append(("pay", TWO))
        rounds[1][0] = "c"
        rounds.pop()
        self.check(game)

    def test_equal_only_if_all_fields_are(self):
        options, variables, rounds = self.parts()
        game = Game(options, variables, rounds)
        others = [Game([], variables, rounds), Game([["o", False]], variables, rounds), Game(options, [], rounds),
                  Game(options, variables[::-1], rounds), Game(options, [["x", 3], ["y", 6]], rounds),
                  Game(options, variables, rounds[::-1]), Game(options, variables, []),
                  Game(options, variables, [rounds[0], ["c", rounds[1][1]]]), read_game("")]
        for other in others:
            self.assertFalse(game == other)
            self.assertTrue(game != other)
        self.assertFalse(game == self.TEXT)


class TextTest(unittest.TestCase):

    def test_pieces(self):
        game = read_game("option o on option p off var x 3 round a if x else pay 1 end end round b end")
        pieces = ["option o on", "option p off", "var x 3", "round a if x else pay 1 end end", "round b end"]
        self.assertEqual(pieces_of(game), pieces)
        found = pieces_of(game)
        found.pop()
        self.assertEqual(pieces_of(game), pieces)
        self.assertEqual(game_text(game), " ".join(pieces))

    def test_text_of_the_game_of_a_text(self):
        for seed in range(300):
            text = " ".join(Writer(seed).game_words())
            game = read_game(text)
            self.assertEqual(game_text(game), text)
            self.assertTrue(read_game(game_text(game)) == game)
            self.assertTrue(Game(list(game.options), list(game.variables), list(game.rounds)) == game)
            self.assertEqual(" ".join(pieces_of(game)), text)

    def test_largest_heads(self):
        text = " ".join([f"option o{k} on" for k in range(6)] + [f"var x{k} 65535" for k in range(12)]
                        + [f"round r{k} draw x{k} 64 end" for k in range(8)])
        self.assertEqual(game_text(read_game(text)), text)

    def test_long_text(self):
        text = "var x 9 round a " + " ".join(["set x + x 1"] * 20000) + " end"
        self.assertEqual(game_text(read_game(text)), text)


if __name__ == "__main__":
    unittest.main()
