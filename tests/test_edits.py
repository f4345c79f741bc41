"""Edits of games and their lines: points 10, 11, 13, 16, 105 to 108 and 113."""

import unittest

from sureplay.edits import changed, changes, edit_text, read_edit
from sureplay.errors import BadEdit, BadText
from sureplay.gametext import Game, game_text, pieces_of, read_game
from tests.boards import random_game
from tests.grammar import first_misfit
from tests.support import refusal

TEXT = "option o on option p off var x 4 var y 9 round a first x 3 when o pay x end end round b pay pick p x y end"

SORTS = ("option", "var", "round")


class EditTest(unittest.TestCase):

    def check(self, change, told, text=TEXT):
        game = read_game(text)
        found = changed(game, change)
        self.assertIsInstance(found, Game)
        self.assertEqual(game_text(found), told)
        self.assertTrue(found == read_game(told))
        self.assertEqual(game_text(game), text)

    def bad(self, change, what, text=TEXT):
        game = read_game(text)
        self.assertEqual(refusal(BadEdit, changed, game, change).what, what, change)
        self.assertEqual(game_text(game), text)

    def misfit(self, change, at, whole, text=TEXT):
        """The edit leads to this whole text, which is refused at this word."""
        game = read_game(text)
        self.assertEqual(refusal(BadText, changed, game, change).at, at, change)
        self.assertEqual(refusal(BadText, read_game, whole).at, at)
        self.assertEqual(first_misfit(whole.split(" ")), at)
        self.assertEqual(game_text(game), text)


class PutTest(EditTest):

    def test_example(self):
        self.check(("put", "var y 3"), "var x 2 var y 3 round a pay x end", text="var x 2 round a pay x end")

    def test_in_place_of_a_piece(self):
        self.check(("put", "option o off"), TEXT.replace("option o on", "option o off"))
        self.check(("put", "option p on"), TEXT.replace("option p off", "option p on"))
        self.check(("put", "var x 65535"), TEXT.replace("var x 4", "var x 65535"))
        self.check(("put", "var y 1"), TEXT.replace("var y 9", "var y 1"))
        self.check(("put", "round a end"), TEXT.replace("round a first x 3 when o pay x end end", "round a end"))
        self.check(("put", "round b take 1 end"), TEXT.replace("round b pay pick p x y end", "round b take 1 end"))
        self.check(("put", "var x 4"), TEXT)

    def test_behind_all_pieces_of_its_sort(self):
        self.check(("put", "option q on"), TEXT.replace("var x", "option q on var x"))
        self.check(("put", "var z 5"), TEXT.replace("round a", "var z 5 round a"))
        self.check(("put", "round c first y 2 end"), TEXT + " round c first y 2 end")
        # Names are shared between sorts: these are no names of pieces of their sort.
        self.check(("put", "option x on"), TEXT.replace("var x", "option x on var x"))
        self.check(("put", "var o 5"), TEXT.replace("round a", "var o 5 round a"))
        self.check(("put", "round x end"), TEXT + " round x end")

    def test_at_the_very_front(self):
        self.check(("put", "option o on"), "option o on var x 4 round a end", text="var x 4 round a end")
        self.check(("put", "option o on"), "option o on round a end", text="round a end")
        self.check(("put", "var o 3"), "var o 3 round a end", text="round a end")
        for piece in ("option o on", "var x 3", "round a pay 1 end"):
            self.check(("put", piece), piece, text="")

    def test_between_missing_sorts(self):
        self.check(("put", "var x 3"), "option o on var x 3", text="option o on")
        self.check(("put", "var x 3"), "option o on var x 3 round a end", text="option o on round a end")
        self.check(("put", "round a end"), "option o on round a end", text="option o on")

    def test_several_pieces(self):
        self.check(("put", "option o off option q on"), TEXT.replace("option o on", "option o off option q on"))
        self.check(("put", "option q off var z 2 var w 3"), TEXT.replace("var x 4", "option q off var z 2 var w 3 var x 4"))
        self.check(("put", "var z 1 round c end"), "var x 2 var z 1 round c end round a end", text="var x 2 round a end")
        self.check(("put", "round c end round d end"), TEXT + " round c end round d end")
        self.check(("put", "var x 4 var z 7"), TEXT.replace("var x 4", "var x 4 var z 7"))
        # The new pieces are pieces of their own afterwards.
        game = changed(read_game(TEXT), ("put", "var x 4 var z 7"))
        self.assertEqual(pieces_of(game)[2:5], ["var x 4", "var z 7", "var y 9"])
        self.assertEqual(game_text(changed(game, ("drop", "var", "z"))), TEXT)

    def test_parts_of_pieces(self):
        self.misfit(("put", "round b if x"), 7, "var x 2 round b if x", text="var x 2 round b end")
        text = "option a on option b on"
        self.misfit(("put", "option a"), 2, "option a option b on", text=text)
        self.check(("put", "var y 3 round c pay 1 end"), "var x 2 var y 3 round c pay 1 end round b end",
                   text="var x 2 round b end")
        self.misfit(("put", "var y"), 5, "var x 2 var y round b end", text="var x 2 round b end")
        self.misfit(("put", "round b if 1"), 4, "round b if 1 round c end", text="round b end round c end")
        self.misfit(("put", "round b pay"), 3, "round b pay round c end", text="round b end round c end")
        self.misfit(("put", "round c pay + 1"), 8, "round b end round c pay + 1", text="round b end")

    def test_other_words_do_not_matter_for_the_place(self):
        self.misfit(("put", "var x 0"), 8, TEXT.replace("var x 4", "var x 0"))
        self.misfit(("put", "option o maybe"), 2, TEXT.replace("option o on", "option o maybe"))
        self.misfit(("put", "var z 65536"), 14, TEXT.replace("round a", "var z 65536 round a"))
        self.misfit(("put", "option o on option o on"), 4, TEXT.replace("option o on", "option o on option o on"))
        self.misfit(("put", "var x 4 "), 9, TEXT.replace("var x 4", "var x 4 "))
        self.misfit(("put", "var 9 4"), 13, TEXT.replace("round a", "var 9 4 round a"))
        self.misfit(("put", "round a end round b end"), 19, TEXT.replace("round a first x 3 when o pay x end end",
                                                                         "round a end round b end"))
        self.misfit(("put", "option o\non"), 7, TEXT.replace("var x", "option o\non var x"))

    def test_one_word(self):
        self.misfit(("put", "option"), 7, TEXT.replace("var x", "option var x"))
        self.misfit(("put", "var"), 13, TEXT.replace("round a", "var round a"))
        self.misfit(("put", "round"), len(TEXT.split()) + 1, TEXT + " round")
        self.misfit(("put", "option"), 1, "option", text="")

    def test_empty_words(self):
        self.misfit(("put", "var  3"), 13, TEXT.replace("round a", "var  3 round a"))
        self.misfit(("put", "var "), 13, TEXT.replace("round a", "var  round a"))
        self.misfit(("put", "option  o on"), 7, TEXT.replace("var x", "option  o on var x"))
        self.misfit(("put", "round c end "), len(TEXT.split()) + 3, TEXT + " round c end ")
        self.misfit(("put", "round a  end"), 14, TEXT.replace("round a first x 3 when o pay x end end", "round a  end"))

    def test_no_sort(self):
        for text in ("", " ", "x", "var\tx 3", "Var x 3", " var x 3", "pay 1", "end", "put var x 3", "options o on",
                     "o option on", "\nvar x 3", "  "):
            self.bad(("put", text), "sort")
            self.bad(("put", text), "sort", text="")

    def test_names_that_become_unknown(self):
        self.misfit(("put", "round a set z 1 end"), 15, TEXT.replace("first x 3 when o pay x end", "set z 1"))

    def test_bounds(self):
        six = " ".join(f"option o{k} on" for k in range(6))
        self.misfit(("put", "option p on"), 18, six + " option p on", text=six)
        self.check(("put", "option o3 off"), six.replace("o3 on", "o3 off"), text=six)
        eight = " ".join(f"round r{k} end" for k in range(8))
        self.misfit(("put", "round s end"), 24, eight + " round s end", text=eight)


class DropTest(EditTest):

    def test_pieces(self):
        text = "option o on option p off var x 4 var y 9 round a pay x end round b pay pick p x 1 end"
        for sort, name, piece in (("option", "o", "option o on "), ("var", "y", "var y 9 "),
                                  ("round", "a", "round a pay x end "), ("round", "b", " round b pay pick p x 1 end")):
            self.assertIn(piece, text)
            self.check(("drop", sort, name), text.replace(piece, ""), text=text)
        self.check(("drop", "round", "a"), "", text="round a end")
        self.check(("drop", "var", "x"), "option x on round x end", text="option x on var x 3 round x end")
        self.check(("drop", "option", "x"), "var x 3 round x end", text="option x on var x 3 round x end")

    def test_moves_get_new_numbers(self):
        game = changed(read_game("var x 4 round a first x 3 end round b second x 2 end"), ("drop", "round", "a"))
        self.assertEqual(game.rounds, (("b", (("move", 2, "x", 2, 0),)),))

    def test_example(self):
        self.misfit(("drop", "var", "x"), 3, "round a pay x end", text="var x 2 round a pay x end")

    def test_names_that_become_unknown(self):
        self.misfit(("drop", "option", "o"), 15, TEXT.replace("option o on ", ""))
        self.misfit(("drop", "option", "p"), 24, TEXT.replace("option p off ", ""))
        self.misfit(("drop", "var", "x"), 12, TEXT.replace("var x 4 ", ""))
        self.misfit(("drop", "var", "y"), 26, TEXT.replace("var y 9 ", ""))
        self.misfit(("drop", "var", "x"), 2, "round a set x 1 end", text="var x 2 round a set x 1 end")

    def test_refusals(self):
        for sort in ("", "variable", "Option", "options", "first", "on", "o"):
            self.bad(("drop", sort, "o"), "sort")
            self.bad(("drop", sort, "nothing"), "sort")
        for sort, name in (("option", "x"), ("option", "a"), ("option", "q"), ("var", "o"), ("var", "b"), ("var", ""),
                           ("round", "x"), ("round", "o"), ("round", "c"), ("option", "on"), ("var", "x 4")):
            self.bad(("drop", sort, name), "name")
        for sort in SORTS:
            self.bad(("drop", sort, "a"), "name", text="")


class SwitchTest(EditTest):

    def test_options(self):
        for name, on, told in (("o", True, TEXT), ("o", False, TEXT.replace("option o on", "option o off")),
                               ("p", True, TEXT.replace("option p off", "option p on")), ("p", False, TEXT)):
            self.check(("switch", name, on), told)
            found = changed(read_game(TEXT), ("switch", name, on))
            self.assertIs(dict(found.options)[name], on)

    def test_refusals(self):
        for name in ("x", "a", "q", "", "on", "option", "o on"):
            for on in (True, False):
                self.bad(("switch", name, on), "name")
        self.bad(("switch", "o", True), "name", text="")


class ChangesTest(unittest.TestCase):

    def check(self, old, new, *told):
        games = read_game(old), read_game(new)
        found = changes(*games)
        self.assertEqual(found, list(told))
        self.assertIs(type(found), list)
        self.assertTrue(all(type(change) is tuple for change in found))
        self.lead(*games)
        self.assertEqual((game_text(games[0]), game_text(games[1])), (old, new))

    def lead(self, old, new):
        game = old
        for change in changes(old, new):
            self.assertEqual(read_edit(edit_text(change)), change)
            game = changed(game, change)
        self.assertEqual(game_text(game), game_text(new))

    def test_equal_games(self):
        self.check("", "")
        self.check(TEXT, TEXT)

    def test_from_and_to_the_empty_game(self):
        self.check("", "option o on var x 3 round a pay x end", ("put", "option o on"), ("put", "var x 3"),
                   ("put", "round a pay x end"))
        self.check("option o on var x 3 round a pay x end", "", ("drop", "round", "a"), ("drop", "var", "x"),
                   ("drop", "option", "o"))

    def test_common_beginning(self):
        self.check("option o on var x 3 round a end", "option o on var x 3 round b end", ("drop", "round", "a"),
                   ("put", "round b end"))
        self.check("option o on var x 3", "option o on var x 3 round b end", ("put", "round b end"))
        self.check("option o on var x 3 round a end", "option o on", ("drop", "round", "a"), ("drop", "var", "x"))
        self.check("var x 3 var y 4 round a pay y end", "var x 3 var z 4 var y 4 round a pay y end",
                   ("drop", "round", "a"), ("drop", "var", "y"), ("put", "var z 4"), ("put", "var y 4"),
                   ("put", "round a pay y end"))

    def test_without_a_common_beginning(self):
        self.check("option o on var x 3 round a pay x end", "option o off var x 3 round a pay x end",
                   ("drop", "round", "a"), ("drop", "var", "x"), ("drop", "option", "o"), ("put", "option o off"),
                   ("put", "var x 3"), ("put", "round a pay x end"))
        self.check("round a end round b end", "round b end round a end", ("drop", "round", "b"), ("drop", "round", "a"),
                   ("put", "round b end"), ("put", "round a end"))
        self.check("var x 3", "option o on", ("drop", "var", "x"), ("put", "option o on"))

    def test_random_games(self):
        games = [random_game(seed) for seed in range(40)]
        for old in games:
            for new in games[::5]:
                self.lead(old, new)

    def test_large_games(self):
        full = " ".join([f"option o{k} on" for k in range(6)] + [f"var x{k} 2" for k in range(12)]
                        + [f"round r{k} " + "first x0 2 " * 3 + "end" for k in range(8)])
        other = full.replace("option o5", "option p5").replace("round r3", "round s3")
        self.lead(read_game(full), read_game(other))
        self.assertEqual(len(changes(read_game(full), read_game(other))), 2 * (1 + 12 + 8))


class LineTest(unittest.TestCase):

    EDITS = [
        (("put", "var x 3"), "put var x 3"), (("put", ""), "put "), (("put", " "), "put  "), (("put", "x"), "put x"),
        (("put", "  a\tb\n c "), "put   a\tb\n c "), (("put", "\n"), "put \n"), (("put", "put put"), "put put put"),
        (("put", "drop var x"), "put drop var x"), (("drop", "option", "o"), "drop option o"),
        (("drop", "var", "abcdefghijkl"), "drop var abcdefghijkl"), (("drop", "round", "r9"), "drop round r9"),
        (("switch", "o", True), "switch o on"), (("switch", "o", False), "switch o off"), (("back", 0), "back 0"),
        (("back", 63), "back 63"), (("back", 65535), "back 65535"),
    ]

    def test_there_and_back(self):
        for change, line in self.EDITS:
            self.assertEqual(edit_text(change), line)
            found = read_edit(line)
            self.assertEqual(found, change)
            self.assertIs(type(found), tuple)
            if change[0] == "switch":
                self.assertIs(found[2], change[2])

    def test_example(self):
        self.assertEqual(read_edit("switch x off"), ("switch", "x", False))

    def bad(self, line, at):
        self.assertEqual(refusal(BadText, read_edit, line).at, at, line)

    def test_put(self):
        self.bad("put", 1)
        self.assertEqual(read_edit("put "), ("put", ""))
        for line in ("puts", "Put x", " put x", "pu", "put\tx", "put\n", "\nput x"):
            self.bad(line, 0)

    def test_first_word(self):
        for line in ("", " ", "x", "x y z", " drop var x", "Drop var x", "on", "option o on", "drop\tvar x", "backs 3"):
            self.bad(line, 0)

    def test_words_missing(self):
        for line in ("drop", "switch", "back"):
            self.bad(line, 1)
        for line in ("drop var", "drop option", "switch x"):
            self.bad(line, 2)

    def test_words_left_over(self):
        for line, at in (("drop var x y", 3), ("drop round x end", 3), ("switch x on on", 3), ("switch x off ", 3),
                         ("drop var x ", 3), ("back 3 4", 2), ("back 3 ", 2), ("back 0  ", 2)):
            self.bad(line, at)

    def test_empty_words(self):
        for line, at in (("drop ", 1), ("drop  var x", 1), ("drop var ", 2), ("drop var  x", 2), ("switch ", 1),
                         ("switch  x on", 1), ("switch x ", 2), ("switch x  on", 2), ("back ", 1), ("back  3", 1)):
            self.bad(line, at)

    def test_sorts(self):
        for sort in ("variable", "vars", "Var", "x", "first", "put", "on", "9"):
            self.bad(f"drop {sort} x", 1)
            self.bad(f"drop {sort}", 1)

    def test_names(self):
        for name in ("9x", "X", "a_b", "abcdefghijklm", "on", "off", "var", "end", "view", "x\n", "+", "mod", "a-"):
            self.bad(f"drop var {name}", 2)
            self.bad(f"switch {name} on", 1)
            self.bad(f"switch {name}", 1)

    def test_on_and_off(self):
        for word in ("x", "On", "1", "true", "end", "on\n"):
            self.bad(f"switch x {word}", 2)

    def test_numbers(self):
        for word in ("65536", "00", "01", "-1", "+1", "x", "1.0", "123456", "3\n"):
            self.bad(f"back {word}", 1)
        self.bad("back on off", 1)


if __name__ == "__main__":
    unittest.main()
