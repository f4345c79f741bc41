"""Texts that write no game, and where they are refused: point 16, with the bounds of points 13 to 15."""

import random
import unittest

from sureplay.errors import BadText
from sureplay.gametext import game_text, pieces_of, read_game
from tests.grammar import first_misfit
from tests.support import Writer, refusal

TEXTS = [
    "option o on option p off var x 4 var y 9 round a set x + 1 pick o x y if < x 2 pay 1 else when p take x end end "
    "end round b draw x 64 first y 8 second x 1 show first x show second y show both mod x y end",
    "option o on",
    "var x 65535",
    "round a end round b pay 0 end",
    "round a if 1 if 2 if 3 else pay 1 end else take 2 end end end",
    "option x off var x 1 round x when x set x pick x x x else first x 2 end end",
]

HEAD = "option o on var x 9 "


class RefusalTest(unittest.TestCase):

    def check(self, text, at):
        self.assertEqual(refusal(BadText, read_game, text).at, at, text)

    def check_last(self, text):
        """The text is refused at its last word."""
        self.check(text, len(text.split(" ")) - 1)

    def check_open(self, text):
        """The text is a beginning, and refused behind its last word."""
        self.check(text, len(text.split(" ")))

    def check_game(self, text):
        self.assertEqual(game_text(read_game(text)), text)


class BeginningTest(RefusalTest):

    def test_every_beginning(self):
        for text in TEXTS + [" ".join(Writer(seed).game_words()) for seed in range(40)]:
            words = text.split()
            whole = [0]
            for piece in pieces_of(read_game(text)):
                whole.append(whole[-1] + len(piece.split()))
            self.assertEqual(whole[-1], len(words))
            for count in range(len(words) + 1):
                beginning = " ".join(words[:count])
                if count in whole:
                    self.check_game(beginning)
                else:
                    self.check(beginning, count)

    def test_words_that_fit_nowhere(self):
        strangers = ["", "X", "a_b", "65536", "01", "-1", "a23456789012b", "x\n", "\n", "\t", "~", "player", "keep",
                     "lot", "while", "answer", "view", "long"]
        for text in TEXTS:
            words = text.split()
            for at in range(len(words) + 1):
                for word in strangers:
                    self.check(" ".join(words[:at] + [word] + words[at:]), at)
                    if at < len(words):
                        self.check(" ".join(words[:at] + [word] + words[at + 1:]), at)

    def test_spaces(self):
        self.check(" ", 0)
        self.check(" round a end", 0)
        self.check("round a end ", 3)
        self.check("round  a end", 1)
        self.check("round a pay  1 end", 3)

    def test_same_as_the_second_way(self):
        choose = random.Random(7)
        others = ("option o0 o1 on off var x0 x1 x2 r0 r1 7 0 1 2 3 8 9 64 65 65535 round end set if else when draw "
                  "first second show both pay take pick mod + - * / < = new a1 view long keep").split()
        refused = 0
        for seed in range(400):
            words = Writer(1000 + seed).game_words()
            for _ in range(12):
                changed = list(words)
                for _ in range(choose.randint(1, 3)):
                    at = choose.randint(0, len(changed))
                    changed[at:at + choose.randint(0, 2)] = choose.choices(others, k=choose.randint(0, 2))
                text = " ".join(changed)
                expected = first_misfit(changed)
                if expected is None:
                    self.check_game(text)
                else:
                    refused += 1
                    self.check(text, expected)
        self.assertGreater(refused, 1000)


class HeadTest(RefusalTest):

    def test_options(self):
        six = " ".join([f"option o{k} on" for k in range(6)])
        self.check_game(six)
        self.check_last(six + " option")
        self.check(six + " option p on", 18)
        self.check_game(six + " var x 1")
        self.check_last("option o on option o")
        self.check("option o on option o off", 4)
        self.check_last("option o yes")
        self.check_last("option o 1")
        self.check_last("option on")
        self.check_last("option end")
        self.check_last("var x 1 option")
        self.check_last("round a end option")
        self.check_last("round option")

    def test_variables(self):
        twelve = " ".join([f"var x{k} 1" for k in range(12)])
        self.check_game(twelve)
        self.check_last(twelve + " var")
        self.check(twelve + " var y 1", 36)
        self.check_game(twelve + " round a end")
        self.check_last("var x 1 var x")
        self.check("var x 1 var x 2", 4)
        self.check_last("round a end var")
        for size in ("1", "65535"):
            self.check_game("var x " + size)
        for size in ("0", "65536", "01", "x", "", "-1", "+1", "1\n", "99999", "123456"):
            self.check_last("var x " + size)

    def test_rounds(self):
        eight = " ".join([f"round r{k} end" for k in range(8)])
        self.check_game(eight)
        self.check_last(eight + " round")
        self.check(eight + " round s end", 24)
        self.check_last("round a end round a")
        self.check("round a end round a end", 4)
        self.check_last("round a end end")
        self.check_last("round a round")
        self.check_last("end")
        self.check_last("pay")

    def test_names(self):
        for sort, behind in (("option", " on"), ("var", " 1"), ("round", " end")):
            for name in ("a", "abcdefghijkl", "z9", "a00000000000"):
                self.check_game(f"{sort} {name}{behind}")
            for name in ("", "abcdefghijklm", "9a", "A", "a.b", "a\t", "on", "end", "view", sort):
                self.check(f"{sort} {name}{behind}", 1)

    def test_names_are_shared_between_sorts_only(self):
        self.check_game("option a on var a 1 round a end")
        self.check_game("option a on option b on var a 1 var b 1 round b end round a end")


class StatementTest(RefusalTest):

    def test_without_variables(self):
        for word in ("set", "draw", "first", "second"):
            self.check_last("option o on round a " + word)
            self.check_last("option o on round a if 1 " + word)
            self.check_open("var x 1 round a " + word)
        self.check_last("round a pay x")

    def test_without_options(self):
        self.check_last("var x 1 round a when")
        self.check_last("var x 1 round a pay pick")
        self.check_last("var x 1 round a pay + 1 pick")
        self.check_open("option o off round a when")
        self.check_open("option o off round a pay pick")

    def test_names_that_are_not_known(self):
        for words in ("set y", "draw y", "first y", "second y", "set o", "when x", "when y", "pay y", "take o",
                      "pay pick x", "if y", "show y", "show both y", "set x y", "show round", "set 1", "draw 4",
                      "when 1", "pay pick 1", "first 2", "when a", "pay a"):
            self.check_last(HEAD + "round a " + words)

    def test_results_and_moves(self):
        for word, most in (("draw", 64), ("first", 8), ("second", 8)):
            for count in range(1, most + 1):
                self.check_game(f"var x 9 round a {word} x {count} end")
            for count in ("0", str(most + 1), "65535", "01", "", "x", "-1", "end"):
                self.check_last(f"var x 9 round a {word} x {count}")
                self.check(f"var x 9 round a {word} x {count} end", 7)

    def test_seats(self):
        for seat in ("first", "second", "both"):
            self.check_open("round a show " + seat)
        for seat in ("0", "1", "third", "on", "", "end"):
            self.check_last("round a show " + seat)

    def test_else(self):
        for opening in ("if 1", "when o"):
            for words in ("", " pay 1"):
                start = f"{HEAD}round a {opening}{words}"
                self.check_open(start)
                self.check_open(start + " else")
                self.check_last(start + " else end")
                self.check_last(start + " else else")
                self.check_last(start + " else round")
                self.check_open(start + " else pay 2")
                self.check_last(start + " else pay 2 else")
                self.check(start + " else pay 2 else pay 3 end end", len((start + " else pay 2").split()))
                self.check_game(start + " else pay 2 end end")
        self.check_last("round a else")
        self.check_last("round a pay 1 else")
        self.check_last("round a if 1 end else")
        self.check_last("round a if 1 else if 2 end else")

    def test_depth_of_blocks(self):
        for opening in ("if 1", "when o", "if 1 else", "when o else"):
            start = f"{HEAD}round a" + f" {opening}" * 8
            self.check_open(start)
            self.check_last(start + " if")
            self.check_last(start + " when")
            self.check_game(start + " pay 1" + " end" * 9)
            self.check_last(start + " pay 1 end if 1 if")
            self.check_game(start + " pay 1 end if 1 end" + " end" * 8)
        mixed = HEAD + "round a" + " if 1 when o else" * 4
        self.check_last(mixed + " if")
        self.check_last(mixed + " when")
        self.check_open(mixed + " pay")

    def test_depth_begins_anew_in_a_round(self):
        eight = " if 1" * 8 + " end" * 8
        self.check_game(f"round a{eight}{eight} end round b{eight} end")

    def test_draws_and_moves(self):
        mixed = "draw x 2 first x 2 second x 2"
        whole = f"{HEAD}round a {mixed} {mixed} if x {mixed} else {mixed} end end round b when o {mixed} else {mixed} "
        start = f"{whole}end {mixed}"
        for word in ("draw", "first", "second"):
            self.check_open(f"{start} {word} x 2 first x 2 {word}")
            self.check_last(f"{start} {mixed} {word}")
            self.check_last(f"{start} {mixed} if 1 {word}")
            self.check_last(f"{start} {mixed} end round c {word}")
        self.check_game(f"{start} {mixed} end")
        self.check_game(f"{start} {mixed} set x 1 pay x end round c show first 1 end")

    def test_bound_of_each_sort_of_choice(self):
        for word in ("draw", "first", "second"):
            all_of_them = " ".join([f"{word} x 1"] * 24)
            self.check_game(f"var x 1 round a {all_of_them} end")
            for other in ("draw", "first", "second"):
                self.check_last(f"var x 1 round a {all_of_them} {other}")
                self.check_last(f"var x 1 round a {all_of_them} end round b {other}")


class ExpressionTest(RefusalTest):

    PLACES = ("set x", "if", "show first", "show second", "show both", "pay", "take", "pay pick o 1", "pay + 1",
              "pay + 1 - 2", "if 1 take", "when o else pay", "if 1 else if", "if 1 pay 1 else set x")

    def test_depth_in_every_place(self):
        for place in self.PLACES:
            room = 12 - place.count("pick") - place.count("+") - place.count("-")
            for first, behind in (("+", " 1"), ("mod", " x"), ("pick o", " 0")):
                start = f"{HEAD}round a {place}" + f" {first}" * (room - 1)
                self.check(start + f" {first}", len(start.split()))
                self.check(start + f" {first} 1 1", len(start.split()))
                closed = start + " 1" + behind * (room - 1)
                self.check_open(closed)

    def test_depth_in_whole_games(self):
        deep = "+ " * 11 + "1" + " 1" * 11
        self.check_game(f"var x 9 round a set x {deep} pay {deep} show both {deep} if {deep} end end")
        self.check_game("round a pay " + "* 1 " * 11 + "1 end")
        self.check("round a pay " + "* 1 " * 12 + "1 end", 25)
        self.check("round a pay + " + deep + " 1 end", 14)

    def test_ends_too_early(self):
        for place in self.PLACES:
            self.check_open(f"{HEAD}round a {place}")
            self.check_open(f"{HEAD}round a {place} +")
            self.check_open(f"{HEAD}round a {place} + 1")
            self.check_open(f"{HEAD}round a {place} pick o x")
            self.check_last(f"{HEAD}round a {place} end")
            self.check_last(f"{HEAD}round a {place} + 1 end")

    def test_no_words_of_brains(self):
        for place in self.PLACES:
            self.check_last(f"{HEAD}round a {place} view")
            self.check_last(f"{HEAD}round a {place} long")

    def test_numbers(self):
        self.check_game("round a pay 0 pay 65535 end")
        for word in ("65536", "00", "01", "-1", "+1", "100000"):
            self.check_last(f"round a pay {word}")

    def test_example(self):
        self.check("round a set x 1 end", 2)


if __name__ == "__main__":
    unittest.main()
