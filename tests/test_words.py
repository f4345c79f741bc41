"""Words, names, numbers and the Cursor: points 10, 11, 12, 16."""

import unittest

from sureplay.errors import BadText
from sureplay.expression import read_expression
from sureplay.words import Cursor, is_name, join_words, number_of, split_words
from tests.support import refusal

KEY_WORDS = ("option on off var round end set if else when draw first second show both pay take pick mod player "
             "keep lot while answer view long").split()

NO_NAMES = ["", " ", "7", "7a", "A", "aB", "a_b", "a-b", "a b", "_a", "a.", "-", "+", "<", "=", "/", "*", "a\n", "a\t",
            "\na", "a\nb", "~", "\u00e9", "a\u0661", "{", "`", "a{", "a`", "a:", "a/"]

NO_NUMBERS = ["", " ", "00", "01", "007", "+1", "-1", "-0", "+0", "65536", "99999", "100000", "065535", "000001",
              "1\n", "\n1", "1\t", "1 ", " 1", "1.0", "1e2", "1_0", "0x1", "x", "one", "\u00b2", "\u0661",
              "655350", "12345678901234567890"]


class WordsTest(unittest.TestCase):

    def test_words(self):
        cases = [("", []), (" ", ["", ""]), ("  ", ["", "", ""]), ("a", ["a"]), ("a b", ["a", "b"]),
                 (" a", ["", "a"]), ("a ", ["a", ""]), ("a  b", ["a", "", "b"]), ("pay  1", ["pay", "", "1"]),
                 ("a\nb c\td", ["a\nb", "c\td"]), ("\n", ["\n"]), ("\t \n", ["\t", "\n"]), ("a\n b", ["a\n", "b"]),
                 ("+ - ~", ["+", "-", "~"])]
        for text, words in cases:
            self.assertEqual(split_words(text), words, repr(text))
            self.assertEqual(join_words(split_words(text)), text)

    def test_join(self):
        words = ["set", "x", "1"]
        self.assertEqual(join_words(words), "set x 1")
        self.assertEqual(words, ["set", "x", "1"])
        self.assertEqual(join_words([]), "")
        self.assertEqual(join_words(["a"]), "a")
        self.assertEqual(join_words(["", ""]), " ")
        self.assertEqual(join_words(["a", "", "b"]), "a  b")


class NamesTest(unittest.TestCase):

    def test_names(self):
        for word in ("a", "z", "x1", "a0", "z9", "abcdefghijkl", "a12345678901", "options", "ends", "iff", "vari",
                     "mod2", "o", "pa", "longer"):
            self.assertIs(is_name(word), True, word)

    def test_all_letters_and_digits(self):
        for letter in "abcdefghijklmnopqrstuvwxyz":
            self.assertIs(is_name(letter), True)
            self.assertIs(is_name("q" + letter), True)
            self.assertIs(is_name(letter.upper()), False)
        for digit in "0123456789":
            self.assertIs(is_name("q" + digit), True)
            self.assertIs(is_name(digit + "q"), False)

    def test_no_names(self):
        for word in NO_NAMES + KEY_WORDS + ["abcdefghijklm", "a123456789012", "a" * 400]:
            self.assertIs(is_name(word), False, repr(word))
        self.assertEqual(len(KEY_WORDS), 26)


class NumbersTest(unittest.TestCase):

    def test_numbers(self):
        for number in [*range(0, 1200), 9999, 10000, 65534, 65535]:
            self.assertEqual(number_of(str(number)), number)
        self.assertIs(type(number_of("0")), int)

    def test_no_numbers(self):
        for word in NO_NUMBERS + KEY_WORDS:
            self.assertIsNone(number_of(word), repr(word))


class CursorTest(unittest.TestCase):

    def check(self, cursor, at, word):
        self.assertEqual(cursor.at, at)
        self.assertEqual(cursor.word, word)

    def check_refusal(self, cursor, call, *arguments):
        at, word = cursor.at, cursor.word
        self.assertEqual(refusal(BadText, call, *arguments).at, at)
        self.check(cursor, at, word)

    def test_place_and_word(self):
        cursor = Cursor(["a", "b"])
        self.check(cursor, 0, "a")
        cursor.take_word("a")
        self.check(cursor, 1, "b")
        cursor.take_word("b")
        self.check(cursor, 2, None)
        self.check(Cursor([]), 0, None)
        self.check(Cursor(("x", "y")), 0, "x")

    def test_take_word(self):
        cursor = Cursor(["set", "", "set"])
        for word in ("Set", "se", "sets", "", "x"):
            self.check_refusal(cursor, cursor.take_word, word)
        self.assertIsNone(cursor.take_word("set"))
        self.check(cursor, 1, "")
        self.check_refusal(cursor, cursor.take_word, "set")
        cursor.take_word("")
        self.check(cursor, 2, "set")
        cursor.take_word("set")
        self.check(cursor, 3, None)
        for word in ("set", ""):
            self.check_refusal(cursor, cursor.take_word, word)

    def test_take_number(self):
        cursor = Cursor(["7", "0", "65535", "x", "65536", "07", ""])
        for least, most in ((8, 9), (0, 6), (8, 6), (65535, 65535)):
            self.check_refusal(cursor, cursor.take_number, least, most)
        self.assertEqual(cursor.take_number(7, 7), 7)
        self.check(cursor, 1, "0")
        self.check_refusal(cursor, cursor.take_number, 1, 65535)
        self.assertEqual(cursor.take_number(0, 0), 0)
        self.check_refusal(cursor, cursor.take_number, 0, 65534)
        self.assertEqual(cursor.take_number(0, 65535), 65535)
        for at in range(3, 7):
            cursor.at = at
            self.check_refusal(cursor, cursor.take_number, 0, 65535)
        cursor.at = 7
        self.check_refusal(cursor, cursor.take_number, 0, 65535)
        self.check_refusal(Cursor([]), Cursor([]).take_number, 0, 9)

    def test_take_number_refuses_what_is_no_number(self):
        for word in NO_NUMBERS:
            cursor = Cursor([word])
            self.check_refusal(cursor, cursor.take_number, 0, 1000000)

    def test_take_name(self):
        cursor = Cursor(["b", "on", "", "c"])
        self.check_refusal(cursor, cursor.take_name, ["a"])
        self.check_refusal(cursor, cursor.take_name, [])
        self.check_refusal(cursor, cursor.take_name, ["bb", "B", ""])
        self.assertEqual(cursor.take_name(["a", "b"]), "b")
        self.check(cursor, 1, "on")
        self.assertEqual(cursor.take_name(("on", "off")), "on")
        self.assertEqual(cursor.take_name(["x", ""]), "")
        self.assertEqual(cursor.take_name(["c"]), "c")
        self.check(cursor, 4, None)
        self.check_refusal(cursor, cursor.take_name, ["c"])
        self.check_refusal(cursor, cursor.take_name, [])

    def test_take_new_name(self):
        cursor = Cursor(["b", "c", "set", "7", "", "abcdefghijkl", "abcdefghijklm"])
        self.check_refusal(cursor, cursor.take_new_name, ["b"])
        self.check_refusal(cursor, cursor.take_new_name, ("a", "b"))
        self.assertEqual(cursor.take_new_name(["a"]), "b")
        self.check(cursor, 1, "c")
        self.assertEqual(cursor.take_new_name([]), "c")
        for at in (2, 3, 4, 6, 7):
            cursor.at = at
            self.check_refusal(cursor, cursor.take_new_name, [])
        cursor.at = 5
        self.assertEqual(cursor.take_new_name(["abc"]), "abcdefghijkl")
        self.check(cursor, 6, "abcdefghijklm")

    def test_take_new_name_refuses_what_is_no_name(self):
        for word in NO_NAMES + KEY_WORDS:
            cursor = Cursor([word])
            self.check_refusal(cursor, cursor.take_new_name, [])
        for word in ("", "7", "set"):
            cursor = Cursor([word])
            self.assertEqual(cursor.take_name([word]), word)

    def test_lists_may_change_afterwards(self):
        words, options, variables = ["pick", "o", "x", "view", "0"], ["o"], ["x"]
        cursor = Cursor(words, options=options, variables=variables, sees=True)
        words[0] = "set"
        words.append("more")
        options.clear()
        variables[0] = "y"
        self.check(cursor, 0, "pick")
        self.assertEqual(read_expression(cursor), ("pick", "o", ("variable", "x"), ("view", ("number", 0))))
        self.check(cursor, 5, None)

    def test_lists_stay(self):
        words, names = ["a", "4", "b", "c"], ["a", "b"]
        options, variables = ["o"], ["x"]
        cursor = Cursor(words, options=options, variables=variables)
        cursor.take_word("a")
        cursor.take_number(0, 9)
        cursor.take_name(names)
        cursor.take_new_name(names)
        self.check(cursor, 4, None)
        self.assertEqual((words, names), (["a", "4", "b", "c"], ["a", "b"]))
        self.assertEqual((options, variables), (["o"], ["x"]))

    def test_two_cursors_have_their_own_place(self):
        words = ["a", "b"]
        cursor, other = Cursor(words), Cursor(words)
        cursor.take_word("a")
        self.check(cursor, 1, "b")
        self.check(other, 0, "a")

    def test_methods_stand_in_the_class(self):
        for name in ("__init__", "word", "take_word", "take_number", "take_name", "take_new_name"):
            self.assertIn(name, vars(Cursor))


if __name__ == "__main__":
    unittest.main()
