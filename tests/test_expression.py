"""Expressions: points 15, 16, 18, 19, 20."""

import itertools
import unittest

from sureplay.errors import BadText
from sureplay.expression import combine, expression_words, read_expression, value_of
from sureplay.words import Cursor
from tests.support import refusal

OPERATORS = ["+", "-", "*", "/", "mod", "<", "="]

X, Y, ZERO = ("variable", "x"), ("variable", "y"), ("number", 0)


def cursor_of(text, options=("o", "p"), variables=("x", "y"), sees=True):
    return Cursor(text.split(" ") if text else [], options=options, variables=variables, sees=sees)


def expressions(depth):
    """Some expressions of at most this depth, with every form at every place."""
    if depth == 1:
        return [X, Y, ZERO, ("number", 65535), ("long",)]
    parts = expressions(depth - 1)
    pairs = list(zip(parts, reversed(parts)))
    found = list(parts)
    found += [("view", part) for part in parts]
    found += [(sign, *pair) for sign in OPERATORS for pair in pairs[:9]]
    found += [("pick", name, *pair) for name in ("o", "p") for pair in pairs[-9:]]
    return found


class ReadingTest(unittest.TestCase):

    def test_every_form(self):
        cases = [("0", ZERO), ("65535", ("number", 65535)), ("x", X), ("long", ("long",)), ("view y", ("view", Y)),
                 ("pick p x 0", ("pick", "p", X, ZERO)), ("view view 0", ("view", ("view", ZERO))),
                 ("+ - x 0 y", ("+", ("-", X, ZERO), Y)), ("+ x - 0 y", ("+", X, ("-", ZERO, Y))),
                 ("pick o pick p x y long", ("pick", "o", ("pick", "p", X, Y), ("long",)))]
        cases += [(sign + " x y", (sign, X, Y)) for sign in OPERATORS]
        for text, data in cases:
            cursor = cursor_of(text)
            self.assertEqual(read_expression(cursor), data)
            self.assertEqual((cursor.at, cursor.word), (len(text.split()), None))
            self.assertEqual(expression_words(data), text.split())

    def test_written_and_read_back(self):
        for expression in expressions(4):
            words = expression_words(expression)
            self.assertIs(type(words), list)
            cursor = Cursor([*words, "end"], options=["o", "p"], variables=["x", "y"], sees=True)
            self.assertEqual(read_expression(cursor), expression)
            self.assertEqual((cursor.at, cursor.word), (len(words), "end"))

    def test_example(self):
        self.assertEqual(expression_words(("+", X, ("number", 7))), ["+", "x", "7"])

    def test_new_list_each_time(self):
        for expression in (X, ("long",), ("+", X, Y)):
            words = expression_words(expression)
            words.append("more")
            self.assertEqual(expression_words(expression), words[:-1])

    def test_begins_at_the_place_of_the_cursor(self):
        cursor = cursor_of("set x + x 1 end")
        cursor.at = 2
        self.assertEqual(read_expression(cursor), ("+", X, ("number", 1)))
        self.assertEqual(cursor.at, 5)
        cursor.at = 1
        self.assertEqual(read_expression(cursor), X)
        self.assertEqual(cursor.at, 2)

    def test_option_and_variable_may_share_a_name(self):
        cursor = cursor_of("pick x x x", options=["x"], variables=["x"])
        self.assertEqual(read_expression(cursor), ("pick", "x", X, X))


class DepthTest(unittest.TestCase):

    def check_chain(self, first, behind, deepest, **named):
        """`first` deepens the expression that stands between it and the words `behind`."""
        for depth in (deepest, deepest + 1):
            chain = first * (depth - 1)
            words = chain + ["1"] + behind * (depth - 1)
            cursor = Cursor(words, options=["o"], variables=["x"], sees=True)
            if depth == deepest:
                read_expression(cursor, **named)
                self.assertEqual(cursor.at, len(words))
            else:
                self.assertEqual(refusal(BadText, read_expression, cursor, **named).at, len(chain) - len(first))

    def test_bounds(self):
        for room in range(1, 13):
            for sign in OPERATORS:
                self.check_chain([sign], ["x"], room, room=room)
                self.check_chain([sign, "x"], [], room, room=room)
            self.check_chain(["pick", "o"], ["x"], room, room=room)
            self.check_chain(["pick", "o", "x"], [], room, room=room)
            self.check_chain(["view"], [], room, room=room)
            for word in ("long", "x", "65535"):
                cursor = cursor_of(" ".join(["view"] * (room - 1) + [word]))
                read_expression(cursor, room=room)
                self.assertEqual(cursor.at, room)

    def test_bound_that_is_not_given(self):
        self.check_chain(["+"], ["x"], 12)
        self.check_chain(["mod", "x"], [], 12)
        self.check_chain(["pick", "o", "1"], [], 12)
        self.check_chain(["view"], [], 12)

    def test_both_parts_have_the_same_room(self):
        self.assertEqual(read_expression(cursor_of("+ + x y + x y"), room=3), ("+", ("+", X, Y), ("+", X, Y)))
        self.assertEqual(refusal(BadText, read_expression, cursor_of("+ + x y + x y"), room=2).at, 1)
        self.assertEqual(refusal(BadText, read_expression, cursor_of("+ x + x y"), room=2).at, 2)
        self.assertEqual(refusal(BadText, read_expression, cursor_of("+ + x y + + x y x"), room=3).at, 5)

    def test_very_deep_text(self):
        cursor = Cursor(["+"] * 100000)
        self.assertEqual(refusal(BadText, read_expression, cursor).at, 11)


class RefusalTest(unittest.TestCase):

    def check(self, text, at, **named):
        self.assertEqual(refusal(BadText, read_expression, cursor_of(text, **named)).at, at, text)

    def test_names_that_are_not_known(self):
        self.check("z", 0)
        self.check("o", 0)
        self.check("+ x z", 2)
        self.check("+ z x", 1)
        self.check("pick x x x", 1)
        self.check("pick z x x", 1)
        self.check("view z", 1)

    def test_words_that_fit_nowhere(self):
        for word in ["", "set", "end", "else", "on", "65536", "01", "-1", "X", "x\n", "\t", "**", "==", "first", "both"]:
            self.check(word, 0)
            self.check("+ " + word, 1)
            self.check("+ x " + word, 2)
            self.check("pick " + word, 1)
            self.check("pick o x " + word, 3)
            self.check("view " + word, 1)

    def test_no_variables(self):
        self.check("x", 0, variables=())
        self.check("+ 1 x", 2, variables=())
        self.assertEqual(read_expression(cursor_of("pick o 1 2", variables=())),
                         ("pick", "o", ("number", 1), ("number", 2)))

    def test_no_options(self):
        self.check("pick", 0, options=())
        self.check("+ pick", 1, options=())
        self.check("pick o x x", 0, options=())
        self.assertEqual(read_expression(cursor_of("+ x view long", options=())), ("+", X, ("view", ("long",))))

    def test_names_are_unknown_unless_they_are_given(self):
        self.assertEqual(refusal(BadText, read_expression, Cursor(["x"])).at, 0)
        self.assertEqual(refusal(BadText, read_expression, Cursor(["pick", "o", "1", "1"])).at, 0)
        self.assertEqual(refusal(BadText, read_expression, Cursor(["long"])).at, 0)

    def test_view_and_long_only_where_they_are_seen(self):
        for text, at in (("view", 0), ("view 0", 0), ("long", 0), ("+ 1 long", 2), ("+ view 0 1", 1),
                         ("pick o 1 long", 3)):
            self.check(text, at, sees=False)
        self.assertEqual(read_expression(cursor_of("long")), ("long",))
        self.assertEqual(read_expression(cursor_of("view 0")), ("view", ZERO))

    def test_words_that_end_too_early(self):
        for text in ("", "+", "+ x", "+ + x y", "+ + x", "pick", "pick o", "pick o x", "view", "view view", "- 1 view"):
            self.check(text, len(text.split()))

    def test_every_beginning(self):
        for expression in expressions(3):
            words = expression_words(expression)
            for count in range(len(words)):
                cursor = Cursor(words[:count], options=["o", "p"], variables=["x", "y"], sees=True)
                self.assertEqual(refusal(BadText, read_expression, cursor).at, count)

    def test_word_behind_is_not_looked_at(self):
        for word in ("x", "+", "", "65536", "view"):
            cursor = Cursor(["x", word], variables=["x"])
            read_expression(cursor)
            self.assertEqual((cursor.at, cursor.word), (1, word))


class ValueTest(unittest.TestCase):

    def test_operators(self):
        cases = [("+", 2, 3, 5), ("+", 65535, 0, 65535), ("+", 65535, 1, 0), ("+", 65535, 65535, 65534),
                 ("+", 32768, 32768, 0), ("*", 3, 4, 12), ("*", 0, 9, 0), ("*", 256, 256, 0), ("*", 65535, 65535, 1),
                 ("*", 257, 256, 256), ("*", 65535, 2, 65534), ("-", 5, 3, 2), ("-", 3, 5, 0), ("-", 4, 4, 0),
                 ("-", 65535, 0, 65535), ("-", 0, 65535, 0), ("/", 7, 2, 3), ("/", 6, 2, 3), ("/", 1, 2, 0),
                 ("/", 7, 0, 0), ("/", 0, 0, 0), ("/", 0, 5, 0), ("/", 65535, 1, 65535), ("mod", 7, 2, 1),
                 ("mod", 6, 2, 0), ("mod", 1, 2, 1), ("mod", 7, 0, 0), ("mod", 0, 0, 0), ("mod", 65535, 256, 255),
                 ("mod", 7, 1, 0), ("<", 1, 2, 1), ("<", 2, 1, 0), ("<", 2, 2, 0), ("<", 0, 65535, 1), ("=", 2, 2, 1),
                 ("=", 1, 2, 0), ("=", 2, 1, 0), ("=", 0, 0, 1)]
        for sign, left, right, worth in cases:
            self.assertEqual(combine(sign, left, right), worth, (sign, left, right))
            self.assertIs(type(combine(sign, left, right)), int)
            numbers = (sign, ("number", left), ("number", right))
            self.assertEqual(value_of(numbers, {}, {}), worth)
            self.assertEqual(value_of((sign, X, Y), {"x": left, "y": right}, {}), worth)

    def test_operators_over_many_values(self):
        values = [0, 1, 2, 3, 5, 255, 256, 257, 1000, 32767, 32768, 65534, 65535]
        for a, b in itertools.product(values, values):
            self.assertEqual(combine("+", a, b), (a + b) % 65536)
            self.assertEqual(combine("*", a, b), (a * b) % 65536)
            self.assertEqual(combine("-", a, b), a - b if a >= b else 0)
            self.assertEqual(combine("/", a, b), a // b if b else 0)
            self.assertEqual(combine("mod", a, b), a % b if b else 0)
            self.assertEqual(combine("<", a, b), int(a < b))
            self.assertEqual(combine("=", a, b), int(a == b))

    def test_numbers_and_names(self):
        for number in (0, 1, 65535):
            self.assertEqual(value_of(("number", number), {}, {}), number)
            self.assertEqual(value_of(Y, {"x": 3, "y": number}, {}), number)

    def test_example(self):
        self.assertEqual(value_of(("-", X, ("number", 7)), {"x": 5}, {}), 0)

    def test_parts_stay_in_order(self):
        self.assertEqual(value_of(("-", ("+", X, Y), ("*", X, Y)), {"x": 1, "y": 4}, {}), 1)
        self.assertEqual(value_of(("/", X, ("mod", Y, ("number", 3))), {"x": 9, "y": 5}, {}), 4)

    def test_pick(self):
        pick = ("pick", "o", X, ("pick", "p", Y, ("number", 9)))
        table = {"x": 3, "y": 5}
        self.assertEqual(value_of(pick, table, {"o": True, "p": False}), 3)
        self.assertEqual(value_of(pick, table, {"o": True, "p": True}), 3)
        self.assertEqual(value_of(pick, table, {"o": False, "p": True}), 5)
        self.assertEqual(value_of(pick, table, {"o": False, "p": False}), 9)

    def test_view(self):
        seen = (7, 0, 65535)
        for index, number in ((0, 7), (1, 0), (2, 65535), (3, 0), (4, 0), (65535, 0)):
            self.assertEqual(value_of(("view", ("number", index)), {}, {}, seen), number)
            self.assertEqual(value_of(("view", X), {"x": index}, {}, seen=seen), number)
        self.assertEqual(value_of(("view", ZERO), {}, {}), 0)
        self.assertEqual(value_of(("view", ZERO), {}, {}, ()), 0)
        self.assertEqual(value_of(("view", ("view", ("view", ZERO))), {}, {}, (2, 9, 1)), 9)

    def test_long(self):
        self.assertEqual(value_of(("long",), {}, {}), 0)
        for count in (0, 1, 3, 65534, 65535, 65536, 70000):
            self.assertEqual(value_of(("long",), {}, {}, (1,) * count), min(count, 65535))
        self.assertEqual(value_of(("view", ("long",)), {}, {}, (5, 6)), 0)
        self.assertEqual(value_of(("view", ("-", ("long",), ("number", 1))), {}, {}, (5, 6)), 6)
        self.assertEqual(value_of(("view", ("long",)), {}, {}, (1,) * 65535 + (4,)), 4)

    def test_options_and_seen_together(self):
        both = ("pick", "o", ("view", X), ("+", ("long",), X))
        self.assertEqual(value_of(both, {"x": 1}, {"o": True}, (8, 9)), 9)
        self.assertEqual(value_of(both, {"x": 1}, {"o": False}, (8, 9)), 3)
        self.assertEqual(value_of(("+", ("pick", "o", X, Y), ("view", ("long",))), {"x": 4, "y": 5}, {"o": False}), 5)

    def test_dicts_stay(self):
        table, on = {"x": 1, "y": 2}, {"o": True, "p": False}
        for expression in expressions(3):
            value_of(expression, table, on, (3, 4))
        self.assertEqual(table, {"x": 1, "y": 2})
        self.assertEqual(on, {"o": True, "p": False})


if __name__ == "__main__":
    unittest.main()
