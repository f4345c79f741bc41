"""Folding: points 19, 20, 95 and 96."""

import random
import unittest

from sureplay.code import round_code
from sureplay.expression import combine, read_expression, value_of
from sureplay.fold import fold_block, fold_expression
from sureplay.gametext import Game, game_text, read_game
from sureplay.statement import block_words
from sureplay.table import play
from sureplay.words import Cursor
from tests.boards import random_brain, random_game

X, Y, LONG = ("variable", "x"), ("variable", "y"), ("long",)

ZERO, ONE, TWO = ("number", 0), ("number", 1), ("number", 2)

SIGNS = ("+", "-", "*", "/", "mod", "<", "=")

ON = {"o": True, "p": False}


def expression(text):
    return read_expression(Cursor(text.split(), options=("o", "p"), variables=("x", "y"), sees=True))


def random_expression(choose, room):
    """An expression in which everything may stand, most of it small numbers, so that many rules apply."""
    if room == 1 or choose.random() < 0.2:
        return choose.choice([ZERO, ZERO, ONE, ONE, TWO, ("number", 65535), X, X, Y, LONG])
    kind = choose.choice(SIGNS * 3 + ("pick", "view"))
    left = random_expression(choose, room - 1)
    right = left if choose.random() < 0.2 else random_expression(choose, room - 1)
    if kind == "view":
        return ("view", left)
    return ("pick", choose.choice(["o", "p"]), left, right) if kind == "pick" else (kind, left, right)


# The rules of point 95 in their order: what two folded parts with a sign become, or None.
RULES = (
    lambda sign, a, b: ("number", combine(sign, a[1], b[1])) if a[0] == b[0] == "number" else None,
    lambda sign, a, b: {"-": ZERO, "mod": ZERO, "<": ZERO, "=": ONE}.get(sign) if a == b else None,
    lambda sign, a, b: ZERO if a == ZERO and sign in ("-", "*", "/", "mod") else None,
    lambda sign, a, b: ZERO if b == ZERO and sign in ("*", "/", "mod", "<") else None,
    lambda sign, a, b: ZERO if b == ONE and sign == "mod" else None,
    lambda sign, a, b: b if a == ZERO and sign == "+" else None,
    lambda sign, a, b: b if a == ONE and sign == "*" else None,
    lambda sign, a, b: a if b == ZERO and sign in ("+", "-") else None,
    lambda sign, a, b: a if b == ONE and sign in ("*", "/") else None,
)


def slow_fold(data, on):
    if data[0] in SIGNS:
        parts = (data[0], slow_fold(data[1], on), slow_fold(data[2], on))
        return next((found for found in (rule(*parts) for rule in RULES) if found is not None), parts)
    if data[0] == "pick":
        return slow_fold(data[2 if on[data[1]] else 3], on)
    return ("view", slow_fold(data[1], on)) if data[0] == "view" else data


def slow_fold_block(block, on):
    found = []
    for statement in block:
        kind = statement[0]
        if kind == "when":
            found += slow_fold_block(statement[2 if on[statement[1]] else 3], on)
        elif kind == "if":
            test, one, two = slow_fold(statement[1], on), *[slow_fold_block(part, on) for part in statement[2:]]
            if test[0] == "number":
                found += two if test[1] == 0 else one
            elif one == two:
                found += one
            else:
                found.append(("if", test, tuple(one), tuple(two)))
        elif kind in ("draw", "move"):
            found.append(statement)
        else:
            folded = (*statement[:-1], slow_fold(statement[-1], on))
            if folded not in (("pay", ZERO), ("take", ZERO)) and not (kind == "set" and folded[2] == ("variable", folded[1])):
                found.append(folded)
    return found


class ExpressionTest(unittest.TestCase):

    def check(self, text, told, on=None):
        data = expression(text)
        found = fold_expression(data, ON if on is None else on)
        self.assertEqual(found, expression(told), text)
        self.assertEqual(fold_expression(found, ON), found)
        self.assertEqual(data, expression(text))

    def stays(self, *texts):
        for text in texts:
            self.check(text, text)

    def test_example(self):
        self.assertEqual(fold_expression(("+", ZERO, ("*", X, ONE)), {}), X)

    def test_depth_one(self):
        self.stays("0", "65535", "x", "long")

    def test_numbers(self):
        for text, told in (("+ 65535 3", "2"), ("- 3 5", "0"), ("- 5 3", "2"), ("* 256 256", "0"), ("/ 7 2", "3"),
                           ("/ 7 0", "0"), ("mod 7 4", "3"), ("mod 7 0", "0"), ("< 2 3", "1"), ("< 3 2", "0"),
                           ("= 4 4", "1"), ("= 4 5", "0"), ("+ * 2 3 - 9 4", "11")):
            self.check(text, told)
        for sign in SIGNS:
            for a in (0, 1, 2, 7, 65535):
                for b in (0, 1, 2, 7, 65535):
                    self.check(f"{sign} {a} {b}", str(combine(sign, a, b)))

    def test_equal_parts(self):
        for part in ("x", "long", "view x", "+ x y", "view - long 2"):
            for sign, told in (("-", "0"), ("mod", "0"), ("<", "0"), ("=", "1")):
                self.check(f"{sign} {part} {part}", told)
            self.stays(f"+ {part} {part}", f"* {part} {part}", f"/ {part} {part}")
        self.stays("- x y", "= x y", "< + x y + y x", "= view x view y")

    def test_equal_parts_after_folding(self):
        self.check("= + x 0 * 1 x", "1")
        self.check("- pick o x y pick p y x", "0")
        self.check("< - x x - y y", "0")

    def test_equal_parts_that_are_long(self):
        deep = "+ x * y " * 5 + "x"
        self.check(f"= {deep} {deep}", "1")
        self.check(f"- {deep} {deep}", "0")
        other = deep[:-1] + "y"
        self.stays(f"= {deep} {other}", f"- {deep} {other}")
        wide = X
        for _ in range(10):
            wide = ("*", wide, wide)
        self.assertEqual(fold_expression(("mod", wide, wide), {}), ZERO)
        self.assertEqual(fold_expression(("/", wide, wide), {}), ("/", wide, wide))

    def test_zero_on_the_left(self):
        for sign in ("-", "*", "/", "mod"):
            self.check(f"{sign} 0 x", "0")
            self.check(f"{sign} - y y view x", "0")
        self.check("+ 0 x", "x")
        self.stays("< 0 x", "= 0 x")

    def test_zero_on_the_right(self):
        for sign in ("*", "/", "mod", "<"):
            self.check(f"{sign} x 0", "0")
            self.check(f"{sign} + x y - 3 4", "0")
        self.check("+ x 0", "x")
        self.check("- x 0", "x")
        self.stays("= x 0")

    def test_one(self):
        self.check("mod x 1", "0")
        self.check("* 1 x", "x")
        self.check("* x 1", "x")
        self.check("/ x 1", "x")
        self.stays("+ x 1", "+ 1 x", "- x 1", "- 1 x", "/ 1 x", "mod 1 x", "< x 1", "< 1 x", "= x 1", "= 1 x")

    def test_other_numbers(self):
        for sign in SIGNS:
            self.stays(f"{sign} x 2", f"{sign} 2 x", f"{sign} 65535 long", f"{sign} view 0 65535")

    def test_first_rule_that_applies(self):
        # Both are numbers, equal, and zero: only what the numbers make counts.
        self.check("+ 0 0", "0")
        self.check("= 0 0", "1")
        self.check("/ 1 1", "1")
        self.check("mod 1 1", "0")
        # A rule is used once, on folded parts.
        self.check("+ 0 + 0 x", "x")
        self.check("* 1 * x 1", "x")
        self.check("- - x 0 0", "x")
        self.check("+ 0 * 1 0", "0")
        self.check("* 0 / x 1", "0")
        self.check("mod - x 0 1", "0")

    def test_nested(self):
        self.check("+ * x 1 * 0 y", "x")
        self.check("view + 0 view * long 1", "view view long")
        self.check("- view + 1 2 view 3", "0")
        self.check("+ y + 1 + 2 3", "+ y 6")

    def test_pick(self):
        self.check("pick o + 0 x y", "x")
        self.check("pick p x * 1 y", "y")
        self.check("pick o pick p 1 long x", "long")
        self.check("+ pick o 0 1 x", "x")
        self.check("+ pick o 0 1 x", "+ 1 x", on={"o": False, "p": False})
        self.check("= pick o x y x", "1")
        self.check("= pick o x y x", "= y x", on={"o": False, "p": False})
        self.check("view pick p 1 x", "view x")

    def test_random(self):
        choose = random.Random(4)
        seen = (1, 0, 0, 2, 65535, 0, 3, 1, 2)
        changed = 0
        for _ in range(3000):
            data = random_expression(choose, choose.randint(2, 6))
            on = {"o": choose.random() < 0.5, "p": choose.random() < 0.5}
            found = fold_expression(data, on)
            self.assertEqual(found, slow_fold(data, on))
            self.assertEqual(fold_expression(found, {}), found)
            changed += found != data
            for _ in range(5):
                table = {name: choose.choice([0, 1, 2, 3, 8, 65535]) for name in ("x", "y")}
                self.assertEqual(value_of(found, table, on, seen), value_of(data, table, on, seen))
        self.assertGreater(changed, 1000)


class BlockTest(unittest.TestCase):

    HEAD = "option o on option p off var x 4 var y 9 round r "

    def block(self, words):
        return read_game(f"{self.HEAD}{words} end".replace("  ", " ")).rounds[0][1]

    def check(self, words, told, on=None):
        block = self.block(words)
        found = fold_block(block, ON if on is None else on)
        self.assertIs(type(found), tuple)
        self.assertEqual(" ".join(block_words(found)), told)
        self.assertEqual(fold_block(found, ON if on is None else on), found)
        self.assertEqual(block, self.block(words))

    def test_nothing(self):
        self.check("", "")
        self.assertEqual(fold_block([], {}), ())

    def test_expressions(self):
        self.check("set x + y 0 pay * 1 x take pick p x y show first - x x show both + 2 2 show second x",
                   "set x y pay x take y show first 0 show both 4 show second x")

    def test_set(self):
        self.check("set x x", "")
        self.check("set x + 0 x", "")
        self.check("set x pick o x y set y pick o x y", "set y x")
        self.check("set x y set y 0", "set x y set y 0")

    def test_pay_and_take(self):
        self.check("pay 0 take 0 pay - x x take mod y 1 pay x take 1", "pay x take 1")
        self.check("show both 0", "show both 0")

    def test_when(self):
        self.check("when o pay 1 pay 2 else take 1 end", "pay 1 pay 2")
        self.check("when p pay 1 pay 2 else take 1 end", "take 1")
        self.check("when p pay 1 end", "")
        self.check("when o end set y 1", "set y 1")
        self.check("when o pay 0 set x x end", "")
        self.check("pay 1 when o when p pay 2 else pay 3 pay 4 end pay 5 end pay 6", "pay 1 pay 3 pay 4 pay 5 pay 6")
        self.check("when o pay 1 else take 1 end", "take 1", on={"o": False, "p": True})

    def test_if_with_a_number(self):
        self.check("if 1 pay 1 pay 2 else take 1 end", "pay 1 pay 2")
        self.check("if 65535 pay 1 pay 2 else take 1 end", "pay 1 pay 2")
        self.check("if 0 pay 1 else take 1 take 2 end", "take 1 take 2")
        self.check("if - x x pay 1 end pay 3", "pay 3")
        self.check("if = y y if 0 pay 1 else pay 2 end draw x 3 end", "pay 2 draw x 3")
        self.check("if pick p 1 0 pay 1 else set x x end", "")

    def test_if_with_equal_blocks(self):
        self.check("if x pay 1 take y else pay 1 take y end", "pay 1 take y")
        self.check("if x end", "")
        self.check("if x pay 0 else set y y end", "")
        self.check("if x pay + 0 y else when o pay y end end", "pay y")
        self.check("if x if y pay 1 else pay 1 end else pay * 1 1 end", "pay 1")
        self.check("if x pay 1 pay 2 else pay 2 pay 1 end", "if x pay 1 pay 2 else pay 2 pay 1 end")

    def test_if_that_stays(self):
        self.check("if + x 0 pay 1 else pay 0 end", "if x pay 1 end")
        self.check("if x pay 0 else pay + 1 1 end", "if x else pay 2 end")
        self.check("if x when o pay 1 pay 2 end else when o end end", "if x pay 1 pay 2 end")
        self.check("if x draw x 2 else draw x 2 end", "draw x 2")
        self.check("if x draw x 2 else draw x 3 end", "if x draw x 2 else draw x 3 end")

    def test_moves_keep_their_numbers(self):
        block = self.block("when p first x 2 else second x 3 end if x first y 4 end if 0 first x 2 end second x 5")
        self.assertEqual(fold_block(block, ON), (
            ("move", 2, "x", 3, 1), ("if", X, (("move", 1, "y", 4, 2),), ()), ("move", 2, "x", 5, 4)))
        # Two moves are never equal, because their numbers differ.
        block = self.block("if x first x 2 else first x 2 end")
        self.assertEqual(fold_block(block, ON), block)

    def test_draws_and_moves_stay(self):
        self.check("draw x 1 first y 1 second x 2", "draw x 1 first y 1 second x 2")

    def test_random(self):
        changed = 0
        for seed in range(400):
            game = random_game(seed)
            on = dict(game.options)
            rounds = []
            for name, block in game.rounds:
                found = fold_block(block, on)
                self.assertEqual(list(found), slow_fold_block(block, on))
                self.assertEqual(fold_block(found, on), found)
                changed += found != block
                rounds.append((name, found))
                names = tuple(name for name, _ in game.variables)
                self.assertLessEqual(len(round_code(found, names, on)), len(round_code(block, names, on)))
            folded = Game(game.options, game.variables, rounds)
            read_game(game_text(folded))
            first, second = random_brain(seed), random_brain(seed + 1)
            for results in ([], [1, 2, 3, 4, 5, 6], [7, 0, 1]):
                self.assertTrue(play(folded, first, second, results) == play(game, first, second, results))
        self.assertGreater(changed, 200)


if __name__ == "__main__":
    unittest.main()
