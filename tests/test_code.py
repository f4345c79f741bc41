"""Codes of expressions, rounds and brains: points 85 and 87."""

import unittest

from sureplay.brain import read_brain
from sureplay.code import brain_code, expression_code, round_code
from sureplay.gametext import read_game
from tests.boards import random_brain, random_game

X, Y, ONE, TWO = ("variable", "x"), ("variable", "y"), ("number", 1), ("number", 2)

SLOTS = ("x", "y")

OPERATORS = ("+", "-", "*", "/", "mod", "<", "=")


def expression(text, head="option o on option p off var x 4 var y 9"):
    return read_game(f"{head} round r pay {text} end").rounds[0][1][0][1]


class Labels:
    """A second way to make codes: first with names for places, which then become arguments."""

    def __init__(self, slots, on):
        self._slots = list(slots)
        self._on = on
        self._lines = []
        self._places = {}
        self._fresh = 0

    def label(self):
        self._fresh += 1
        return f"label {self._fresh}"

    def put(self, label):
        self._places[label] = len(self._lines)

    def add(self, name, argument=0):
        self._lines.append((name, argument))

    def code(self):
        found = []
        for place, (name, argument) in enumerate(self._lines):
            if name in ("jump", "skip"):
                argument = self._places[argument] - place - 1
            elif name == "back":
                argument = place - self._places[argument]
            found.append((name, argument))
        return found

    def expression(self, data):
        kind, *parts = data
        if kind == "number":
            self.add("push", parts[0])
        elif kind == "variable":
            self.add("load", self._slots.index(parts[0]))
        elif kind == "long":
            self.add("long")
        elif kind == "pick":
            self.expression(parts[1] if self._on[parts[0]] else parts[2])
        else:
            for part in parts:
                self.expression(part)
            self.add(*(("view", 0) if kind == "view" else ("sign", OPERATORS.index(kind))))

    def block(self, block, thinking):
        for statement in block:
            kind, *parts = statement
            begin = self.label()
            self.put(begin)
            if thinking:
                self.add("unit")
            if kind in ("set", "lot"):
                self.expression(parts[1])
                if kind == "lot":
                    self.add("lot")
                self.add("store", self._slots.index(parts[0]))
            elif kind == "draw":
                self.add("push", parts[1])
                self.add("lot")
                self.add("store", self._slots.index(parts[0]))
            elif kind == "move":
                self.add("ask", parts[3])
                self.add("store", self._slots.index(parts[1]))
            elif kind == "when":
                self.block(parts[1] if self._on[parts[0]] else parts[2], thinking)
            elif kind == "if":
                self.branches(parts, thinking)
            elif kind == "while":
                end = self.label()
                self.expression(parts[0])
                self.add("skip", end)
                self.block(parts[1], thinking)
                self.add("back", begin)
                self.put(end)
            else:
                self.expression(parts[-1])
                self.add(kind, parts[0] if kind == "show" else 0)

    def branches(self, parts, thinking):
        other, end = self.label(), self.label()
        self.expression(parts[0])
        self.add("skip", other)
        self.block(parts[1], thinking)
        self.put(end)
        lines = len(self._lines)
        self.add("jump", end)
        self.put(other)
        self.block(parts[2], thinking)
        if len(self._lines) == lines + 1:
            # The code behind `else` is empty, so that the jump is left out.
            self._lines.pop()
            self._places[other] = lines
        else:
            self.put(end)


def slow_round_code(block, slots, on):
    labels = Labels(slots, on)
    labels.block(block, False)
    labels.add("end")
    return labels.code()


def slow_brain_code(block, answer, slots):
    labels = Labels(slots, {})
    labels.block(block, True)
    labels.expression(answer)
    labels.add("end")
    return labels.code()


class ExpressionTest(unittest.TestCase):

    def check(self, data, told, on=None):
        found = expression_code(data, SLOTS, {"o": True, "p": False} if on is None else on)
        self.assertEqual(found, told)
        self.assertIs(type(found), list)
        self.assertTrue(all(type(pair) is tuple for pair in found))

    def test_depth_one(self):
        self.check(("number", 65535), [("push", 65535)])
        self.check(("number", 0), [("push", 0)])
        self.check(X, [("load", 0)])
        self.check(Y, [("load", 1)])
        self.check(("long",), [("long", 0)])

    def test_view(self):
        self.check(("view", X), [("load", 0), ("view", 0)])
        self.check(("view", ("view", ("+", Y, ("long",)))),
                   [("load", 1), ("long", 0), ("sign", 0), ("view", 0), ("view", 0)])

    def test_operators(self):
        for number, sign in enumerate(OPERATORS):
            self.check((sign, Y, TWO), [("load", 1), ("push", 2), ("sign", number)])

    def test_order_of_the_parts(self):
        self.check(expression("- + 1 2 * x 4"), [("push", 1), ("push", 2), ("sign", 0), ("load", 0), ("push", 4),
                                                 ("sign", 2), ("sign", 1)])
        self.check(expression("mod x / y = 1 2"), [("load", 0), ("load", 1), ("push", 1), ("push", 2), ("sign", 6),
                                                   ("sign", 3), ("sign", 4)])

    def test_pick(self):
        data = expression("pick o + x 1 y")
        self.check(data, [("load", 0), ("push", 1), ("sign", 0)])
        self.check(data, [("load", 1)], on={"o": False, "p": True})
        data = expression("* 2 pick p x pick o 7 8")
        self.check(data, [("push", 2), ("push", 7), ("sign", 2)])
        self.check(data, [("push", 2), ("load", 0), ("sign", 2)], on={"o": True, "p": True})
        self.check(data, [("push", 2), ("push", 8), ("sign", 2)], on={"o": False, "p": False})

    def test_everything_together(self):
        self.check(("pick", "p", X, ("view", ("pick", "o", ("long",), Y))), [("long", 0), ("view", 0)])

    def test_nothing_is_made_simpler(self):
        self.check(("+", ("number", 0), ("number", 0)), [("push", 0), ("push", 0), ("sign", 0)])


class RoundTest(unittest.TestCase):

    ON = {"o": True, "p": False}

    def check(self, words, *told, on=None):
        block = read_game(f"option o on option p off var x 4 var y 9 round r {words} end".replace("  ", " ")).rounds[0][1]
        found = round_code(block, SLOTS, self.ON if on is None else on)
        self.assertEqual(found, [*told, ("end", 0)])
        self.assertIs(type(found), list)
        self.assertTrue(all(type(pair) is tuple for pair in found))

    def test_example(self):
        self.assertEqual(round_code((("if", X, (("pay", TWO),), ()),), ("x",), {}),
                         [("load", 0), ("skip", 2), ("push", 2), ("pay", 0), ("end", 0)])

    def test_each_statement(self):
        self.check("")
        self.check("set y + x 1", ("load", 0), ("push", 1), ("sign", 0), ("store", 1))
        self.check("draw x 64", ("push", 64), ("lot", 0), ("store", 0))
        self.check("first y 8", ("ask", 0), ("store", 1))
        self.check("second x 3 first y 2", ("ask", 0), ("store", 0), ("ask", 1), ("store", 1))
        self.check("show both 7", ("push", 7), ("show", 0))
        self.check("show first x", ("load", 0), ("show", 1))
        self.check("show second y", ("load", 1), ("show", 2))
        self.check("pay x", ("load", 0), ("pay", 0))
        self.check("take pick p x 9", ("push", 9), ("take", 0))

    def test_order_of_statements(self):
        self.check("pay 1 take 2 set x 3", ("push", 1), ("pay", 0), ("push", 2), ("take", 0), ("push", 3), ("store", 0))

    def test_if_without_else(self):
        self.check("if x pay 1 end", ("load", 0), ("skip", 2), ("push", 1), ("pay", 0))
        self.check("if < x y end", ("load", 0), ("load", 1), ("sign", 5), ("skip", 0))
        self.check("if x when p pay 1 end end", ("load", 0), ("skip", 0))

    def test_if_with_else(self):
        self.check("if x pay 1 else take 2 take y end", ("load", 0), ("skip", 3), ("push", 1), ("pay", 0), ("jump", 4),
                   ("push", 2), ("take", 0), ("load", 1), ("take", 0))
        self.check("if x else pay 2 end", ("load", 0), ("skip", 1), ("jump", 2), ("push", 2), ("pay", 0))

    def test_else_with_empty_code(self):
        self.check("if x pay 1 else when p pay 3 end end", ("load", 0), ("skip", 2), ("push", 1), ("pay", 0))
        self.check("if x else when o else pay 3 end end", ("load", 0), ("skip", 0))
        self.check("if x when p pay 1 end else pay 2 end", ("load", 0), ("skip", 1), ("jump", 2), ("push", 2),
                   ("pay", 0))

    def test_when(self):
        self.check("when o pay 1 else pay 2 end", ("push", 1), ("pay", 0))
        self.check("when p pay 1 else pay 2 end", ("push", 2), ("pay", 0))
        self.check("when p pay 1 end pay 3", ("push", 3), ("pay", 0))
        self.check("when o else pay 1 end")
        self.check("when o end")
        self.check("when o when p pay 1 else when o pay 4 pay 5 end end end", ("push", 4), ("pay", 0), ("push", 5),
                   ("pay", 0))
        self.check("when p pay 1 else pay 2 end when o pay 3 end", ("push", 1), ("pay", 0),
                   on={"o": False, "p": True})

    def test_nested_ifs(self):
        self.check("if x if y pay 1 end else if 3 pay 4 else pay 5 end end",
                   ("load", 0), ("skip", 5), ("load", 1), ("skip", 2), ("push", 1), ("pay", 0), ("jump", 7),
                   ("push", 3), ("skip", 3), ("push", 4), ("pay", 0), ("jump", 2), ("push", 5), ("pay", 0))

    def test_numbers_of_moves_are_those_of_the_data(self):
        block = (("move", 2, "y", 3, 17), ("if", X, (("move", 1, "x", 3, 4),), ()))
        self.assertEqual(round_code(block, SLOTS, {}), [("ask", 17), ("store", 1), ("load", 0), ("skip", 2), ("ask", 4),
                                                        ("store", 0), ("end", 0)])

    def test_slots(self):
        block = (("set", "b", ("variable", "c")), ("draw", "a", 2))
        self.assertEqual(round_code(block, ("c", "a", "b"), {}), [("load", 0), ("store", 2), ("push", 2), ("lot", 0),
                                                                  ("store", 1), ("end", 0)])

    def test_same_as_the_second_way(self):
        for seed in range(400):
            game = random_game(seed)
            slots, on = tuple(name for name, _ in game.variables), dict(game.options)
            for _, block in game.rounds:
                self.assertEqual(round_code(block, slots, on), slow_round_code(block, slots, on))


class BrainTest(unittest.TestCase):

    def check(self, words, *told):
        brain = read_brain(f"player 9 keep x 4 keep y 0 {words}")
        found = brain_code(brain.block, brain.answer, SLOTS)
        self.assertEqual(found, [*told, ("end", 0)])
        self.assertIs(type(found), list)
        self.assertTrue(all(type(pair) is tuple for pair in found))

    def test_answer(self):
        self.check("answer 3", ("push", 3))
        self.check("answer view + long y", ("long", 0), ("load", 1), ("sign", 0), ("view", 0))

    def test_set_and_lot(self):
        self.check("set y x answer y", ("unit", 0), ("load", 0), ("store", 1), ("load", 1))
        self.check("lot x 3 lot y long answer 0", ("unit", 0), ("push", 3), ("lot", 0), ("store", 0), ("unit", 0),
                   ("long", 0), ("lot", 0), ("store", 1), ("push", 0))

    def test_if(self):
        self.check("if x end answer 0", ("unit", 0), ("load", 0), ("skip", 0), ("push", 0))
        self.check("if x set y 1 end answer 0", ("unit", 0), ("load", 0), ("skip", 3), ("unit", 0), ("push", 1),
                   ("store", 1), ("push", 0))
        self.check("if x set y 1 else if y end end answer 0", ("unit", 0), ("load", 0), ("skip", 4), ("unit", 0),
                   ("push", 1), ("store", 1), ("jump", 3), ("unit", 0), ("load", 1), ("skip", 0), ("push", 0))
        self.check("if x else set y 1 end answer 0", ("unit", 0), ("load", 0), ("skip", 1), ("jump", 3), ("unit", 0),
                   ("push", 1), ("store", 1), ("push", 0))

    def test_while(self):
        self.check("while x end answer 0", ("unit", 0), ("load", 0), ("skip", 1), ("back", 3), ("push", 0))
        self.check("while < x 3 set x 1 end answer 0", ("unit", 0), ("load", 0), ("push", 3), ("sign", 5), ("skip", 4),
                   ("unit", 0), ("push", 1), ("store", 0), ("back", 8), ("push", 0))

    def test_nested(self):
        self.check("while x while y end if 1 set x 2 end end answer x",
                   ("unit", 0), ("load", 0), ("skip", 11),
                   ("unit", 0), ("load", 1), ("skip", 1), ("back", 3),
                   ("unit", 0), ("push", 1), ("skip", 3), ("unit", 0), ("push", 2), ("store", 0),
                   ("back", 13), ("load", 0))

    def test_back_leads_to_the_unit_of_its_while(self):
        for seed in range(200):
            brain = random_brain(seed)
            code = brain_code(brain.block, brain.answer, tuple(name for name, _ in brain.cells))
            for place, (name, argument) in enumerate(code):
                if name == "back":
                    self.assertEqual(code[place - argument], ("unit", 0))

    def test_same_as_the_second_way(self):
        for seed in range(500):
            brain = random_brain(seed)
            slots = tuple(name for name, _ in brain.cells)
            found = brain_code(brain.block, brain.answer, slots)
            self.assertEqual(found, slow_brain_code(brain.block, brain.answer, slots))


class CopyTest(unittest.TestCase):

    def test_new_list_each_time(self):
        block = (("pay", ONE),)
        for make in (lambda: round_code(block, (), {}), lambda: expression_code(ONE, (), {}),
                     lambda: brain_code((), ONE, ())):
            code = make()
            code.append("more")
            self.assertNotEqual(make(), code)


if __name__ == "__main__":
    unittest.main()
