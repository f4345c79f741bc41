"""Code for the stack machine, made from expressions, rounds and brains."""

from sureplay.expression import OPERATORS


def expression_code(expression, slots, on):
    """The code that pushes the value of an expression; `slots` are the names of the places of the table."""
    kind = expression[0]
    if kind == "number":
        return [("push", expression[1])]
    if kind == "variable":
        return [("load", slots.index(expression[1]))]
    if kind == "long":
        return [("long", 0)]
    if kind == "view":
        return [*expression_code(expression[1], slots, on), ("view", 0)]
    if kind == "pick":
        return expression_code(expression[2] if on[expression[1]] else expression[3], slots, on)
    left = expression_code(expression[1], slots, on)
    right = expression_code(expression[2], slots, on)
    return [*left, *right, ("sign", OPERATORS.index(kind))]


def round_code(block, slots, on):
    """The code of a round with this block."""
    return [*Coder(slots, on).block_code(block), ("end", 0)]


def brain_code(block, answer, slots):
    """The code of a brain with this block and this answer."""
    return [*BrainCoder(slots, {}).block_code(block), *expression_code(answer, slots, {}), ("end", 0)]


class Coder:
    """Makes the code of blocks of rounds, for these places of the table and these options."""

    def __init__(self, slots, on):
        self._slots = slots
        self._on = on

    def block_code(self, block):
        """The codes of the statements of a block, one after the other."""
        code = []
        for statement in block:
            code.extend(self._statement_code(statement))
        return code

    def _statement_code(self, statement):
        kind = statement[0]
        if kind == "set":
            return [*self._value_code(statement[2]), self._store(statement[1])]
        if kind == "draw":
            return [("push", statement[2]), ("lot", 0), self._store(statement[1])]
        if kind == "move":
            return [("ask", statement[4]), self._store(statement[2])]
        if kind == "if":
            return self._branches_code(statement)
        if kind == "when":
            return self.block_code(statement[2] if self._on[statement[1]] else statement[3])
        if kind == "show":
            return [*self._value_code(statement[2]), ("show", statement[1])]
        return [*self._value_code(statement[1]), (kind, 0)]

    def _branches_code(self, statement):
        """The code of an if. What counts is whether the code behind `else` is empty, which a when can make it."""
        test = self._value_code(statement[1])
        then = self.block_code(statement[2])
        other = self.block_code(statement[3])
        if not other:
            return [*test, ("skip", len(then)), *then]
        return [*test, ("skip", len(then) + 1), *then, ("jump", len(other)), *other]

    def _value_code(self, expression):
        return expression_code(expression, self._slots, self._on)

    def _store(self, name):
        return ("store", self._slots.index(name))


class BrainCoder(Coder):
    """Makes the code of blocks of brains; a Coder knows the statements that brains share with rounds."""

    def _statement_code(self, statement):
        kind = statement[0]
        if kind == "set":
            rest = [*self._value_code(statement[2]), self._store(statement[1])]
        elif kind == "lot":
            rest = [*self._value_code(statement[2]), ("lot", 0), self._store(statement[1])]
        elif kind == "if":
            rest = self._branches_code(statement)
        else:
            test = self._value_code(statement[1])
            body = self.block_code(statement[2])
            rest = [*test, ("skip", len(body) + 1), *body, ("back", len(test) + len(body) + 2)]
        return [("unit", 0), *rest]
