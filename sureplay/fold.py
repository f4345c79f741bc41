"""Folding: expressions and blocks that do the same with less."""

from sureplay.expression import combine

ZERO = ("number", 0)

ONE = ("number", 1)


def fold_expression(expression, on):
    """The folded expression; `on` tells which options are on."""
    kind = expression[0]
    if kind in ("number", "variable", "long"):
        return expression
    if kind == "pick":
        return fold_expression(expression[2] if on[expression[1]] else expression[3], on)
    if kind == "view":
        return ("view", fold_expression(expression[1], on))
    return _fold_operator(kind, fold_expression(expression[1], on), fold_expression(expression[2], on))


def _fold_operator(sign, left, right):
    """What an operator with two folded parts becomes. The order of the rules matters."""
    if left[0] == "number" and right[0] == "number":
        return ("number", combine(sign, left[1], right[1]))
    if left == right and sign in ("-", "mod", "<", "="):
        return ONE if sign == "=" else ZERO
    if _is_zero(sign, left, right):
        return ZERO
    if (sign == "+" and left == ZERO) or (sign == "*" and left == ONE):
        return right
    if (sign in ("+", "-") and right == ZERO) or (sign in ("*", "/") and right == ONE):
        return left
    return (sign, left, right)


def _is_zero(sign, left, right):
    """True if one part alone makes the value 0."""
    if left == ZERO and sign in ("-", "*", "/", "mod"):
        return True
    if right == ZERO and sign in ("*", "/", "mod", "<"):
        return True
    return right == ONE and sign == "mod"


def fold_block(block, on):
    """The folded block of a round; `on` tells which options are on."""
    folded = []
    for statement in block:
        folded.extend(_fold_statement(statement, on))
    return tuple(folded)


def _fold_statement(statement, on):
    """The statements that a statement of a round becomes, a tuple."""
    kind = statement[0]
    if kind == "if":
        return _fold_if(statement, on)
    if kind == "when":
        return fold_block(statement[2] if on[statement[1]] else statement[3], on)
    if kind == "set":
        value = fold_expression(statement[2], on)
        return () if value == ("variable", statement[1]) else (("set", statement[1], value),)
    if kind == "show":
        return (("show", statement[1], fold_expression(statement[2], on)),)
    if kind in ("pay", "take"):
        value = fold_expression(statement[1], on)
        return () if value == ZERO else ((kind, value),)
    return (statement,)


def _fold_if(statement, on):
    test = fold_expression(statement[1], on)
    then = fold_block(statement[2], on)
    other = fold_block(statement[3], on)
    if test == ZERO:
        return other
    if test[0] == "number" or then == other:
        return then
    return (("if", test, then, other),)
