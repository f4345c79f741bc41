"""Expressions: read from words, written as words, and evaluated."""

from sureplay.words import GREATEST_NUMBER

OPERATORS = ("+", "-", "*", "/", "mod", "<", "=")

MODULUS = 65536


def read_expression(cursor, *, room=12):
    """Reads the expression of depth at most `room` at the place of a Cursor."""
    word = cursor.word
    if word in cursor.variables:
        return ("variable", cursor.take_name(cursor.variables))
    if word in _openings(cursor, room):
        cursor.take_word(word)
        return _read_parts(cursor, word, room - 1)
    return ("number", cursor.take_number(0, GREATEST_NUMBER))


def _openings(cursor, room):
    """The words that may begin an expression here, apart from numbers and variables."""
    words = []
    if cursor.sees:
        words.append("long")
    # An expression of depth 1 has no parts, so only deeper ones may begin with these words.
    if room > 1:
        words.extend(OPERATORS)
        if cursor.options:
            words.append("pick")
        if cursor.sees:
            words.append("view")
    return words


def _read_parts(cursor, word, room):
    """Reads what follows the first word of an expression, parts of depth at most `room`."""
    if word == "long":
        return ("long",)
    if word == "view":
        return ("view", read_expression(cursor, room=room))
    option = cursor.take_name(cursor.options) if word == "pick" else None
    left = read_expression(cursor, room=room)
    right = read_expression(cursor, room=room)
    return (word, left, right) if option is None else (word, option, left, right)


def expression_words(expression):
    """The list of the words that write the expression."""
    kind = expression[0]
    if kind == "number":
        return [str(expression[1])]
    if kind == "variable":
        return [expression[1]]
    words = [kind]
    parts = expression[1:]
    if kind == "pick":
        words.append(expression[1])
        parts = expression[2:]
    for part in parts:
        words.extend(expression_words(part))
    return words


def combine(sign, left, right):
    """The value of an operator on two values."""
    if sign == "+":
        return (left + right) % MODULUS
    if sign == "-":
        return max(left - right, 0)
    if sign == "*":
        return left * right % MODULUS
    if sign == "/":
        return left // right if right > 0 else 0
    if sign == "mod":
        return left % right if right > 0 else 0
    if sign == "<":
        return 1 if left < right else 0
    return 1 if left == right else 0


def value_of(expression, table, on, seen=()):
    """The value of the expression for these variables, options and numbers seen."""
    kind = expression[0]
    if kind == "number":
        return expression[1]
    if kind == "variable":
        return table[expression[1]]
    if kind == "long":
        return min(len(seen), GREATEST_NUMBER)
    if kind == "view":
        index = value_of(expression[1], table, on, seen)
        return seen[index] if index < len(seen) else 0
    if kind == "pick":
        chosen = expression[2] if on[expression[1]] else expression[3]
        return value_of(chosen, table, on, seen)
    left = value_of(expression[1], table, on, seen)
    right = value_of(expression[2], table, on, seen)
    return combine(kind, left, right)
