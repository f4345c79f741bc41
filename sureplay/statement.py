"""The statements of a round: read from words, and written as words (those of a brain, too)."""

from sureplay.errors import BadText
from sureplay.expression import expression_words, read_expression

# The index of a word here is the number that stands for it in the data of a statement.
SEATS = ("both", "first", "second")

DEEPEST_BLOCK = 8

MOST_CHOICES = 24

MOST_RESULTS = 64

MOST_MOVES = 8


class BlockReader:
    """Reads the blocks of all rounds of one text, and counts their draws and moves together."""

    def __init__(self, cursor):
        self._cursor = cursor
        self._draws = 0
        self._moves = 0

    def read_block(self, depth):
        """Reads statements that stand in `depth` ifs and whens, up to a word that begins none."""
        block = []
        while self._cursor.word in self._openings(depth):
            block.append(self._read_statement(depth))
        return tuple(block)

    def _openings(self, depth):
        words = ["show", "pay", "take"]
        if depth < DEEPEST_BLOCK:
            words.append("if")
            if self._cursor.options:
                words.append("when")
        if self._cursor.variables:
            words.append("set")
            if self._draws + self._moves < MOST_CHOICES:
                words.extend(["draw", "first", "second"])
        return words

    def _read_statement(self, depth):
        cursor = self._cursor
        word = cursor.word
        cursor.take_word(word)
        if word == "if":
            return self._read_branches(word, read_expression(cursor), depth)
        if word == "when":
            return self._read_branches(word, cursor.take_name(cursor.options), depth)
        if word == "show":
            seat = SEATS.index(cursor.take_name(SEATS))
            return ("show", seat, read_expression(cursor))
        if word == "set":
            name = cursor.take_name(cursor.variables)
            return ("set", name, read_expression(cursor))
        if word in ("draw", "first", "second"):
            return self._read_choice(word)
        return (word, read_expression(cursor))

    def _read_choice(self, word):
        """Reads what follows the first word of a draw or a move."""
        name = self._cursor.take_name(self._cursor.variables)
        if word == "draw":
            self._draws += 1
            return ("draw", name, self._cursor.take_number(1, MOST_RESULTS))
        number = self._moves
        self._moves += 1
        return ("move", SEATS.index(word), name, self._cursor.take_number(1, MOST_MOVES), number)

    def _read_branches(self, word, test, depth):
        """Reads what follows the condition of an if or a when, its `end` included."""
        cursor = self._cursor
        then = self.read_block(depth + 1)
        other = ()
        if cursor.word == "else":
            cursor.take_word("else")
            other = self.read_block(depth + 1)
            if other == ():
                raise BadText(cursor.at)
        cursor.take_word("end")
        return (word, test, then, other)


def block_words(block):
    """The list of the words that write a block of a round, or of a brain."""
    words = []
    for statement in block:
        words.extend(_statement_words(statement))
    return words


def _statement_words(statement):
    kind = statement[0]
    if kind == "if":
        return ["if", *expression_words(statement[1]), *_branch_words(statement)]
    if kind == "when":
        return ["when", statement[1], *_branch_words(statement)]
    if kind == "show":
        return ["show", SEATS[statement[1]], *expression_words(statement[2])]
    if kind in ("set", "lot"):
        return [kind, statement[1], *expression_words(statement[2])]
    if kind == "while":
        return ["while", *expression_words(statement[1]), *block_words(statement[2]), "end"]
    if kind == "draw":
        return ["draw", statement[1], str(statement[2])]
    if kind == "move":
        return [SEATS[statement[1]], statement[2], str(statement[3])]
    return [kind, *expression_words(statement[1])]


def _branch_words(statement):
    """The words behind the condition of an if or a when."""
    words = block_words(statement[2])
    if statement[3] != ():
        words.append("else")
        words.extend(block_words(statement[3]))
    words.append("end")
    return words


def block_moves(block):
    """The triples (number, player, N) of the moves in a block, in the order of the text."""
    found = []
    for statement in block:
        if statement[0] == "move":
            found.append((statement[4], statement[1], statement[3]))
        elif statement[0] in ("if", "when"):
            found.extend(block_moves(statement[2]))
            found.extend(block_moves(statement[3]))
    return found
