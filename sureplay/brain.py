"""Brains: players that are described by texts, read and written."""

from sureplay.errors import BadText
from sureplay.expression import expression_words, read_expression
from sureplay.statement import BlockReader, DEEPEST_BLOCK, block_words
from sureplay.words import Cursor, GREATEST_NUMBER, join_words, split_words

MOST_CELLS = 8


class Brain:
    """A brain: its units of work, its cells with their first values, its statements and its answer."""

    def __init__(self, units, cells, block, answer):
        self.units = units
        self.cells = tuple([(name, value) for name, value in cells])
        self.block = tuple(block)
        self.answer = answer

    def __eq__(self, other):
        return (isinstance(other, Brain) and self.units == other.units and self.cells == other.cells
                and self.block == other.block and self.answer == other.answer)

    def start(self):
        """The first values of the cells, in order."""
        return tuple([value for _, value in self.cells])


class BrainReader(BlockReader):
    """Reads the statements of a brain; a BlockReader knows how blocks and branches are put together."""

    def _openings(self, depth):
        words = []
        if depth < DEEPEST_BLOCK:
            words.extend(["if", "while"])
        if self._cursor.variables:
            words.extend(["set", "lot"])
        return words

    def _read_statement(self, depth):
        cursor = self._cursor
        word = cursor.word
        cursor.take_word(word)
        if word in ("set", "lot"):
            name = cursor.take_name(cursor.variables)
            return (word, name, read_expression(cursor))
        test = read_expression(cursor)
        if word == "if":
            return self._read_branches(word, test, depth)
        block = self.read_block(depth + 1)
        cursor.take_word("end")
        return ("while", test, block)


def read_brain(text):
    """The Brain that a text writes; BadText at the first word that does not fit."""
    words = split_words(text)
    head = Cursor(words)
    head.take_word("player")
    units = head.take_number(1, GREATEST_NUMBER)
    cells = _read_cells(head)
    # The names of the cells are known behind them only, and a Cursor knows its names from the beginning.
    cursor = Cursor(words, variables=[name for name, _ in cells], sees=True)
    cursor.at = head.at
    block = BrainReader(cursor).read_block(0)
    cursor.take_word("answer")
    answer = read_expression(cursor)
    if cursor.word is not None:
        raise BadText(cursor.at)
    return Brain(units, cells, block, answer)


def _read_cells(cursor):
    cells = []
    while cursor.word == "keep" and len(cells) < MOST_CELLS:
        cursor.take_word("keep")
        name = cursor.take_new_name([known for known, _ in cells])
        cells.append((name, cursor.take_number(0, GREATEST_NUMBER)))
    return cells


def brain_text(brain):
    """The text of a brain."""
    words = ["player", str(brain.units)]
    for name, value in brain.cells:
        words.extend(["keep", name, str(value)])
    words.extend(block_words(brain.block))
    words.append("answer")
    words.extend(expression_words(brain.answer))
    return join_words(words)
