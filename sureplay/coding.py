"""Compiled games as whole numbers."""

from sureplay.errors import BadCode
from sureplay.gametext import MOST_ROUNDS, MOST_VARIABLES
from sureplay.instructions import NAMES
from sureplay.program import Program
from sureplay.statement import MOST_CHOICES, MOST_MOVES
from sureplay.words import GREATEST_NUMBER


def program_numbers(program):
    """The list of whole numbers that writes a Program."""
    numbers = [len(program.sizes), *program.sizes, len(program.moves)]
    for player, count in program.moves:
        numbers.extend([player, count])
    numbers.append(len(program.rounds))
    for code in program.rounds:
        numbers.append(len(code))
        for name, argument in code:
            numbers.extend([NAMES.index(name), argument])
    return numbers


def read_program(numbers):
    """The Program that a list of whole numbers writes; BadCode at the first one that does not fit."""
    reader = NumberReader(numbers)
    sizes = [reader.take(1, GREATEST_NUMBER) for _ in range(reader.take(0, MOST_VARIABLES))]
    moves = []
    for _ in range(reader.take(0, MOST_CHOICES)):
        player = reader.take(1, 2)
        moves.append((player, reader.take(1, MOST_MOVES)))
    rounds = [_read_code(reader) for _ in range(reader.take(0, MOST_ROUNDS))]
    reader.finish()
    return Program(sizes, moves, rounds)


def _read_code(reader):
    code = []
    for _ in range(reader.take(0, GREATEST_NUMBER)):
        name = NAMES[reader.take(0, len(NAMES) - 1)]
        code.append((name, reader.take(0, GREATEST_NUMBER)))
    return code


class NumberReader:
    """Takes whole numbers from a list, one after the other."""

    def __init__(self, numbers):
        self._numbers = list(numbers)
        self._at = 0

    def take(self, least, most):
        """The next number, which must be there and in this range."""
        if self._at == len(self._numbers) or not least <= self._numbers[self._at] <= most:
            raise BadCode(self._at)
        self._at += 1
        return self._numbers[self._at - 1]

    def finish(self):
        """Refuses numbers that are left over."""
        if self._at < len(self._numbers):
            raise BadCode(self._at)
