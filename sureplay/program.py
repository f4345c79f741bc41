"""Compiled games and compiled brains."""

from sureplay.code import brain_code, round_code
from sureplay.statement import block_moves


class Program:
    """A compiled game: the sizes of its variables, its moves by number, and the codes of its rounds."""

    def __init__(self, sizes, moves, rounds):
        self.sizes = tuple(sizes)
        self.moves = tuple([(player, count) for player, count in moves])
        self.rounds = tuple([tuple([(name, argument) for name, argument in code]) for code in rounds])

    def __eq__(self, other):
        return (isinstance(other, Program) and self.sizes == other.sizes and self.moves == other.moves
                and self.rounds == other.rounds)


class Mind:
    """A compiled brain: its units of work, the first values of its cells, and its code."""

    def __init__(self, units, cells, code):
        self.units = units
        self.cells = tuple(cells)
        self.code = tuple([(name, argument) for name, argument in code])

    def __eq__(self, other):
        return (isinstance(other, Mind) and self.units == other.units and self.cells == other.cells
                and self.code == other.code)


def program_of(game):
    """The compiled game."""
    slots = tuple([name for name, _ in game.variables])
    on = dict(game.options)
    codes = [round_code(block, slots, on) for _, block in game.rounds]
    return Program([size for _, size in game.variables], _moves_by_number(game), codes)


def _moves_by_number(game):
    """The pairs (player, N) of the moves; the index of each pair is the number of its move.

    A game whose rounds were folded may lack some numbers. Nobody is asked for such a move, so any pair may stand
    in its place.
    """
    known = {}
    for _, block in game.rounds:
        for number, player, count in block_moves(block):
            known[number] = (player, count)
    return [known.get(number, (1, 1)) for number in range(max(known, default=-1) + 1)]


def mind_of(brain):
    """The compiled brain."""
    slots = tuple([name for name, _ in brain.cells])
    return Mind(brain.units, brain.start(), brain_code(brain.block, brain.answer, slots))
