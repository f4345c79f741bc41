"""What a brain does at a move."""

from sureplay.expression import value_of
from sureplay.ways import all_ways

MOST_WAYS = 200

# The number that stands for each kind of event in the numbers of a view.
EVENT_NUMBERS = {"round": 1, "told": 2, "move": 3, "did": 4}


def view_numbers(view):
    """The numbers of a view, three for each event."""
    numbers = []
    for event in view:
        second = event[2] if event[0] == "move" else 0
        numbers.extend([EVENT_NUMBERS[event[0]], event[1], second])
    return tuple(numbers)


class Thought:
    """How far a brain has come at one move. It rests at a lot, or it is through, or silent."""

    def __init__(self, brain, cells, seen):
        self._brain = brain
        self._before = tuple(cells)
        self._seen = seen
        self._table = {name: value for (name, _), value in zip(brain.cells, cells)}
        self._left = brain.units
        # Blocks that have begun and have statements left, with the index of the next one, the inner ones last.
        self._todo = []
        self._silent = False
        # The cell that gets the result of the lot that is to fall next, and the number of its results.
        self._cell = None
        self.results = None
        self._enter(brain.block)

    def after(self, result):
        """The thought that goes on from here with this result of its lot."""
        thought = Thought(self._brain, self._before, self._seen)
        thought._table = dict(self._table)
        thought._table[self._cell] = result
        thought._left = self._left
        thought._todo = list(self._todo)
        return thought

    def go_on(self):
        """Runs statements until a lot is to fall, or none is left, or a unit is missing."""
        while self._todo and self.results is None:
            if self._left == 0:
                self._silent = True
                self._todo = []
            else:
                self._left -= 1
                block, at = self._todo.pop()
                if at + 1 < len(block):
                    self._todo.append((block, at + 1))
                self._do(block[at])

    def _do(self, statement):
        kind = statement[0]
        if kind == "if":
            self._enter(statement[2] if self._value(statement[1]) != 0 else statement[3])
        elif kind == "while":
            if self._value(statement[1]) != 0:
                # To come back here takes a unit and a new look at the expression, as for any statement.
                self._enter((statement,))
                self._enter(statement[2])
        else:
            self._give(kind, statement[1], self._value(statement[2]))

    def _give(self, kind, cell, value):
        if kind == "lot" and value > 0:
            self._cell = cell
            self.results = value
        else:
            # A lot without results gives 0, which is its value here.
            self._table[cell] = value

    def _enter(self, block):
        if block:
            self._todo.append((block, 0))

    def _value(self, expression):
        return value_of(expression, self._table, {}, self._seen)

    def move_and_cells(self, count):
        """The pair of the move, one of `count`, and the values of the cells afterwards."""
        if self._silent:
            return (0, self._before)
        move = self._value(self._brain.answer)
        return (move if move < count else 0, tuple([self._table[name] for name, _ in self._brain.cells]))


def think(brain, cells, view, count, tape):
    """The pair of the brain's move at a view and the values of its cells afterwards; lots come from the tape."""
    thought = Thought(brain, cells, view_numbers(view))
    thought.go_on()
    while thought.results is not None:
        thought = thought.after(tape.take(thought.results))
        thought.go_on()
    return thought.move_and_cells(count)


def outcomes(brain, cells, view, count):
    """The triples (chance, move, cells afterwards) for all ways in which the lots can fall, in order.

    TooLarge if there are more than 200 ways.
    """
    ways = all_ways(Thought(brain, cells, view_numbers(view)), MOST_WAYS)
    return [(chance, *thought.move_and_cells(count)) for chance, thought in ways]
