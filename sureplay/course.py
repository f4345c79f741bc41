"""A game on its way: its statements run up to the next lot, the next turn or the end."""

from sureplay.expression import value_of


class Course:
    """How far a game has come on one way. It rests at a lot or a turn, or has reached the end."""

    def __init__(self, on, sizes, todo):
        self._on = on
        self._sizes = sizes
        # Blocks that have begun, each with the index of its next statement, the inner ones last.
        self._todo = todo
        self.table = {name: 0 for name in sizes}
        self.paid = 0
        self.views = [[], []]
        self.asked = None

    def after(self, result):
        """The course that goes on from here with this result of the lot or with this move."""
        course = Course(self._on, self._sizes, list(self._todo))
        course.table = dict(self.table)
        course.paid = self.paid
        course.views = [list(view) for view in self.views]
        course._choose(self.asked, result)
        course.go_on()
        return course

    def go_on(self):
        """Runs statements until a lot or a turn is asked for, or none is left."""
        while self.asked is None and self._todo:
            block, at = self._todo.pop()
            if at < len(block):
                self._todo.append((block, at + 1))
                self._do(block[at])

    def _choose(self, asked, result):
        if asked[0] == "draw":
            self._store(asked[1], result)
        else:
            self._tell(asked[1], ("did", result))
            self._store(asked[2], result)

    def _do(self, statement):
        kind = statement[0]
        if kind == "round":
            # This statement is the event that both players see.
            self._tell(0, statement)
        elif kind == "draw":
            self.asked = statement
        elif kind == "move":
            self._tell(statement[1], ("move", statement[4], statement[3]))
            self.asked = statement
        elif kind == "if":
            self._enter(statement, self._value(statement[1]) != 0)
        elif kind == "when":
            self._enter(statement, self._on[statement[1]])
        elif kind == "set":
            self._store(statement[1], self._value(statement[2]))
        elif kind == "show":
            self._tell(statement[1], ("told", self._value(statement[2])))
        elif kind == "pay":
            self.paid += self._value(statement[1])
        else:
            self.paid -= self._value(statement[1])

    def _enter(self, statement, holds):
        self._todo.append((statement[2] if holds else statement[3], 0))

    def _value(self, expression):
        return value_of(expression, self.table, self._on)

    def _store(self, name, value):
        self.table[name] = value % self._sizes[name]

    def _tell(self, seat, event):
        """Shows an event to the player in this seat, or to both players if it is 0."""
        for player in (1, 2):
            if seat in (0, player):
                self.views[player - 1].append(event)


def begin(game):
    """The course of a game from its beginning up to its first lot, its first turn or its end."""
    steps = []
    for index, pair in enumerate(game.rounds):
        steps.append(("round", index))
        steps.extend(pair[1])
    course = Course(dict(game.options), dict(game.variables), [(steps, 0)])
    course.go_on()
    return course
