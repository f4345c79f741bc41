"""Games that two brains play."""

from sureplay.course import begin
from sureplay.ratio import Ratio, total
from sureplay.tape import Tape
from sureplay.think import Thought, view_numbers
from sureplay.ways import all_ways

MOST_WAYS = 400


class Played:
    """What comes of a game: the payment, the choices, how many lots fell, and the cells of both brains."""

    def __init__(self, paid, choices, taken, cells):
        self.paid = paid
        self.choices = tuple(choices)
        self.taken = taken
        self.cells = tuple([tuple(values) for values in cells])

    def __eq__(self, other):
        return (isinstance(other, Played) and self.paid == other.paid and self.choices == other.choices
                and self.taken == other.taken and self.cells == other.cells)


class Match:
    """How far two brains have come with a game. It rests at a lot, of the game or of a brain, or is through."""

    def __init__(self, brains, course, cells):
        self._brains = brains
        self.course = course
        # The brain that is about to move, or None.
        self._thought = None
        self.cells = list(cells)
        self.choices = []
        # The number of results of the lot that is to fall next.
        self.results = None

    def after(self, result):
        """The match that goes on from here with this result of its lot."""
        match = Match(self._brains, self.course, self.cells)
        match.choices = list(self.choices)
        if self._thought is None:
            match._choose(result)
        else:
            match._thought = self._thought.after(result)
        return match

    def go_on(self):
        """Plays until a lot is to fall, or the game is over."""
        while self.results is None and self.course.asked is not None:
            asked = self.course.asked
            if asked[0] == "draw":
                self.results = asked[2]
            else:
                self._think(asked[1] - 1, asked[3])

    def _think(self, seat, count):
        """Lets the brain in a seat think up to its next lot, or make one of `count` moves."""
        if self._thought is None:
            seen = view_numbers(self.course.views[seat])
            self._thought = Thought(self._brains[seat], self.cells[seat], seen)
        self._thought.go_on()
        self.results = self._thought.results
        if self.results is None:
            move, self.cells[seat] = self._thought.move_and_cells(count)
            self._thought = None
            self._choose(move)

    def _choose(self, choice):
        self.choices.append(choice)
        self.course = self.course.after(choice)


def _start(game, first, second):
    return Match((first, second), begin(game), (first.start(), second.start()))


def play(game, first, second, results):
    """What comes of the game that two brains play, with these results of lots."""
    tape = Tape(results)
    match = _start(game, first, second)
    match.go_on()
    while match.results is not None:
        match = match.after(tape.take(match.results))
        match.go_on()
    return Played(match.course.paid, match.choices, len(tape.taken), match.cells)


def average_of_brains(game, first, second):
    """The average payment over all ways in which the lots can fall; TooLarge if there are more than 400."""
    ways = all_ways(_start(game, first, second), MOST_WAYS)
    return total([chance * Ratio(match.course.paid) for chance, match in ways])
