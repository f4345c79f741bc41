"""The value of a game, and plans that secure it."""

from sureplay.arrivals import arrivals
from sureplay.errors import TooLarge
from sureplay.linear import dot, greatest
from sureplay.plan import Plan, only
from sureplay.ratio import Ratio, shares, total
from sureplay.views import last_row, rows_of, views_of

MOST_ROWS = 24


class Solution:
    """The value of a game, and a plan for each player that secures it."""

    def __init__(self, value, first, second):
        self.value = value
        self.first = first
        self.second = second


def solve(tree):
    """A solution of a game; TooLarge if a player has more than 24 rows."""
    for player in (1, 2):
        if len(rows_of(tree, player)) > MOST_ROWS:
            raise TooLarge("rows")
    program = ValueProgram(tree)
    goal = program.offer(None)
    outcome = greatest(goal, program.limits(), program.bounds())
    value = dot(goal, outcome.point) + program.certain()
    first = {row: weight for row, weight in zip(rows_of(tree, 1), outcome.point)}
    second = {row: price for row, price in zip(rows_of(tree, 2), outcome.prices)}
    return Solution(value, _plan_of(tree, 1, first), _plan_of(tree, 2, second))


def _plan_of(tree, player, weights):
    """The plan that moves in proportion to the weights of its rows."""
    entries = []
    for view, count in views_of(tree, player):
        found = [weights[(view, move)] for move in range(count)]
        entries.append((view, shares(found) if total(found) else only(count, 0)))
    return Plan(entries)


class ValueProgram:
    """The linear program for player 1's best plan.

    Its coordinates are the weights of player 1's rows (point 44), and then, for each view of player 2, the least
    that is paid below it, times the chance that everybody else lets the game come there. Its prices are the weights
    of player 2's rows. All payments are reduced by the least one. So none is negative, and weights of player 1 that
    add up to less than allowed, or weights of player 2 that add up to more, are never better than proper ones.
    """

    def __init__(self, tree):
        self._rows = [rows_of(tree, 1), rows_of(tree, 2)]
        self._views = [[view for view, _ in views_of(tree, player)] for player in (1, 2)]
        found = arrivals(tree, (None, None))
        self._least = min([arrival.paid for arrival in found])
        # What is paid where the two players took these rows last, times the chances of the lots.
        self._paid = {}
        for arrival in found:
            first, second = arrival.last_rows
            part = arrival.chance * Ratio(arrival.paid - self._least)
            self._paid[(first, second)] = self._paid_at(first, second) + part

    def _paid_at(self, first, second):
        return self._paid.get((first, second), Ratio(0))

    def offer(self, row):
        """How much each coordinate adds to what player 2 pays behind this own row, or from the beginning."""
        paid = [self._paid_at(first, row) for first in self._rows[0]]
        return [*paid, *[Ratio(1 if last_row(view) == row else 0) for view in self._views[1]]]

    def limits(self):
        """One row for each row of player 2, and then one for each view of player 1."""
        rows = [self._least_row(row) for row in self._rows[1]]
        rows.extend([self._sum_row(view) for view in self._views[0]])
        return rows

    def _least_row(self, row):
        """What is paid at a view of player 2 is at most what is paid behind its row."""
        weights = [-worth for worth in self.offer(row)]
        weights[len(self._rows[0]) + self._views[1].index(row[0])] = Ratio(1)
        return weights

    def _sum_row(self, view):
        """The weights of a view of player 1 add up to at most the weight of its last row."""
        before = last_row(view)
        weights = [Ratio(0)] * (len(self._rows[0]) + len(self._views[1]))
        for at, row in enumerate(self._rows[0]):
            if row[0] == view:
                weights[at] = Ratio(1)
            elif row == before:
                weights[at] = Ratio(-1)
        return weights

    def bounds(self):
        """The bounds of the rows, in their order."""
        bounds = [self._paid_at(None, row) for row in self._rows[1]]
        bounds.extend([Ratio(1 if last_row(view) is None else 0) for view in self._views[0]])
        return bounds

    def certain(self):
        """What is paid for certain, besides what the coordinates add."""
        return self._paid_at(None, None) + Ratio(self._least)
