"""Linear programs, solved exactly, with a proof of each outcome."""

from sureplay.lots import common
from sureplay.ratio import Ratio, total


class Outcome:
    """The outcome of a linear program; what its kind does not name is None."""

    def __init__(self, kind, point, prices, ray):
        self.kind = kind
        self.point = point
        self.prices = prices
        self.ray = ray


def dot(left, right):
    """The sum of the products of two lists of ratios of the same length."""
    return total([one * other for one, other in zip(left, right)])


def greatest(goal, rows, bounds):
    """The outcome of a linear program."""
    tableau = Tableau(goal, rows, bounds)
    broken = tableau.reach_a_point()
    if broken is not None:
        return Outcome("none", None, tableau.prices_of(broken), None)
    column = tableau.climb()
    if column is not None:
        return Outcome("endless", tableau.corner(), None, tableau.ray_of(column))
    return Outcome("best", tableau.corner(), tableau.prices_of(len(rows)), None)


class Tableau:
    """The rows of a linear program, solved for some of its variables.

    The variables are the coordinates and then, for each row, what its sum lacks to its bound. Each row of the
    tableau is solved for one of them, which stands in `_basic`: this variable plus the sum of the row's entries
    times the variables in `_free` is the row's last entry. The last row is the goal's: there stands the worth
    instead. All entries are whole numbers, to be divided by `_whole`, so that a pivot needs no fractions.
    """

    def __init__(self, goal, rows, bounds):
        self._many = len(goal)
        self._free = list(range(len(goal)))
        self._basic = list(range(len(goal), len(goal) + len(rows)))
        self._rows = []
        # What each row, and the goal behind them, was multiplied by to make its entries whole.
        self._scales = []
        self._whole = 1
        for weights, bound in zip(rows, bounds):
            self._add_row([*weights, bound])
        self._add_row([*[-ratio for ratio in goal], Ratio(0)])

    def _add_row(self, ratios):
        numbers, scale = common(ratios)
        self._rows.append(numbers)
        self._scales.append(scale)

    def reach_a_point(self):
        """Pivots until no coordinate and no lack is negative; a row that forbids this, or None.

        The least variable is always taken first (Bland's rule), which never goes round in circles.
        """
        while True:
            low = [at for at in range(len(self._basic)) if self._rows[at][-1] < 0]
            if not low:
                return None
            at = _least_by(self._basic, low)
            columns = [k for k in range(self._many) if self._rows[at][k] < 0]
            if not columns:
                return at
            self._pivot(at, _least_by(self._free, columns))

    def climb(self):
        """Pivots until no point is worth more; a column along which the worth has no end, or None."""
        while True:
            columns = [k for k in range(self._many) if self._rows[-1][k] < 0]
            if not columns:
                return None
            column = _least_by(self._free, columns)
            at = self._first_to_end(column)
            if at is None:
                return column
            self._pivot(at, column)

    def _first_to_end(self, column):
        """The row whose variable is the first to become zero if the column's variable grows, or None."""
        found = None
        for at, variable in enumerate(self._basic):
            row = self._rows[at]
            if row[column] > 0:
                if found is None:
                    found = at
                else:
                    gain = row[-1] * self._rows[found][column] - self._rows[found][-1] * row[column]
                    if gain < 0 or (gain == 0 and variable < self._basic[found]):
                        found = at
        return found

    def _pivot(self, at, column):
        """Exchanges the variables of a row and a column. All divisions by the old `_whole` leave no rest."""
        pivot = self._rows[at][column]
        sign = 1 if pivot > 0 else -1
        source = [sign * entry for entry in self._rows[at]]
        rows = []
        for row in self._rows:
            factor = row[column]
            changed = [(entry * sign * pivot - factor * other) // self._whole for entry, other in zip(row, source)]
            changed[column] = -sign * factor
            rows.append(changed)
        source[column] = sign * self._whole
        rows[at] = source
        self._rows = rows
        self._whole = sign * pivot
        self._basic[at], self._free[column] = self._free[column], self._basic[at]

    def corner(self):
        """The coordinates, where all free variables are zero."""
        return self._coordinates([row[-1] for row in self._rows])

    def ray_of(self, column):
        """How much each coordinate grows with the variable of this column."""
        ray = self._coordinates([-row[column] for row in self._rows])
        if self._free[column] < self._many:
            ray[self._free[column]] = Ratio(1)
        return ray

    def _coordinates(self, numbers):
        """The numbers of the rows that are solved for coordinates, and zero for all other coordinates."""
        found = [Ratio(0)] * self._many
        for variable, number in zip(self._basic, numbers):
            if variable < self._many:
                found[variable] = Ratio(number, self._whole)
        return found

    def prices_of(self, at):
        """How often each row of the program is contained in this row of the tableau."""
        numbers = {variable: entry for variable, entry in zip(self._free, self._rows[at])}
        if at < len(self._basic):
            numbers[self._basic[at]] = self._whole
        prices = []
        for k in range(len(self._basic)):
            number = numbers.get(self._many + k, 0) * self._scales[k]
            prices.append(Ratio(number, self._whole * self._scales[-1]))
        return prices


def _least_by(variables, places):
    """The place among these at which the least variable stands."""
    found = places[0]
    for place in places:
        if variables[place] < variables[found]:
            found = place
    return found
