"""Results of lots that are given in advance."""

from sureplay.ratio import Ratio


class Tape:
    """Gives each lot its result, and keeps which results have been given."""

    def __init__(self, results):
        self._results = list(results)
        self.taken = []

    def take(self, count):
        """The result of the next lot, which has this number of results: 0 behind the end of the list."""
        at = len(self.taken)
        result = self._results[at] % count if at < len(self._results) else 0
        self.taken.append((result, count))
        return result

    def chance(self):
        """The chance of the results that were taken so far."""
        ways = 1
        for _, count in self.taken:
            ways = ways * count
        return Ratio(1, ways)

    def following(self):
        """The beginning of the next way, or None: the last result that can be greater is greater by 1."""
        for at in reversed(range(len(self.taken))):
            result, count = self.taken[at]
            if result + 1 < count:
                return [*[earlier for earlier, _ in self.taken[:at]], result + 1]
        return None
