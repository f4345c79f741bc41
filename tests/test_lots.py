"""Lots: points 5 to 7."""

import unittest

from sureplay.lots import are_lots, common, fall
from sureplay.ratio import Ratio, read_ratio


def ratios_of(text):
    return [read_ratio(word) for word in text.split()]


class AreLotsTest(unittest.TestCase):

    def test_lots(self):
        for text in ("1", "1/2 1/2", "0 1", "1 0 0", "1/3 1/6 1/2", "2/7 0 5/7"):
            self.assertIs(are_lots(ratios_of(text)), True, text)

    def test_no_lots(self):
        for text in ("", "0", "0 0", "2", "-1", "1/2", "1/2 1/3", "1/2 1/2 1/1000", "1/2 1/2 -1/1000",
                     "-1/2 3/2", "3/2 -1/2", "1 1 -1", "1/3 1/3", "999999/1000000", "1000001/1000000"):
            self.assertIs(are_lots(ratios_of(text)), False, text)

    def test_list_stays(self):
        ratios = ratios_of("1/2 1/2")
        are_lots(ratios)
        self.assertEqual(ratios, ratios_of("1/2 1/2"))


class CommonTest(unittest.TestCase):

    def test_several(self):
        cases = [("", [], 1), ("0", [0], 1), ("5 -3", [5, -3], 1), ("1/2", [1], 2), ("1/2 1/3", [3, 2], 6),
                 ("1/4 1/6 -5/3", [3, 2, -20], 12), ("1/2 1/2 0", [1, 1, 0], 2), ("2/9 7/12 1", [8, 21, 36], 36),
                 ("1/6 1/4", [2, 3], 12), ("1/12 1/4 1/6", [1, 3, 2], 12)]
        for text, numbers, whole in cases:
            found = common(ratios_of(text))
            self.assertEqual(found, (numbers, whole), text)
            self.assertIs(type(found), tuple)
            self.assertIs(type(found[0]), list)
            self.assertIs(type(found[1]), int)

    def test_long_denominators(self):
        a, b = 2 ** 150, 3 ** 90
        self.assertEqual(common([Ratio(1, a), Ratio(-1, b), Ratio(1, 2)]), ([b, -a, a * b // 2], a * b))

    def test_list_stays(self):
        ratios = ratios_of("1/2 1/3")
        common(ratios)
        self.assertEqual(ratios, ratios_of("1/2 1/3"))


class FallTest(unittest.TestCase):

    def test_every_number(self):
        for weights in ([1], [3], [2, 3], [1, 1, 1], [4, 1, 2], [0, 2, 3], [0, 0, 1], [2, 0, 3], [2, 0, 0, 3],
                        [2, 3, 0], [1, 0, 0], [0, 1, 0, 0, 2, 0, 1, 0]):
            expected = [index for index, weight in enumerate(weights) for _ in range(weight)]
            kept = list(weights)
            self.assertEqual([fall(weights, n) for n in range(sum(weights))], expected, weights)
            self.assertEqual(weights, kept)

    def test_large_weights(self):
        big = 10 ** 30
        weights = [0, big, 0, big + 1]
        for n, index in ((0, 1), (big - 1, 1), (big, 3), (2 * big, 3)):
            self.assertEqual(fall(weights, n), index)


if __name__ == "__main__":
    unittest.main()
