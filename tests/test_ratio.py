"""Ratios: points 1 to 4."""

import unittest
from fractions import Fraction
from math import gcd

from sureplay.errors import BadRatio, BadText, GameError
from sureplay.ratio import Ratio, greatest, least, read_ratio, shares, total
from tests.support import refusal

LONG = 10 ** 59 + 9
OTHER_LONG = 6 * (10 ** 58 + 3)


def parts(ratio):
    return (ratio.num, ratio.den)


def parts_of_fraction(fraction):
    return (fraction.numerator, fraction.denominator)


def some():
    """Ratios of all signs, small ones and long ones, each with its Fraction."""
    numbers = [(num, den) for num in range(-6, 7) for den in (1, 2, 3, 4, 6)]
    numbers += [(LONG, 7), (-LONG, OTHER_LONG), (OTHER_LONG, LONG), (5, -OTHER_LONG)]
    return [(Ratio(num, den), Fraction(num, den)) for num, den in numbers]


class MakingTest(unittest.TestCase):

    def test_lowest_terms_for_all_signs(self):
        for num in range(-12, 13):
            for den in [k for k in range(-12, 13) if k != 0]:
                self.assertEqual(parts(Ratio(num, den)), parts_of_fraction(Fraction(num, den)), (num, den))

    def test_lowest_terms_of_long_integers(self):
        for factor in (1, 2, 3 * 5 * 7, LONG):
            for num, den in ((LONG, OTHER_LONG), (OTHER_LONG, LONG), (LONG, LONG)):
                for one in (1, -1):
                    for two in (1, -1):
                        ratio = Ratio(one * num * factor, two * den * factor)
                        self.assertEqual(parts(ratio), parts_of_fraction(Fraction(one * two * num, den)))
                        self.assertEqual(gcd(ratio.num, ratio.den), 1)
                        self.assertGreater(ratio.den, 0)

    def test_zero(self):
        for den in (1, -1, 5, -5, LONG, -LONG):
            self.assertEqual(parts(Ratio(0, den)), (0, 1))

    def test_default_denominator_and_names(self):
        self.assertEqual(parts(Ratio(-4)), (-4, 1))
        self.assertEqual(parts(Ratio(0)), (0, 1))
        self.assertEqual(parts(Ratio(num=6, den=4)), (3, 2))
        self.assertEqual(parts(Ratio(den=4, num=6)), (3, 2))

    def test_denominator_zero(self):
        for num in (0, 1, -1, 6, LONG, -LONG, 10 ** 5000):
            error = refusal(BadRatio, Ratio, num, 0)
            self.assertEqual(error.value, num)
            self.assertIsInstance(error, GameError)

    def test_methods_stand_in_the_class(self):
        for name in ("__init__", "__add__", "__sub__", "__mul__", "__neg__", "__eq__", "__ne__", "__bool__",
                     "__str__", "over", "below", "at_most", "sign"):
            self.assertIn(name, vars(Ratio))


class ReckoningTest(unittest.TestCase):

    def check(self, ratio, fraction):
        self.assertIsInstance(ratio, Ratio)
        self.assertEqual(parts(ratio), parts_of_fraction(fraction))

    def test_sums_differences_products_quotients(self):
        for left, a in some():
            for right, b in some():
                self.check(left + right, a + b)
                self.check(left - right, a - b)
                self.check(left * right, a * b)
                if b != 0:
                    self.check(left.over(right), a / b)
                self.check(left, a)
                self.check(right, b)

    def test_with_itself(self):
        for ratio, a in some():
            self.check(ratio + ratio, a + a)
            self.check(ratio - ratio, Fraction(0))
            self.check(ratio * ratio, a * a)
            if a != 0:
                self.check(ratio.over(ratio), Fraction(1))
            self.check(ratio, a)

    def test_negative(self):
        for ratio, a in some():
            self.check(-ratio, -a)
            self.check(--ratio, a)
            self.check(ratio, a)

    def test_division_by_zero(self):
        for ratio, a in some():
            for zero in (Ratio(0), Ratio(0, -7), Ratio(1, 3) - Ratio(2, 6)):
                error = refusal(BadRatio, ratio.over, zero)
                self.assertEqual(error.value, a.numerator)
                self.check(ratio, a)
                self.check(zero, Fraction(0))
        self.assertEqual(refusal(BadRatio, Ratio(6, 4).over, Ratio(0)).value, 3)

    def test_truth(self):
        for ratio, a in some():
            self.assertIs(bool(ratio), a != 0)
        self.assertFalse(Ratio(3, 7) - Ratio(3, 7))

    def test_sign(self):
        for ratio, a in some():
            self.assertEqual(ratio.sign(), (a > 0) - (a < 0))
            self.assertIs(type(ratio.sign()), int)

    def test_order(self):
        for left, a in some():
            for right, b in some():
                self.assertIs(left.below(right), a < b)
                self.assertIs(left.at_most(right), a <= b)
            self.assertIs(left.below(left), False)
            self.assertIs(left.at_most(left), True)

    def test_equality(self):
        for left, a in some():
            for right, b in some():
                self.assertIs(left == right, a == b)
                self.assertIs(left != right, a != b)
        self.assertTrue(Ratio(2, 4) == Ratio(-3, -6))
        self.assertFalse(Ratio(2, 4) != Ratio(-3, -6))
        self.assertTrue(Ratio(1, 2) != Ratio(1, 3))
        self.assertTrue(Ratio(1, 3) != Ratio(2, 3))


class WritingTest(unittest.TestCase):

    def test_examples(self):
        for text, num, den in (("0", 0, 5), ("-3", -6, 2), ("1/2", 2, 4), ("-7/4", 7, -4), ("12", 12, 1)):
            self.assertEqual(str(Ratio(num, den)), text)
            self.assertEqual(parts(read_ratio(text)), parts(Ratio(num, den)))

    def test_all_are_read_back(self):
        for ratio, a in some():
            self.assertEqual(str(ratio), str(a))
            self.assertEqual(parts(read_ratio(str(ratio))), parts(ratio))
            self.assertIsInstance(read_ratio(str(ratio)), Ratio)

    def test_digits(self):
        nines = "9" * 60
        primes = "1" + "0" * 58 + "7"
        for text in (nines, "-" + nines, "1/" + primes, "-1/" + primes, nines + "/" + primes):
            self.assertEqual(str(read_ratio(text)), text)
        for text in (nines + "9", "-" + nines + "9", "1/" + primes + "3", "1" * 61 + "/2", "-" + "1" * 61 + "/2"):
            self.assertEqual(refusal(BadText, read_ratio, text).at, 0)
        self.assertEqual(parts(read_ratio("-" + nines)), (-int(nines), 1))

    def test_refused(self):
        texts = ["2/4", "3/1", "-0", "01", "1/0", "+1", "", " ", " 1", "1 ", "1 /2", "1/ 2", "- 1", "0/1", "0/5",
                 "-0/3", "1/02", "01/2", "-01", "1/-2", "-1/-2", "+1/2", "1/+2", "/", "1/", "/2", "-", "--1", "-/2",
                 "1/2/3", "1//2", "1.5", "1e3", "1_0", "x", "0x1", "1/1", "-4/2", "0/0", "00", "1-", "-1/0",
                 "1\n", "1\t", "\n1", "\t1", "1/2\n", "1/2\t", "1\n/2", "1/\n2", "1\n2", "1\t2", "-\n1", "\n", "\t"]
        for text in texts:
            self.assertEqual(refusal(BadText, read_ratio, text).at, 0, repr(text))

    def test_beyond_ascii(self):
        for text in ("\u0661", "\u00b2", "1/\u0662"):
            self.assertEqual(refusal(BadText, read_ratio, text).at, 0)


class ListTest(unittest.TestCase):

    def test_total(self):
        self.assertEqual(parts(total([])), (0, 1))
        self.assertEqual(parts(total([Ratio(1, 2), Ratio(1, 3), Ratio(-1, 6)])), (2, 3))
        self.assertEqual(parts(total([ratio for ratio, _ in some()])), parts_of_fraction(sum(a for _, a in some())))

    def test_least_and_greatest(self):
        ratios = [ratio for ratio, _ in some()]
        fractions = [a for _, a in some()]
        self.assertEqual(parts(least(ratios)), parts_of_fraction(min(fractions)))
        self.assertEqual(parts(greatest(ratios)), parts_of_fraction(max(fractions)))
        for ratio in ratios:
            self.assertIs(least([ratio]), ratio)
            self.assertIs(greatest([ratio]), ratio)

    def test_the_first_of_equal_ones(self):
        low, low_too = Ratio(-1, 2), Ratio(-1, 2)
        high, high_too = Ratio(3), Ratio(3)
        ratios = [Ratio(0), low, high, Ratio(1), low_too, high_too]
        self.assertIs(least(ratios), low)
        self.assertIs(greatest(ratios), high)
        self.assertIs(least(ratios[::-1]), low_too)
        self.assertIs(greatest(ratios[::-1]), high_too)
        self.assertIs(least([low, high, low_too]), low)
        self.assertIs(greatest([high, low, high_too]), high)

    def test_shares(self):
        ratios = [Ratio(1, 2), Ratio(1, 3), Ratio(-1, 6), Ratio(0)]
        self.assertEqual([str(ratio) for ratio in shares(ratios)], ["3/4", "1/2", "-1/4", "0"])
        self.assertEqual([str(ratio) for ratio in shares([Ratio(-3), Ratio(-1)])], ["3/4", "1/4"])

    def test_shares_of_one(self):
        ratios = [Ratio(1)]
        found = shares(ratios)
        self.assertEqual(found, ratios)
        self.assertIsNot(found, ratios)

    def test_shares_of_none(self):
        empty = []
        found = shares(empty)
        self.assertEqual(found, [])
        self.assertIsNot(found, empty)

    def test_shares_of_a_sum_of_zero(self):
        for first, rest in ((Ratio(6, 4), [Ratio(-3, 2)]), (Ratio(-5, 3), [Ratio(1), Ratio(2, 3)]), (Ratio(0), []),
                            (Ratio(0), [Ratio(2), Ratio(-2)])):
            self.assertEqual(refusal(BadRatio, shares, [first, *rest]).value, first.num)

    def test_lists_stay(self):
        ratios = [Ratio(2), Ratio(-1, 2), Ratio(3)]
        before = list(ratios)
        for function in (total, least, greatest, shares):
            function(ratios)
            self.assertEqual(len(ratios), 3)
            for ratio, same in zip(ratios, before):
                self.assertIs(ratio, same)
        self.assertEqual([parts(ratio) for ratio in ratios], [(2, 1), (-1, 2), (3, 1)])


if __name__ == "__main__":
    unittest.main()
