"""Exact fractions in lowest terms, and their written form."""

from math import gcd

from sureplay.errors import BadRatio, BadText


class Ratio:
    """An exact fraction with a positive denominator, in lowest terms."""

    def __init__(self, num, den=1):
        if den == 0:
            raise BadRatio(num)
        factor = gcd(num, den)
        if den < 0:
            factor = -factor
        self.num = num // factor
        self.den = den // factor

    def __add__(self, other):
        return Ratio(self.num * other.den + other.num * self.den, self.den * other.den)

    def __sub__(self, other):
        return Ratio(self.num * other.den - other.num * self.den, self.den * other.den)

    def __mul__(self, other):
        return Ratio(self.num * other.num, self.den * other.den)

    def __neg__(self):
        return Ratio(-self.num, self.den)

    def __eq__(self, other):
        return isinstance(other, Ratio) and self.num == other.num and self.den == other.den

    def __ne__(self, other):
        return not self == other

    def __bool__(self):
        return bool(self.num)

    def __str__(self):
        if self.den == 1:
            return str(self.num)
        return f"{self.num}/{self.den}"

    def over(self, other):
        """The ratio divided by another one; BadRatio if that one is zero."""
        # A zero divisor makes a zero denominator, which the constructor refuses with this numerator.
        return Ratio(self.num * other.den, self.den * other.num)

    def below(self, other):
        """True if the ratio is less than the other one."""
        return self.num * other.den < other.num * self.den

    def at_most(self, other):
        """True if the ratio is less than or equal to the other one."""
        return self.num * other.den <= other.num * self.den

    def sign(self):
        """-1, 0 or 1 for a negative ratio, zero, a positive ratio."""
        if self.num < 0:
            return -1
        return 1 if self.num > 0 else 0


def total(ratios):
    """The sum of a list of ratios; zero for an empty list."""
    whole = Ratio(0)
    for ratio in ratios:
        whole = whole + ratio
    return whole


def least(ratios):
    """The least ratio of a list, the first one of several equal ones."""
    found = ratios[0]
    for ratio in ratios:
        if ratio.below(found):
            found = ratio
    return found


def greatest(ratios):
    """The greatest ratio of a list, the first one of several equal ones."""
    found = ratios[0]
    for ratio in ratios:
        if found.below(ratio):
            found = ratio
    return found


def shares(ratios):
    """The ratios, each divided by their sum; BadRatio if that is zero and there are any."""
    whole = total(ratios)
    return [ratio.over(whole) for ratio in ratios]


def read_ratio(text):
    """The ratio with this written form; BadText at 0 if there is none."""
    above, slash, under = text.partition("/")
    if slash == "":
        under = "1"
    if not _has_digits(above.removeprefix("-")) or not _has_digits(under) or int(under) == 0:
        raise BadText(0)
    ratio = Ratio(int(above), int(under))
    # Every ratio has one written form only: this refuses leading zeros, -0, 3/1 and 2/4.
    if str(ratio) != text:
        raise BadText(0)
    return ratio


def _has_digits(word):
    return len(word) <= 60 and word.isascii() and word.isdigit()
