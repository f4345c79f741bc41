"""Lists of ratios as lots, and whole numbers as weights."""

from math import lcm

from sureplay.ratio import Ratio, total


def common(ratios):
    """The common form: whole numbers and the least denominator that all ratios share."""
    whole = 1
    for ratio in ratios:
        whole = lcm(whole, ratio.den)
    return [ratio.num * (whole // ratio.den) for ratio in ratios], whole


def fall(weights, n):
    """The index of the weight that the number n falls on."""
    index = 0
    rest = n
    while rest >= weights[index]:
        rest -= weights[index]
        index += 1
    return index


def are_lots(ratios):
    """True if no ratio is negative and their sum is 1, which an empty list cannot reach."""
    return all([ratio.sign() >= 0 for ratio in ratios]) and total(ratios) == Ratio(1)
