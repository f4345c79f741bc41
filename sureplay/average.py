"""What is paid on average if both players follow plans."""

from sureplay.arrivals import arrivals
from sureplay.plan import weight_of
from sureplay.ratio import Ratio, total
from sureplay.views import views_of


def average(tree, first, second):
    """The sum over all ends of chance times payment."""
    return total([chance * Ratio(paid) for chance, paid in chances(tree, first, second)])


def chances(tree, first, second):
    """The pairs of the chance and the payment of each end, in order."""
    return [(arrival.chance, arrival.paid) for arrival in arrivals(tree, (first, second))]


def average_by_weights(tree, first, second):
    """The average in a tree that remembers, from the weights of the rows that the players took last."""
    weights = [_weights(tree, 1, first), _weights(tree, 2, second)]
    parts = []
    for arrival in arrivals(tree, (None, None)):
        part = arrival.chance * Ratio(arrival.paid)
        for row, found in zip(arrival.last_rows, weights):
            part = part * found[row]
        parts.append(part)
    return total(parts)


def _weights(tree, player, plan):
    """The weights of all rows of a player, and of None, which stands for no row."""
    weights = {None: Ratio(1)}
    for view, count in views_of(tree, player):
        for move in range(count):
            weights[(view, move)] = weight_of(plan, view, count, move)
    return weights
