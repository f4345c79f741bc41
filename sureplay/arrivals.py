"""The ways through a tree to its ends: how likely they are, and what the players did last."""

from sureplay.ratio import Ratio
from sureplay.tree import End, Lot


class Arrival:
    """A way to an end: its chance, the pair of the rows that both players took last, and the payment."""

    def __init__(self, chance, last_rows, paid):
        self.chance = chance
        self.last_rows = last_rows
        self.paid = paid


def arrivals(tree, plans):
    """The arrivals at all ends, in order.

    `plans` is the pair of the players' plans. The moves of a player with None in its place have chance 1.
    """
    found = []
    todo = [(tree, Ratio(1), (None, None))]
    while todo:
        node, chance, rows = todo.pop()
        if isinstance(node, End):
            found.append(Arrival(chance, rows, node.paid))
        else:
            lots = _lots_at(node, plans)
            below = [(part, chance * lots[k], _rows_behind(node, k, rows)) for k, part in enumerate(node.parts)]
            todo.extend(below[::-1])
    return found


def _lots_at(node, plans):
    count = len(node.parts)
    if isinstance(node, Lot):
        return [Ratio(1, count)] * count
    plan = plans[node.player - 1]
    if plan is None:
        return [Ratio(1)] * count
    return plan.lots_at(node.view, count)


def _rows_behind(node, k, rows):
    """The pair of the players' last rows behind the part k of a node."""
    if isinstance(node, Lot):
        return rows
    first, second = rows
    if node.player == 1:
        return ((node.view, k), second)
    return (first, (node.view, k))
