"""Positions on a way through a game."""

from sureplay.errors import BadMove
from sureplay.tree import End, Lot, nodes_of, parts_of, tree_of


class Position:
    """What is next in a game, and what is known about it."""

    def __init__(self, waiting, count, paid, view):
        self.waiting = waiting
        self.count = count
        self.paid = paid
        self.view = view


def follow(tree, choices):
    """The node that a way leads to; BadMove at the first entry that is not possible."""
    node = tree
    for at, choice in enumerate(choices):
        if not _is_possible(choice, len(parts_of(node))):
            raise BadMove(at)
        node = node.parts[choice]
    return node


def _is_possible(choice, count):
    # Python counts True and False among the integers, the document does not.
    return isinstance(choice, int) and not isinstance(choice, bool) and 0 <= choice < count


def position_of(node):
    """The position at a node."""
    if isinstance(node, End):
        return Position("end", 0, node.paid, None)
    if isinstance(node, Lot):
        return Position("lot", len(node.parts), None, None)
    return Position("first" if node.player == 1 else "second", len(node.parts), None, node.view)


def run(game, choices):
    """The position after a way through a game; TooLarge before BadMove."""
    return position_of(follow(tree_of(game), choices))


def ends(tree):
    """The payments at all ends, in order."""
    return [node.paid for node in nodes_of(tree) if isinstance(node, End)]
