"""The tree of everything that can happen in a game."""

from sureplay.course import begin
from sureplay.errors import TooLarge

MOST_PLACES = 400


class End:
    """An end of a game, with what the first player is paid there."""

    def __init__(self, paid):
        self.paid = paid


class Lot:
    """A lot, with one node for each of its results."""

    def __init__(self, parts):
        self.parts = tuple(parts)


class Turn:
    """A turn of a player, with the player's view and one node for each move."""

    def __init__(self, player, view, parts):
        self.player = player
        self.view = tuple(view)
        self.parts = tuple(parts)


class Grower:
    """Grows one tree and counts its nodes, so that a tree that is too large is given up early."""

    def __init__(self):
        self._places = 0

    def grow(self, course):
        """The node for where a course has come, with everything below it."""
        if self._places == MOST_PLACES:
            raise TooLarge("places")
        self._places += 1
        asked = course.asked
        if asked is None:
            return End(course.paid)
        if asked[0] == "draw":
            return Lot(self._parts(course, asked[2]))
        player = asked[1]
        return Turn(player, course.views[player - 1], self._parts(course, asked[3]))

    def _parts(self, course, count):
        return [self.grow(course.after(k)) for k in range(count)]


def tree_of(game):
    """The tree of a game; TooLarge if it would have more than 400 nodes."""
    return Grower().grow(begin(game))


def parts_of(node):
    """The nodes directly below a node, none below an end."""
    if isinstance(node, End):
        return ()
    return node.parts


def nodes_of(tree):
    """All nodes of a tree, each one before those below it, and those before the next one beside it."""
    nodes = []
    todo = [tree]
    while todo:
        node = todo.pop()
        nodes.append(node)
        todo.extend(parts_of(node)[::-1])
    return nodes
