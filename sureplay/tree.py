"""The tree of everything that can happen in a game."""

from sureplay.course import begin
from sureplay.errors import TooLarge

MOST_PLACES = 400


class End:
    """An end of a game, with what the first player is paid there."""

    def __init__(self, paid):
        self.paid = paid


class Lot:
    """A lot, with one node for each of its results."""

    def __init__(self, parts):
        self.parts = tuple(parts)


class Turn:
    """A turn of a player, with the player's view and one node for each move."""

    def __init__(self, player, view, parts):
        self.player = player
        self.view = tuple(view)
        self.parts = tuple(parts)


def tree_of(game):
    """The tree of a game; TooLarge if it would have more than 400 nodes."""
    # A node is made when those below it are there, without calls in calls: all 400 nodes may lie on a single way.
    made = []
    for course in _courses_of(game)[::-1]:
        parts = [made.pop() for _ in range(_count_behind(course))]
        made.append(_node_at(course, parts))
    return made[0]


def _courses_of(game):
    """The courses of a game at all nodes of its tree, in the order of `nodes_of`."""
    courses = []
    todo = [begin(game)]
    while todo:
        course = todo.pop()
        courses.append(course)
        count = _count_behind(course)
        # Each of these is a node at least, so a tree that is too large is given up early.
        if len(courses) + len(todo) + count > MOST_PLACES:
            raise TooLarge("places")
        todo.extend([course.after(k) for k in reversed(range(count))])
    return courses


def _count_behind(course):
    """The number of nodes directly below the one where a course has come."""
    asked = course.asked
    if asked is None:
        return 0
    return asked[2] if asked[0] == "draw" else asked[3]


def _node_at(course, parts):
    """The node where a course has come, with these nodes below it."""
    asked = course.asked
    if asked is None:
        return End(course.paid)
    if asked[0] == "draw":
        return Lot(parts)
    player = asked[1]
    return Turn(player, course.views[player - 1], parts)


def parts_of(node):
    """The nodes directly below a node, none below an end."""
    if isinstance(node, End):
        return ()
    return node.parts


def nodes_of(tree):
    """All nodes of a tree, each one before those below it, and those before the next one beside it."""
    nodes = []
    todo = [tree]
    while todo:
        node = todo.pop()
        nodes.append(node)
        todo.extend(parts_of(node)[::-1])
    return nodes
