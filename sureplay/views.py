"""What the players see in a tree: views, rows, and what a player remembers."""

from sureplay.tree import Turn, nodes_of, parts_of


def places(tree):
    """The number of nodes of a tree."""
    return len(nodes_of(tree))


def views_of(tree, player):
    """The pairs of a view of the player and its number of moves, in the order of first meeting."""
    counts = {}
    for node in nodes_of(tree):
        if isinstance(node, Turn) and node.player == player:
            counts[node.view] = len(node.parts)
    return list(counts.items())


def rows_of(tree, player):
    """The pairs of a view of the player and one of its moves, in order."""
    return [(view, move) for view, count in views_of(tree, player) for move in range(count)]


def last_row(view):
    """The player's latest earlier view and the move made there, or None."""
    at = len(view) - 1
    while at >= 0 and view[at][0] != "did":
        at -= 1
    if at < 0:
        return None
    return (view[:at], view[at][1])


def way_to(view):
    """The player's earlier rows on the way to a view, the earliest one first."""
    rows = []
    row = last_row(view)
    while row is not None:
        rows.append(row)
        row = last_row(row[0])
    return rows[::-1]


def remembers(tree):
    """True if each view tells which row its player took last on the way to it."""
    # With each node stand the rows that the first and the second player took last before it.
    todo = [(tree, None, None)]
    while todo:
        node, first, second = todo.pop()
        if not isinstance(node, Turn):
            todo.extend([(part, first, second) for part in parts_of(node)])
        elif last_row(node.view) != (first if node.player == 1 else second):
            return False
        elif node.player == 1:
            todo.extend([(part, (node.view, move), second) for move, part in enumerate(node.parts)])
        else:
            todo.extend([(part, first, (node.view, move)) for move, part in enumerate(node.parts)])
    return True
