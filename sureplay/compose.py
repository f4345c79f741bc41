"""Games made from games."""

from itertools import combinations

from sureplay.errors import BadEdit
from sureplay.exact import solve
from sureplay.gametext import Game
from sureplay.tree import tree_of

# What stands in the place of each seat if the players have exchanged theirs.
OTHER_SEATS = (0, 2, 1)

OTHER_PAYMENTS = {"pay": "take", "take": "pay"}


def swapped(game):
    """The game in which the players have exchanged their seats."""
    return Game(game.options, game.variables, [(name, _swapped_block(block)) for name, block in game.rounds])


def _swapped_block(block):
    return tuple([_swapped_statement(statement) for statement in block])


def _swapped_statement(statement):
    kind = statement[0]
    if kind in ("if", "when"):
        return (kind, statement[1], _swapped_block(statement[2]), _swapped_block(statement[3]))
    if kind in ("move", "show"):
        return (kind, OTHER_SEATS[statement[1]], *statement[2:])
    return (OTHER_PAYMENTS.get(kind, kind), *statement[1:])


def before(game, other):
    """The one game before the other one; BadEdit if they share a name of the same sort."""
    sorts = ((game.options, other.options), (game.variables, other.variables), (game.rounds, other.rounds))
    for pairs, others in sorts:
        names = [name for name, _ in pairs]
        if any([name in names for name, _ in others]):
            raise BadEdit("names")
    numbering = Numbering()
    rounds = [(name, numbering.numbered(block)) for name, block in [*game.rounds, *other.rounds]]
    return Game([*game.options, *other.options], [*game.variables, *other.variables], rounds)


class Numbering:
    """Numbers the moves of blocks anew, in the order of the text."""

    def __init__(self):
        self._count = 0

    def numbered(self, block):
        """The block with the next numbers for its moves."""
        return tuple([self._statement(statement) for statement in block])

    def _statement(self, statement):
        kind = statement[0]
        if kind in ("if", "when"):
            then = self.numbered(statement[2])
            return (kind, statement[1], then, self.numbered(statement[3]))
        if kind == "move":
            number = self._count
            self._count += 1
            return (*statement[:4], number)
        return statement


def switched(game, names):
    """The game with these options switched; BadEdit if a name is no option's or is given twice."""
    known = [name for name, _ in game.options]
    for at, name in enumerate(names):
        if name not in known or name in names[:at]:
            raise BadEdit("options")
    return Game([(name, (not on) if name in names else on) for name, on in game.options], game.variables, game.rounds)


def least_switches(game, names, aim):
    """The least sets of these options whose switching lets the game have at least the value `aim`."""
    switched(game, names)
    reaching = []
    for size in range(len(names) + 1):
        for chosen in combinations(names, size):
            if aim.at_most(solve(tree_of(switched(game, list(chosen)))).value):
                reaching.append(list(chosen))
    return [chosen for chosen in reaching if not _has_smaller(chosen, reaching)]


def _has_smaller(chosen, reaching):
    """True if one of the sets that reach the aim is a proper subset of this one."""
    for others in reaching:
        if len(others) < len(chosen) and all([name in chosen for name in others]):
            return True
    return False
