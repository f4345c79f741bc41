"""Plans: with which lots a player moves at which views."""

from sureplay.errors import BadPlan
from sureplay.lots import are_lots
from sureplay.ratio import Ratio
from sureplay.views import views_of, way_to


def only(count, chosen):
    """The lots of this number of moves that always choose the same one."""
    return [Ratio(1 if move == chosen else 0) for move in range(count)]


class Plan:
    """A plan; BadPlan at the first entry with a view for the second time or without lots."""

    def __init__(self, entries):
        self._lots = {}
        for place, (view, lots) in enumerate(entries):
            if view in self._lots or not are_lots(lots):
                raise BadPlan(place)
            self._lots[view] = list(lots)

    def lots_at(self, view, count):
        """The lots of the moves at a view with this number of moves: move 0 where the plan says nothing."""
        lots = self._lots.get(view)
        if lots is None or len(lots) != count:
            return only(count, 0)
        return list(lots)

    def entries(self):
        """The pairs of a view and its lots, in the order in which they were given."""
        return [(view, list(lots)) for view, lots in self._lots.items()]


def pure(views, moves):
    """The plan that makes the given move at each view; `views` is a list as from `views_of`."""
    return Plan([(view, only(count, move)) for (view, count), move in zip(views, moves)])


def even(views):
    """The plan that gives the same lot to each move of a view; `views` is a list as from `views_of`."""
    return Plan([(view, [Ratio(1, count)] * count) for view, count in views])


def fits(plan, tree, player):
    """True if the player has all views of the plan in the tree, with as many moves as there are lots."""
    counts = {view: count for view, count in views_of(tree, player)}
    return all([counts.get(view) == len(lots) for view, lots in plan.entries()])


def weight_of(plan, view, count, move):
    """The product of the plan's lots for this move and for the player's moves on the way to its view."""
    weight = plan.lots_at(view, count)[move]
    for earlier, made in way_to(view):
        weight = weight * plan.lots_at(earlier, _count_at(earlier))[made]
    return weight


def _count_at(view):
    """The number of moves that a view tells by its last event."""
    return view[-1][-1]
