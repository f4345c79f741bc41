"""Brains and plans: the plan that a brain follows, and a brain that follows a plan."""

from sureplay.brain import Brain
from sureplay.errors import TooLarge
from sureplay.lots import common
from sureplay.plan import Plan, only
from sureplay.ratio import Ratio, shares, total
from sureplay.think import outcomes, view_numbers
from sureplay.views import last_row, views_of
from sureplay.words import GREATEST_NUMBER

MOST_MINDS = 200

# How many numbers of a view one expression compares: few enough for its depth.
PART = 12


def lots_of(brain, tree, player):
    """The plan that the brain follows as this player; TooLarge if it has too many ways or cell values."""
    # For each row, the weights of the lists of cell values that are reached together with it.
    minds = {None: {brain.start(): Ratio(1)}}
    entries = []
    for view, count in views_of(tree, player):
        before = minds.get(last_row(view), {})
        after = _minds_after(brain, before, view, count)
        for move in range(count):
            minds[(view, move)] = after[move]
        weights = [total(list(found.values())) for found in after]
        entries.append((view, shares(weights) if total(weights) else only(count, 0)))
    return Plan(entries)


def _minds_after(brain, before, view, count):
    """For each move at a view, the weights of the lists of cell values that are reached together with it."""
    after = [{} for _ in range(count)]
    for cells, weight in before.items():
        for chance, move, changed in outcomes(brain, cells, view, count):
            found = after[move]
            found[changed] = found.get(changed, Ratio(0)) + weight * chance
    if any([len(found) > MOST_MINDS for found in after]):
        raise TooLarge("minds")
    return after


def brain_of(plan, tree, player):
    """A brain that moves as the plan does at this player's views; TooLarge if it would need too large numbers.

    Its cell `a` is for the move, `b` for the length of the view, and `c` for whether the view fits so far and then
    for the lot. In the end `b` and `c` are 0, so that nothing but the move is remembered.
    """
    units = 4
    block = [("set", "a", ("number", 0)), ("set", "b", ("long",))]
    for view, count in views_of(tree, player):
        weights, whole = common(plan.lots_at(view, count))
        if whole > GREATEST_NUMBER:
            raise TooLarge("lots")
        units += 6 * len(view) + 4
        if units > GREATEST_NUMBER:
            raise TooLarge("units")
        block.append(_view_statement(view_numbers(view), _move_block(weights, whole)))
    block.extend([("set", "b", ("number", 0)), ("set", "c", ("number", 0))])
    return Brain(units, [("a", 0), ("b", 0), ("c", 0)], block, ("variable", "a"))


def _view_statement(numbers, moving):
    """The statement that moves by a block if these are the numbers of the view.

    For a view with L events it takes at most 6 L + 4 units.
    """
    holds = ("variable", "c")
    block = moving
    if numbers:
        tests = [_comparison(numbers, at) for at in range(0, len(numbers), PART)]
        block = [("set", "c", tests[0])]
        block.extend([("if", holds, (("set", "c", test),), ()) for test in tests[1:]])
        block.append(("if", holds, moving, ()))
    return ("if", ("=", ("variable", "b"), ("number", len(numbers))), tuple(block), ())


def _comparison(numbers, begin):
    """The expression that is 1 if the brain sees these numbers from one index on, as many as fit in, and else 0."""
    tests = []
    for index in range(begin, min(begin + PART, len(numbers))):
        tests.append(("=", ("view", ("number", index)), ("number", numbers[index])))
    return _joined("*", tests)


def _move_block(weights, whole):
    """The block that makes a move with these weights, which add up to `whole`."""
    lot = ("variable", "c")
    counted = [("number", 0)]
    reached = 0
    # The move is how many moves have all their numbers below the lot.
    for weight in weights[:-1]:
        reached += weight
        counted.append(("=", ("<", lot, ("number", reached)), ("number", 0)))
    # No view has this length, so that no later statement looks at this view again.
    return (("lot", "c", ("number", whole)), ("set", "a", _joined("+", counted)), ("set", "b", ("number", 1)))


def _joined(sign, parts):
    """One expression of several ones, which are put together in pairs to keep it shallow."""
    rest = parts
    while len(rest) > 1:
        pairs = [(sign, one, other) for one, other in zip(rest[::2], rest[1::2])]
        rest = pairs if len(rest) % 2 == 0 else [*pairs, rest[-1]]
    return rest[0]
