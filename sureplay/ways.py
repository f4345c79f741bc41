"""All ways in which the lots of something that rests at lots can fall."""

from sureplay.errors import TooLarge
from sureplay.ratio import Ratio


def all_ways(start, most):
    """The pairs of the chance of a way and of what stands at its end, for all ways, in order.

    What is followed has `go_on`, which leads it to its next lot or its end; `results`, the number of results of this
    lot, or None at the end; and `after`, which returns what goes on with one of them. TooLarge if there are more
    than `most` ways.
    """
    found = []
    todo = [(Ratio(1), start)]
    while todo:
        chance, state = todo.pop()
        state.go_on()
        many = state.results
        if many is None:
            found.append((chance, state))
        # Whatever has begun leads to one way at least, so this many ways are certain.
        elif len(found) + len(todo) + many > most:
            raise TooLarge("lots")
        else:
            part = chance * Ratio(1, many)
            todo.extend([(part, state.after(result)) for result in reversed(range(many))])
    return found
