"""Best answers to a plan, what a plan secures, and all pure plans."""

from sureplay.arrivals import arrivals
from sureplay.errors import TooLarge
from sureplay.plan import pure
from sureplay.ratio import Ratio, greatest, least
from sureplay.views import last_row, views_of

MOST_PLANS = 256


class Answer:
    """A best answer: the average that it reaches, and the pairs of a view and the move made there."""

    def __init__(self, paid, moves):
        self.paid = paid
        self.moves = list(moves)


def best_for(tree, player, plan):
    """The player's best answer if the other player follows the plan."""
    worths = _worths(tree, player, plan)
    moves = []
    # The views behind a row come later in the list, so a row is complete when its view's turn comes.
    for view, count in views_of(tree, player)[::-1]:
        offers = [worths.get((view, move), Ratio(0)) for move in range(count)]
        best = greatest(offers) if player == 1 else least(offers)
        moves.append((view, offers.index(best)))
        before = last_row(view)
        worths[before] = worths.get(before, Ratio(0)) + best
    return Answer(worths.get(None, Ratio(0)), moves[::-1])


def _worths(tree, player, plan):
    """For each last row of the player, or None, the sum over its ends of the payment times the others' chances."""
    worths = {}
    for arrival in arrivals(tree, (None, plan) if player == 1 else (plan, None)):
        row = arrival.last_rows[player - 1]
        worths[row] = worths.get(row, Ratio(0)) + arrival.chance * Ratio(arrival.paid)
    return worths


def answer_plan(answer, tree, player):
    """The pure plan of a best answer of the player."""
    return pure(views_of(tree, player), [move for _, move in answer.moves])


def sure_of(tree, player, plan):
    """What the player's plan secures: the average against the other player's best answer."""
    return best_for(tree, 3 - player, plan).paid


def all_pure(tree, player):
    """The pure plans of the player, in order; TooLarge if there are more than 256."""
    views = views_of(tree, player)
    choices = [[]]
    for _, count in views:
        if len(choices) * count > MOST_PLANS:
            raise TooLarge("plans")
        choices = [[*moves, move] for moves in choices for move in range(count)]
    return [pure(views, moves) for moves in choices]
