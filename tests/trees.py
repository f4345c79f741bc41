"""What the tests of plans and brains use: trees of random games, random plans, and slow ways to reckon with them."""

import itertools
import random
from fractions import Fraction

from sureplay.errors import TooLarge
from sureplay.gametext import read_game
from sureplay.plan import Plan
from sureplay.ratio import Ratio
from sureplay.tree import End, Lot, Turn, tree_of
from sureplay.views import views_of
from tests.support import Writer

ROUND = ("round", 0)


def whole(ratio):
    """The fraction of Python that equals a ratio."""
    return Fraction(ratio.num, ratio.den)


def ratios(text):
    """The ratios that stand in a text, as integers or with a slash."""
    return [Ratio(*[int(part) for part in word.split("/")]) for word in text.split()]


def tree_from(text):
    return tree_of(read_game(text))


def asked(number, count, *told):
    """The view of a turn in the first round behind these numbers."""
    return (ROUND, *[("told", one) for one in told], ("move", number, count))


def sample_trees(count, most=400):
    """Trees of random games in which somebody moves, of at most this many nodes."""
    found = []
    seed = 0
    while len(found) < count:
        seed += 1
        try:
            tree = tree_from(" ".join(Writer(seed).game_words()))
        except TooLarge:
            continue
        if (views_of(tree, 1) or views_of(tree, 2)) and slow_places(tree) <= most:
            found.append(tree)
    return found


def slow_places(node):
    return 1 if isinstance(node, End) else 1 + sum(slow_places(part) for part in node.parts)


# Player 1 makes a move, forgets it, and moves again; player 2 moves unseen between them.
FORGETFUL = Turn(1, asked(0, 2), [
    Turn(2, asked(1, 2), [Turn(1, asked(2, 3), [End(k + 10 * j + 100 * i) for k in range(3)]) for j in range(2)])
    for i in range(2)])


def random_plan(seed, tree, player, keep=0.7):
    """A plan for some of the player's views: with lots, with zeros, and some with a lot too many or too few."""
    choose = random.Random(seed)
    entries = []
    for view, count in views_of(tree, player):
        if choose.random() < keep:
            many = max(1, count + choose.choice([0, 0, 0, 0, 0, 0, 1, -1]))
            weights = [choose.choice([0, 1, 1, 2, 5]) for _ in range(many)]
            weights[choose.randrange(many)] += 1
            entries.append((view, [Ratio(weight, sum(weights)) for weight in weights]))
    choose.shuffle(entries)
    return Plan(entries)


def slow_lots(plan, view, count):
    """The lots of a plan as fractions, by the words of the document."""
    for known, lots in plan.entries():
        if known == view and len(lots) == count:
            return [whole(lot) for lot in lots]
    return [Fraction(int(k == 0)) for k in range(count)]


def slow_chances(node, plans, chance=Fraction(1)):
    """The pairs of chance and payment of all ends; `plans` is a dict of the players' plans."""
    if isinstance(node, End):
        return [(chance, node.paid)]
    count = len(node.parts)
    if isinstance(node, Lot):
        lots = [Fraction(1, count)] * count
    else:
        lots = slow_lots(plans[node.player], node.view, count)
    found = []
    for lot, part in zip(lots, node.parts):
        found += slow_chances(part, plans, chance * lot)
    return found


def slow_average(tree, first, second):
    return sum(chance * paid for chance, paid in slow_chances(tree, {1: first, 2: second}))


def slow_pure(tree, player):
    """All pure plans of a player, in order, as lists of moves, with the plans."""
    views = views_of(tree, player)
    found = []
    for moves in itertools.product(*[range(count) for _, count in views]):
        entries = [(view, [Ratio(int(k == move)) for k in range(count)]) for (view, count), move in zip(views, moves)]
        found.append((list(moves), Plan(entries)))
    return found


def pure_count(tree, player):
    many = 1
    for _, count in views_of(tree, player):
        many *= count
    return many


def written(plan):
    """The entries of a plan with its lots as text, to compare plans."""
    return [(view, [str(lot) for lot in lots]) for view, lots in plan.entries()]
