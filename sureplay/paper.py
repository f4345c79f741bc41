"""Papers: a plan for each player, which give two bounds for the value of a game."""

from sureplay.answers import sure_of
from sureplay.errors import BadPaper, BadText
from sureplay.lots import are_lots
from sureplay.plan import Plan, fits
from sureplay.ratio import read_ratio
from sureplay.views import views_of


class Paper:
    """A paper: a plan of player 1 and a plan of player 2."""

    def __init__(self, first, second):
        self.first = first
        self.second = second


def judge(tree, paper):
    """The pair of what the two plans secure: the value is at least the one and at most the other."""
    return (sure_of(tree, 1, paper.first), sure_of(tree, 2, paper.second))


def settles(tree, paper):
    """True if both bounds are equal."""
    low, high = judge(tree, paper)
    return low == high


def belongs(tree, paper):
    """True if both plans fit the tree for their players."""
    return fits(paper.first, tree, 1) and fits(paper.second, tree, 2)


def paper_text(tree, paper):
    """The lines of a paper: the lots at each view of player 1, then at each view of player 2."""
    lines = []
    for player, plan in ((1, paper.first), (2, paper.second)):
        for view, count in views_of(tree, player):
            lines.append(" ".join([str(lot) for lot in plan.lots_at(view, count)]))
    return lines


def read_paper(tree, lines):
    """The paper with these lines; BadPaper at the first one that is wrong, missing or left over."""
    first = views_of(tree, 1)
    second = views_of(tree, 2)
    entries = []
    for place, (view, count) in enumerate([*first, *second]):
        if place == len(lines):
            raise BadPaper(place)
        entries.append((view, _read_lots(lines[place], count, place)))
    if len(lines) > len(entries):
        raise BadPaper(len(entries))
    return Paper(Plan(entries[:len(first)]), Plan(entries[len(first):]))


def _read_lots(line, count, place):
    """The lots that the line at this place writes."""
    try:
        lots = [read_ratio(word) for word in line.split(" ")]
    except BadText:
        raise BadPaper(place) from None
    if len(lots) != count or not are_lots(lots):
        raise BadPaper(place)
    return lots
