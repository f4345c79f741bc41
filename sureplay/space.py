"""Workspaces: the versions of a game."""

from sureplay.edits import changed, edit_text, read_edit
from sureplay.errors import BadVersion, TooLarge
from sureplay.exact import solve
from sureplay.gametext import game_text
from sureplay.tree import tree_of

MOST_VERSIONS = 64


class Space:
    """A workspace: the versions of a game, the lines of the edits that made them, and the values it has told."""

    def __init__(self, game):
        self._games = [game]
        self._lines = []
        # The values by the texts of the games.
        self._told = {}

    def versions(self):
        """The number of versions."""
        return len(self._games)

    def version(self, number):
        """The Game of a version; BadVersion if there is no such version."""
        if not 0 <= number < len(self._games):
            raise BadVersion(number)
        return self._games[number]

    def edit(self, change):
        """Makes a new version and returns its number; any error leaves the workspace as it was."""
        if change[0] == "back":
            game = self.version(change[1])
        else:
            game = changed(self._games[-1], change)
        if len(self._games) == MOST_VERSIONS:
            raise TooLarge("versions")
        self._lines.append(edit_text(change))
        self._games.append(game)
        return len(self._games) - 1

    def value(self, number):
        """The pair of the value of a version, and whether that of a game with the same text was told before."""
        game = self.version(number)
        text = game_text(game)
        known = text in self._told
        if not known:
            self._told[text] = solve(tree_of(game)).value
        return (self._told[text], known)

    def worth(self, least):
        """The numbers of all versions whose value is at least this ratio."""
        # The values are kept only when all of them are known, because an error must leave nothing behind.
        told = dict(self._told)
        found = []
        for number, game in enumerate(self._games):
            text = game_text(game)
            if text not in told:
                told[text] = solve(tree_of(game)).value
            if least.at_most(told[text]):
                found.append(number)
        self._told = told
        return found

    def journal(self):
        """The lines of the edits that made the versions, in order."""
        return list(self._lines)


def replay(game, lines):
    """The workspace that begins with a game, after the edits of these lines."""
    space = Space(game)
    for line in lines:
        space.edit(read_edit(line))
    return space
