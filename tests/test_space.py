"""Workspaces: points 57, 58 and 109 to 112."""

import random
import unittest

from sureplay.compose import before
from sureplay.edits import changed, edit_text
from sureplay.errors import BadEdit, BadText, BadVersion, GameError, TooLarge
from sureplay.exact import solve
from sureplay.gametext import Game, game_text, read_game
from sureplay.ratio import Ratio
from sureplay.space import Space, replay
from sureplay.tree import tree_of
from tests.support import refusal

TEXT = "option o on var x 4 round a pay 3 end"

# Too many nodes, and too many rows of a player.
WIDE = "round w draw x 64 draw x 64 end"

FORKED = "round f draw x 4 show first x first x 8 end"


def space_of(text=TEXT, *lines):
    return replay(read_game(text), list(lines))


def texts_of(space):
    return [game_text(space.version(number)) for number in range(space.versions())]


class SpaceTest(unittest.TestCase):

    def refused(self, kind, call, *arguments):
        """The call raises this error, and the workspace, whose method it is, stays as it was."""
        space = call.__self__
        before_it = texts_of(space), space.journal(), space.versions()
        error = refusal(kind, call, *arguments)
        self.assertIs(type(error), kind)
        self.assertEqual((texts_of(space), space.journal(), space.versions()), before_it)
        return error


class VersionTest(SpaceTest):

    def test_first_version(self):
        game = read_game(TEXT)
        space = Space(game)
        self.assertEqual((space.versions(), space.journal()), (1, []))
        self.assertIsInstance(space.version(0), Game)
        self.assertTrue(space.version(0) == game)
        self.assertEqual(game_text(game), TEXT)

    def test_numbers(self):
        space = space_of()
        edits = [("put", "var y 2"), ("switch", "o", False), ("drop", "round", "a"), ("put", "round b pay y end"),
                 ("switch", "o", False)]
        told = [TEXT, "option o on var x 4 var y 2 round a pay 3 end", "option o off var x 4 var y 2 round a pay 3 end",
                "option o off var x 4 var y 2", "option o off var x 4 var y 2 round b pay y end"]
        told.append(told[-1])
        for count, change in enumerate(edits):
            self.assertEqual(space.edit(change), count + 1)
            self.assertEqual(space.versions(), count + 2)
            self.assertEqual(texts_of(space), told[:count + 2])
        for number, text in enumerate(told):
            self.assertTrue(space.version(number) == read_game(text))

    def test_each_edit_changes_the_last_version(self):
        space = space_of()
        game = read_game(TEXT)
        for change in (("put", "var y 3"), ("put", "round b take y end"), ("drop", "round", "a"), ("put", "var y 7")):
            game = changed(game, change)
            space.edit(change)
            self.assertTrue(space.version(space.versions() - 1) == game)

    def test_back(self):
        space = space_of()
        for change in (("put", "var y 3"), ("drop", "round", "a"), ("switch", "o", False)):
            space.edit(change)
        for number in range(4):
            text = game_text(space.version(number))
            self.assertEqual(space.edit(("back", number)), 4 + number)
            self.assertEqual(game_text(space.version(4 + number)), text)
        self.assertEqual(space.edit(("back", 7)), 8)
        self.assertEqual(texts_of(space)[:4], texts_of(space)[4:8])
        self.assertEqual(space.edit(("put", "round z end")), 9)
        self.assertEqual(game_text(space.version(9)), game_text(space.version(3)) + " round z end")
        self.assertEqual(space.edit(("back", 0)), 10)
        self.assertEqual(game_text(space.version(10)), TEXT)

    def test_wrong_numbers(self):
        space = space_of(TEXT, "put var y 3")
        for number in (-1, 2, 3, -2, 64, 10 ** 20):
            for call in (space.version, space.value):
                self.assertEqual(self.refused(BadVersion, call, number).number, number)
            self.assertEqual(self.refused(BadVersion, space.edit, ("back", number)).number, number)
        space.version(0)
        space.version(1)

    def test_refused_edits(self):
        space = space_of(TEXT, "put var y 3")
        self.assertEqual(self.refused(BadEdit, space.edit, ("put", "vary 3")).what, "sort")
        self.assertEqual(self.refused(BadEdit, space.edit, ("put", "")).what, "sort")
        self.assertEqual(self.refused(BadEdit, space.edit, ("drop", "x", "x")).what, "sort")
        self.assertEqual(self.refused(BadEdit, space.edit, ("drop", "var", "z")).what, "name")
        self.assertEqual(self.refused(BadEdit, space.edit, ("switch", "x", True)).what, "name")
        self.assertEqual(self.refused(BadText, space.edit, ("put", "var x 0")).at, 5)
        self.assertEqual(self.refused(BadText, space.edit, ("put", "round b pay z end")).at, 17)
        self.assertEqual(space.edit(("drop", "var", "y")), 2)

    def test_many_versions(self):
        space = space_of()
        for number in range(1, 64):
            self.assertEqual(space.edit(("put", f"var x {number}")), number)
        self.assertEqual(space.versions(), 64)
        for change in (("put", "var x 9"), ("switch", "o", True), ("drop", "round", "a"), ("back", 0), ("back", 63)):
            self.assertEqual(self.refused(TooLarge, space.edit, change).what, "versions")
        # Other errors come first.
        self.assertEqual(self.refused(BadEdit, space.edit, ("put", "x 9")).what, "sort")
        self.assertEqual(self.refused(BadEdit, space.edit, ("drop", "round", "b")).what, "name")
        self.assertEqual(self.refused(BadVersion, space.edit, ("back", 64)).number, 64)
        self.assertEqual(self.refused(BadVersion, space.edit, ("back", -1)).number, -1)
        self.assertEqual(self.refused(BadText, space.edit, ("put", "var x")).at, 5)
        self.assertEqual(space.versions(), 64)
        self.assertEqual([game_text(space.version(number)).split()[5] for number in range(1, 64)],
                         [str(number) for number in range(1, 64)])
        self.assertEqual(space.value(63), (Ratio(3), False))
        self.assertEqual(len(space.worth(Ratio(3))), 64)

    def test_a_game_that_no_text_writes(self):
        one = read_game(" ".join(f"round r{k} pay 1 end" for k in range(8)))
        two = read_game("round s pay 5 end")
        space = Space(before(one, two))
        self.assertEqual(space.value(0), (Ratio(13), False))
        # Its pieces write no game, whatever is put.
        self.assertEqual(self.refused(BadText, space.edit, ("put", "var x 3")).at, 43)
        self.assertEqual(space.edit(("drop", "round", "s")), 1)
        self.assertTrue(space.version(1) == one)


class ValueTest(SpaceTest):

    def test_value(self):
        space = space_of("var x 2 var y 2 round a first x 2 second y 2 if = x y pay + x 1 else take 1 end end")
        found = space.value(0)
        self.assertIs(type(found), tuple)
        self.assertEqual((str(found[0]), found[1]), ("1/5", False))
        self.assertIs(space.value(0)[1], True)
        self.assertEqual(space.value(0)[0], Ratio(1, 5))

    def test_told_before_by_the_text(self):
        space = space_of(TEXT, "put var x 5", "put var x 4", "back 1", "switch o on", "drop var x")
        self.assertEqual(space.value(0), (Ratio(3), False))
        # The same text again, made by a put; not the same text, though the same value; the same text by `back`.
        self.assertEqual(space.value(2), (Ratio(3), True))
        self.assertEqual(space.value(1), (Ratio(3), False))
        self.assertEqual(space.value(3), (Ratio(3), True))
        self.assertEqual(space.value(4), (Ratio(3), True))
        self.assertEqual(space.value(5), (Ratio(3), False))
        self.assertEqual(space.edit(("back", 5)), 6)
        self.assertEqual(space.value(6), (Ratio(3), True))
        self.assertEqual(space.value(0), (Ratio(3), True))

    def test_versions_told_later_know_nothing_by_themselves(self):
        space = space_of(TEXT, "put round a pay 4 end", "back 0")
        self.assertEqual(space.value(2), (Ratio(3), False))
        self.assertEqual(space.value(0), (Ratio(3), True))
        self.assertEqual(space.value(1), (Ratio(4), False))

    def test_other_workspaces_do_not_know(self):
        one, two = space_of(), space_of()
        self.assertEqual(one.value(0), (Ratio(3), False))
        self.assertEqual(two.value(0), (Ratio(3), False))
        self.assertEqual(one.value(0), (Ratio(3), True))
        same = replay(one.version(0), one.journal())
        self.assertEqual(same.value(0), (Ratio(3), False))

    def test_values_that_cannot_be_told(self):
        space = space_of(TEXT, "put " + WIDE, "drop round w", "put " + FORKED)
        for _ in range(2):
            self.assertEqual(self.refused(TooLarge, space.value, 1).what, "places")
            self.assertEqual(self.refused(TooLarge, space.value, 3).what, "rows")
        self.assertEqual(space.value(2), (Ratio(3), False))
        self.assertEqual(space.value(0), (Ratio(3), True))
        both = space_of(TEXT, "put " + FORKED, "put " + WIDE)
        self.assertEqual(self.refused(TooLarge, both.value, 2).what, "places")

    def test_same_as_solve(self):
        space = space_of("option o on var x 3 var y 3 round a draw x 3 second y 3 when o pay * x y else take y end end",
                         "switch o off", "put round b first x 2 second y 2 if < x y pay 6 else take 2 end end",
                         "drop round a")
        for number in range(4):
            value, _ = space.value(number)
            self.assertEqual(value, solve(tree_of(space.version(number))).value)


class WorthTest(SpaceTest):

    def test_least_value(self):
        space = space_of("round a pay 3 end", "put round a pay 4 end", "put round a take 1 end", "back 0",
                         "put round a end")
        for least, told in (((3, 1), [0, 1, 3]), ((4, 1), [1]), ((31, 10), [1]), ((41, 10), []), ((-1, 1), [0, 1, 2, 3, 4]),
                            ((0, 1), [0, 1, 3, 4]), ((1, 10 ** 30), [0, 1, 3]), ((-11, 10), [0, 1, 2, 3, 4])):
            found = space.worth(Ratio(*least))
            self.assertEqual(found, told)
            self.assertIs(type(found), list)
            found.append(9)
            self.assertEqual(space.worth(Ratio(*least)), told)

    def test_values_are_told(self):
        space = space_of(TEXT, "put round a pay 4 end", "put round a take 1 end")
        self.assertEqual(space.value(1), (Ratio(4), False))
        self.assertEqual(space.worth(Ratio(5)), [])
        self.assertEqual([space.value(number) for number in range(3)],
                         [(Ratio(3), True), (Ratio(4), True), (Ratio(-1), True)])
        space.edit(("put", "round a pay 9 end"))
        space.edit(("back", 0))
        self.assertEqual(space.value(3), (Ratio(9), False))
        self.assertEqual(space.value(4), (Ratio(3), True))

    def test_nothing_is_remembered_if_it_fails(self):
        space = space_of(TEXT, "put round a pay 4 end", "put " + WIDE, "drop round w", "put " + FORKED)
        self.assertEqual(space.value(1), (Ratio(4), False))
        for _ in range(2):
            self.assertEqual(self.refused(TooLarge, space.worth, Ratio(0)).what, "places")
        self.assertEqual(space.value(0), (Ratio(3), False))
        self.assertEqual(space.value(3), (Ratio(4), True))
        self.assertEqual(space.value(0), (Ratio(3), True))

    def test_first_version_that_fails(self):
        space = space_of(TEXT, "put " + FORKED, "put " + WIDE)
        self.assertEqual(self.refused(TooLarge, space.worth, Ratio(0)).what, "rows")
        space = space_of(TEXT, "put " + WIDE, "drop round w", "put " + FORKED)
        self.assertEqual(self.refused(TooLarge, space.worth, Ratio(0)).what, "places")


class JournalTest(SpaceTest):

    LINES = ["put var y 3", "switch o off", "back 0", "put round b pay x end", "drop round a", "back 2", "switch o on",
             "put round a pay 3 end round c end", "drop var x"]

    def test_lines(self):
        space = space_of()
        self.assertEqual(space.journal(), [])
        for change, line in ((("put", "var y 3"), "put var y 3"), (("switch", "o", False), "switch o off"),
                             (("switch", "o", True), "switch o on"), (("back", 1), "back 1"),
                             (("drop", "round", "a"), "drop round a"),
                             (("put", "round a end round b end"), "put round a end round b end")):
            space.edit(change)
            self.assertEqual(space.journal()[-1], line)
            self.assertEqual(len(space.journal()), space.versions() - 1)

    def test_new_list(self):
        space = space_of(TEXT, *self.LINES[:3])
        lines = space.journal()
        self.assertIs(type(lines), list)
        lines.append("back 0")
        lines[0] = "drop var x"
        self.assertEqual(space.journal(), self.LINES[:3])
        self.assertEqual(texts_of(replay(read_game(TEXT), space.journal())), texts_of(space))

    def test_replay(self):
        given = list(self.LINES)
        space = replay(read_game(TEXT), given)
        self.assertIsInstance(space, Space)
        self.assertEqual(given, self.LINES)
        self.assertEqual((space.versions(), space.journal()), (len(self.LINES) + 1, self.LINES))
        again = replay(space.version(0), space.journal())
        self.assertEqual(texts_of(again), texts_of(space))
        for number in range(space.versions()):
            self.assertTrue(again.version(number) == space.version(number))
        self.assertEqual(texts_of(replay(read_game(TEXT), [])), [TEXT])
        given.append("back 0")
        self.assertEqual(space.journal(), self.LINES)

    def test_wrong_lines(self):
        for at in range(len(self.LINES) + 1):
            for line, kind in (("put", BadText), ("drop var", BadText), ("switch o", BadText), ("", BadText),
                               ("back 64", BadVersion), ("back -1", BadText), ("drop var q", BadEdit), ("put x", BadEdit),
                               ("switch q on", BadEdit), ("put var w", BadText), ("drop thing x", BadText)):
                lines = [*self.LINES[:at], line, *self.LINES[at:]]
                self.assertIs(type(refusal(GameError, replay, read_game(TEXT), lines)), kind, (at, line))
        # The first error counts, a wrong line behind it does not.
        self.assertEqual(refusal(GameError, replay, read_game(TEXT), ["back 1", "put"]).number, 1)
        self.assertEqual(refusal(GameError, replay, read_game(TEXT), ["back 0", "drop", "back 9"]).at, 1)
        self.assertEqual(refusal(BadEdit, replay, read_game(TEXT), ["drop var y", "x"]).what, "name")

    def test_too_many_lines(self):
        space = replay(read_game(TEXT), ["switch o on"] * 63)
        self.assertEqual(space.versions(), 64)
        self.assertEqual(refusal(TooLarge, replay, read_game(TEXT), ["switch o on"] * 64).what, "versions")
        self.assertEqual(refusal(BadText, replay, read_game(TEXT), ["switch o on"] * 63 + ["switch"]).at, 1)

    def test_random_edits(self):
        choose = random.Random(6)
        edits = [("put", "var y 3"), ("put", "var y 4 var z 2"), ("drop", "var", "y"), ("put", "round b pay y end"),
                 ("drop", "round", "b"), ("switch", "o", False), ("switch", "o", True), ("back", 0), ("back", 3),
                 ("back", 7), ("put", "round a take x end"), ("drop", "option", "o"), ("put", "x"), ("put", "var q"),
                 ("put", "option o on"), ("drop", "var", "x"), ("put", "var x 2")]
        for _ in range(40):
            space, games, lines = space_of(), [read_game(TEXT)], []
            for _ in range(40):
                change = choose.choice(edits)
                try:
                    game = games[change[1]] if change[0] == "back" else changed(games[-1], change)
                except (GameError, IndexError):
                    refusal(GameError, space.edit, change)
                else:
                    games.append(game)
                    lines.append(edit_text(change))
                    self.assertEqual(space.edit(change), len(games) - 1)
            self.assertEqual(space.journal(), lines)
            self.assertEqual(texts_of(space), [game_text(game) for game in games])
            self.assertEqual(texts_of(replay(read_game(TEXT), lines)), texts_of(space))


if __name__ == "__main__":
    unittest.main()
