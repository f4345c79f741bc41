"""Composing games: points 13, 14, 18, 57, 58 and 100 to 103."""

import itertools
import time
import unittest

from sureplay.compose import before, least_switches, swapped, switched
from sureplay.errors import BadEdit, BadText, TooLarge
from sureplay.exact import solve
from sureplay.gametext import Game, game_text, moves_of, pieces_of, read_game
from sureplay.ratio import Ratio
from sureplay.tree import tree_of
from sureplay.views import places
from tests.boards import random_game
from tests.support import refusal

X, ONE = ("variable", "x"), ("number", 1)


def value(game):
    return solve(tree_of(game)).value


def solvable(count, most=40):
    """Random games whose value can be told."""
    found, seed = [], 0
    while len(found) < count:
        seed += 1
        game = random_game(seed)
        try:
            tree = tree_of(game)
            solve(tree)
        except TooLarge:
            continue
        if places(tree) <= most and moves_of(game):
            found.append(game)
    return found


def renamed(game, mark):
    """The game of a Writer, whose names are like `o1`, `x1` and `r1`, with a mark behind each name."""
    words = [word + mark if word[0] in "oxr" and word[1:].isdigit() else word for word in game_text(game).split()]
    return read_game(" ".join(words))


class SwappedTest(unittest.TestCase):

    def check(self, text, told):
        game = read_game(text)
        found = swapped(game)
        self.assertIsInstance(found, Game)
        self.assertEqual(game_text(found), told)
        self.assertEqual(game_text(game), text)
        self.assertTrue(swapped(found) == game)

    def test_each_statement(self):
        head = "option o on var x 4 round a "
        for words, told in (("", ""), ("set x 1", "set x 1"), ("draw x 2", "draw x 2"), ("first x 3", "second x 3"),
                            ("second x 3", "first x 3"), ("show first x", "show second x"),
                            ("show second 5", "show first 5"), ("show both x", "show both x"), ("pay x", "take x"),
                            ("take + x 1", "pay + x 1")):
            self.check(f"{head}{words} end".replace("  ", " "), f"{head}{told} end".replace("  ", " "))
            for opening in ("if x", "when o", "if 1 when o if x"):
                ends = "end " * (opening.count("if") + opening.count("when")) + "end"
                self.check(f"{head}{opening} {words} {ends}".replace("  ", " "),
                           f"{head}{opening} {told} {ends}".replace("  ", " "))
                other = f"{opening} pay 1 else"
                if words:
                    self.check(f"{head}{other} {words} {ends}",
                               f"{head}{other} {told} {ends}".replace("pay 1", "take 1", 1))

    def test_options_and_variables_stay(self):
        self.check("option o on option p off var x 4 var y 3", "option o on option p off var x 4 var y 3")
        self.check("", "")

    def test_data(self):
        game = read_game("option o on var x 4 round a first x 3 if x second x 2 end end round b when o first x 1 end end")
        found = swapped(game)
        self.assertEqual(found.rounds, (
            ("a", (("move", 2, "x", 3, 0), ("if", X, (("move", 1, "x", 2, 1),), ()))),
            ("b", (("when", "o", (("move", 2, "x", 1, 2),), ()),))))
        self.assertEqual(moves_of(found), ((2, 3), (1, 2), (2, 1)))

    def test_random_games(self):
        for seed in range(200):
            game = random_game(seed)
            text = game_text(game)
            self.assertTrue(swapped(swapped(game)) == game)
            self.assertEqual(game_text(game), text)
            # Another way to say the same: no other words of a text are concerned.
            other = {"first": "second", "second": "first", "pay": "take", "take": "pay"}
            self.assertEqual(game_text(swapped(game)), " ".join(other.get(word, word) for word in text.split(" ")))

    def test_value(self):
        for game in solvable(40):
            self.assertEqual(value(swapped(game)), -value(game))
        self.assertEqual(str(value(swapped(read_game("round a pay 3 end")))), "-3")


class BeforeTest(unittest.TestCase):

    def test_parts(self):
        one = read_game("option o on var x 4 round a first x 3 pay x end")
        two = read_game("option p off var y 2 var z 9 round b second y 2 when p first z 4 else second z 5 end end round c end")
        texts = game_text(one), game_text(two)
        found = before(one, two)
        self.assertIsInstance(found, Game)
        self.assertEqual(pieces_of(found), [
            "option o on", "option p off", "var x 4", "var y 2", "var z 9", "round a first x 3 pay x end",
            "round b second y 2 when p first z 4 else second z 5 end end", "round c end"])
        self.assertTrue(found == read_game(game_text(found)))
        self.assertEqual((game_text(one), game_text(two)), texts)
        self.assertEqual(moves_of(found), ((1, 3), (2, 2), (1, 4), (2, 5)))

    def test_moves_are_numbered_anew(self):
        one = read_game("var x 4 round a if x first x 3 else second x 2 end end")
        two = read_game("option p on var y 4 round b if y when p first y 3 else first y 2 end second y 5 else first y 6 end "
                        "second y 7 end")
        found = before(one, two).rounds[1][1]
        inner = ("when", "p", (("move", 1, "y", 3, 2),), (("move", 1, "y", 2, 3),))
        self.assertEqual(found, (("if", ("variable", "y"), (inner, ("move", 2, "y", 5, 4)), (("move", 1, "y", 6, 5),)),
                                 ("move", 2, "y", 7, 6)))
        self.assertEqual(before(two, one).rounds[1][1], (("if", X, (("move", 1, "x", 3, 5),), (("move", 2, "x", 2, 6),)),))

    def test_empty_games(self):
        game, empty = read_game("option o on var x 4 round a first x 3 end"), read_game("")
        self.assertTrue(before(game, empty) == game)
        self.assertTrue(before(empty, game) == game)
        self.assertTrue(before(empty, empty) == empty)

    def test_shared_names(self):
        parts = {"option": "option {} on", "var": "var {} 3", "round": "round {} end"}
        for sort, one in parts.items():
            for other_sort, other in parts.items():
                games = read_game(one.format("a")), read_game(other.format("a"))
                if sort == other_sort:
                    self.assertEqual(refusal(BadEdit, before, *games).what, "names")
                else:
                    for pair in (games, games[::-1]):
                        self.assertEqual(sorted(pieces_of(before(*pair))), sorted(pieces_of(games[0]) + pieces_of(games[1])))
        one = read_game("option a on option b on var c 1 var d 1 round e end round f end")
        for text in ("option c on option b off", "var a 1 var c 2", "round a end round f pay 1 end"):
            self.assertEqual(refusal(BadEdit, before, one, read_game(text)).what, "names")
            self.assertEqual(refusal(BadEdit, before, read_game(text), one).what, "names")
        before(one, read_game("option c on var a 1 round b end"))
        self.assertEqual(refusal(BadEdit, before, one, one).what, "names")

    def test_more_than_a_text_may_have(self):
        one = read_game(" ".join([f"option o{k} on" for k in range(6)] + [f"var x{k} 2" for k in range(12)]
                                 + [f"round r{k} pay 1 end" for k in range(8)]))
        two = read_game(" ".join([f"option p{k} off" for k in range(6)] + [f"var y{k} 2" for k in range(12)]
                                 + [f"round s{k} pay 2 end" for k in range(8)]))
        found = before(one, two)
        self.assertEqual((len(found.options), len(found.variables), len(found.rounds)), (12, 24, 16))
        self.assertEqual(found.options, one.options + two.options)
        refusal(BadText, read_game, game_text(found))
        self.assertEqual(str(value(found)), "24")
        many = read_game("var x 1 round a " + "first x 1 " * 24 + "end")
        more = read_game("var y 1 round b " + "draw y 1 " * 12 + "second y 1 " * 12 + "end")
        self.assertEqual(moves_of(before(many, more)), ((1, 1),) * 24 + ((2, 1),) * 12)
        self.assertEqual(before(many, more).rounds[1][1][-1], ("move", 2, "y", 1, 35))

    def test_value(self):
        games = solvable(14, most=20)
        checked = 0
        for one, two in itertools.product(games[:7], games[7:]):
            two = renamed(two, "b")
            told = value(one) + value(two)
            for game in (before(one, two), before(two, one)):
                try:
                    found = value(game)
                except TooLarge:
                    continue
                checked += 1
                self.assertEqual(found, told)
        self.assertGreater(checked, 60)

    def test_value_of_large_trees(self):
        begin = time.monotonic()
        one = read_game("var x 2 var y 2 round a first x 2 second y 2 if = x y pay + x 1 else take 1 end end")
        two = read_game("var z 3 var w 2 round b draw z 3 show first z first w 2 draw w 7 "
                        "if = w z pay 6 else take w end end")
        three = read_game("var u 8 var v 3 round c draw u 6 show second u second v 2 draw u 4 draw v 3 "
                          "if < u v pay 5 end end")
        steady = read_game("var q 9 round d pay 4 end round e take 7 end")
        for pair, least in (((one, two), 210), ((steady, three), 200), ((two, steady), 50)):
            told = value(pair[0]) + value(pair[1])
            for game in (before(*pair), before(*pair[::-1])):
                self.assertGreater(places(tree_of(game)), least)
                self.assertEqual(value(game), told)
        wide = read_game("var u 8 round c first u 8 draw u 9 pay u end")
        game = before(wide, read_game("var v 4 round f second v 4 if v take 1 end end"))
        self.assertGreater(places(tree_of(game)), 360)
        self.assertEqual(value(game), value(wide) - Ratio(1))
        self.assertLess(time.monotonic() - begin, 60)


class SwitchedTest(unittest.TestCase):

    GAME = read_game("option a on option b off option c on var x 2 round d when a pay 1 end end")

    def test_names(self):
        for names, told in (([], "on off on"), (["a"], "off off on"), (["b"], "on on on"), (["c", "a"], "off off off"),
                            (["a", "b", "c"], "off on off"), (["c", "b", "a"], "off on off")):
            given = list(names)
            found = switched(self.GAME, given)
            self.assertEqual(given, names)
            self.assertEqual([on for _, on in found.options], [word == "on" for word in told.split()])
            self.assertTrue(all(on is True or on is False for _, on in found.options))
            self.assertEqual([name for name, _ in found.options], ["a", "b", "c"])
            self.assertEqual((found.variables, found.rounds), (self.GAME.variables, self.GAME.rounds))
            self.assertTrue(switched(found, names) == self.GAME)
        self.assertEqual([on for _, on in self.GAME.options], [True, False, True])

    def test_refusals(self):
        for names in (["x"], ["d"], ["e"], [""], ["on"], ["a", "x"], ["a", "a"], ["b", "a", "b"], ["x", "x"]):
            error = refusal(BadEdit, switched, self.GAME, names)
            self.assertEqual(error.what, "options")
        self.assertEqual(refusal(BadEdit, switched, read_game(""), ["a"]).what, "options")
        self.assertTrue(switched(read_game(""), []) == read_game(""))


def slow_least(game, names, aim):
    """The least sets, by asking all subsets of each set."""
    def reaches(chosen):
        return aim.at_most(value(switched(game, list(chosen))))
    found = []
    for size in range(len(names) + 1):
        for places_chosen in sorted(itertools.combinations(range(len(names)), size)):
            chosen = [names[k] for k in places_chosen]
            smaller = [part for many in range(size) for part in itertools.combinations(chosen, many)]
            if reaches(chosen) and not any(reaches(part) for part in smaller):
                found.append(chosen)
    return found


class LeastSwitchesTest(unittest.TestCase):

    ABC = "option a off option b off option c off round r {} end"

    def check(self, text, names, aim, *told):
        game, given = read_game(text), list(names)
        aim = Ratio(*[int(part) for part in aim.split("/")])
        found = least_switches(game, given, aim)
        self.assertIs(type(found), list)
        self.assertTrue(all(type(chosen) is list for chosen in found))
        self.assertEqual(found, [list(word) for word in told])
        self.assertEqual(given, list(names))
        self.assertEqual(game_text(game), text)
        self.assertEqual(slow_least(game, given, aim), found)

    def test_without_names(self):
        text = "option a on round r pay 3 when a pay 2 end end"
        self.check(text, [], "5", "")
        self.check(text, [], "6")
        self.check("", [], "0", "")
        self.check("", [], "1")

    def test_empty_set_reaches_the_aim(self):
        self.check(self.ABC.format("pay 5 when a pay 1 end"), "abc", "5", "")
        self.check(self.ABC.format("pay 5 when a take 1 end"), "abc", "5", "")

    def test_single_options(self):
        text = self.ABC.format("when a pay 1 end when b pay 2 end when c pay 4 end")
        self.check(text, "abc", "2", "b", "c")
        self.check(text, "cba", "2", "c", "b")
        self.check(text, "ab", "2", "b")
        self.check(text, "ac", "2", "c")
        self.check(text, "abc", "1", "a", "b", "c")
        self.check(text, "a", "2")

    def test_aim_exactly_reached_and_just_missed(self):
        text = self.ABC.format("when a pay 1 end when b pay 2 end when c pay 4 end")
        self.check(text, "abc", "3", "c", "ab")
        self.check(text, "abc", "31/10", "c")
        self.check(text, "abc", "4", "c")
        self.check(text, "abc", "5", "ac", "bc")
        self.check(text, "bca", "5", "bc", "ca")
        self.check(text, "cab", "5", "ca", "cb")
        self.check(text, "abc", "6", "bc")
        self.check(text, "abc", "7", "abc")
        self.check(text, "abc", "701/100")
        self.check(text, "abc", "-1", "")

    def test_sets_without_a_subset_that_reaches(self):
        # Only two options together pay.
        pair = "when {} when {} pay 9 end end"
        text = self.ABC.format(" ".join([pair.format("a", "b"), pair.format("b", "c")]))
        self.check(text, "abc", "9", "ab", "bc")
        self.check(text, "cba", "9", "cb", "ba")
        self.check(text, "abc", "10", "abc")
        text = self.ABC.format("when a when b when c pay 1 end end end")
        self.check(text, "abc", "1", "abc")
        self.check(text, "bac", "1", "bac")

    def test_more_options_are_not_always_better(self):
        text = self.ABC.format("when a pay 5 end when b take 9 when c pay 14 end end")
        self.check(text, "abc", "5", "a", "bc")
        self.check(text, "bca", "5", "a", "bc")
        self.check(text, "abc", "10", "abc")

    def test_options_that_are_on(self):
        text = "option a on option b on option c off round r pay 9 when a take 2 end when b take 3 end when c take 9 end end"
        self.check(text, "abc", "4", "")
        self.check(text, "abc", "6", "a", "b")
        self.check(text, "cab", "7", "b")
        self.check(text, "cba", "9", "ba")

    def test_order_of_four_options(self):
        text = ("option a off option b off option c off option d off round r when a pay 1 end when b pay 1 end "
                "when c pay 1 end when d pay 1 end end")
        self.check(text, "abcd", "2", "ab", "ac", "ad", "bc", "bd", "cd")
        self.check(text, "dbca", "2", "db", "dc", "da", "bc", "ba", "ca")
        self.check(text, "dbca", "3", "dbc", "dba", "dca", "bca")

    def test_values_of_games_with_moves(self):
        text = ("option a off option b on var x 2 var y 2 round r first x 2 when a show second x end second y 2 "
                "if = x y pay pick b 1 4 end end")
        self.check(text, "ab", "1/2", "")
        self.check(text, "ab", "51/100", "b")
        self.check(text, "ab", "2", "b")
        self.check(text, "ab", "201/100")

    def test_random_games(self):
        for seed in range(60):
            game = random_game(seed)
            names = [name for name, _ in game.options]
            try:
                values = sorted([value(switched(game, list(part))) for size in range(len(names) + 1)
                                 for part in itertools.combinations(names, size)], key=lambda one: one.num * 1000 // one.den)
            except TooLarge:
                continue
            for aim in (values[0], values[len(values) // 2], values[-1], values[-1] + Ratio(1, 7)):
                for order in (names, names[::-1], names[1:]):
                    self.assertEqual(least_switches(game, order, aim), slow_least(game, order, aim))

    def test_wrong_names(self):
        game = read_game("option a on var x 64 round r " + "draw x 64 " * 3 + "end")
        for names in (["x"], ["a", "a"], ["r"], ["a", "b"], [""]):
            self.assertEqual(refusal(BadEdit, least_switches, game, names, Ratio(0)).what, "options")

    def refused(self, text, names, what):
        self.assertEqual(refusal(TooLarge, least_switches, read_game(text), list(names), Ratio(0)).what, what)

    def test_too_large(self):
        places_too_many, rows = "draw x 64 draw x 64", "draw x 4 show first x first x 8"
        self.refused(f"option a on var x 9 round r {places_too_many} end", "", "places")
        self.refused(f"option a on var x 9 round r {rows} end", "", "rows")
        self.refused(f"option a on var x 9 round r {rows} {places_too_many} end", "", "places")
        # The first set in order whose game is too large counts, whatever is wrong with later ones.
        text = f"option a off option b off var x 9 round r when a {rows} end when b {places_too_many} end end"
        self.refused(text, "ab", "rows")
        self.refused(text, "ba", "places")
        self.refused(text, "a", "rows")
        self.refused(text, "b", "places")
        self.assertEqual(least_switches(read_game(text), [], Ratio(0)), [[]])
        # Also if a smaller set reaches the aim already.
        self.refused(text, "b", "places")
        both = f"option a off option b off var x 9 round r when a when b {places_too_many} end end end"
        self.refused(both, "ab", "places")
        self.assertEqual(least_switches(read_game(both), ["a"], Ratio(0)), [[]])
        three = (f"option a off option b off option c off var x 9 round r when a when c {rows} end end "
                 f"when b when c {places_too_many} end end end")
        self.refused(three, "abc", "rows")
        self.refused(three, "bac", "places")
        self.refused(three, "cba", "places")


if __name__ == "__main__":
    unittest.main()
