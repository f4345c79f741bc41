"""The errors of the program: their base class, their attributes, and nothing between them."""

import unittest

from sureplay import errors
from sureplay.answers import all_pure
from sureplay.brain import read_brain
from sureplay.check import check_code, check_mind, check_program
from sureplay.coding import read_program
from sureplay.compose import before, least_switches, switched
from sureplay.edits import changed, read_edit
from sureplay.errors import GameError
from sureplay.exact import solve
from sureplay.gametext import read_game
from sureplay.mixing import brain_of, lots_of
from sureplay.paper import read_paper
from sureplay.plan import Plan
from sureplay.program import Mind, Program
from sureplay.ratio import Ratio, read_ratio, shares
from sureplay.space import Space, replay
from sureplay.table import average_of_brains
from sureplay.think import outcomes
from sureplay.tree import tree_of
from sureplay.walk import follow, run
from tests.support import refusal

ATTRIBUTES = {
    "BadRatio": "value", "BadText": "at", "BadPlan": "place", "TooLarge": "what", "BadMove": "at",
    "BadEdit": "what", "BadVersion": "number", "BadPaper": "place", "BadCode": "at",
}


class ErrorTest(unittest.TestCase):

    def test_base(self):
        self.assertTrue(issubclass(GameError, ValueError))
        for name in ATTRIBUTES:
            self.assertTrue(issubclass(getattr(errors, name), GameError), name)

    def test_no_class_is_a_base_of_another_one(self):
        for name in ATTRIBUTES:
            for other in ATTRIBUTES:
                if name != other:
                    self.assertFalse(issubclass(getattr(errors, name), getattr(errors, other)), (name, other))

    def test_attributes(self):
        for name, attribute in ATTRIBUTES.items():
            worth = "places" if attribute == "what" else 17
            error = getattr(errors, name)(worth)
            self.assertEqual(vars(error), {attribute: worth}, name)

    def test_defined_in_their_file(self):
        for name in ["GameError", *ATTRIBUTES]:
            self.assertEqual(getattr(errors, name).__module__, "sureplay.errors")

    def test_each_one_can_be_caught_as_a_game_error(self):
        for name in ATTRIBUTES:
            with self.assertRaises(GameError):
                raise getattr(errors, name)(0)

    def test_message_of_an_endless_number(self):
        self.assertTrue(str(errors.BadRatio(10 ** 5000)))


class RaisedTest(unittest.TestCase):
    """Each of the nine errors, raised by the program: exactly its class, with its attribute."""

    def check(self, name, worth, call, *arguments):
        kind = getattr(errors, name)
        error = refusal(kind, call, *arguments)
        self.assertIs(type(error), kind)
        self.assertIsInstance(error, GameError)
        self.assertIsInstance(error, ValueError)
        self.assertEqual(vars(error), {ATTRIBUTES[name]: worth})

    def test_bad_ratio(self):
        self.check("BadRatio", 7, Ratio, 7, 0)
        self.check("BadRatio", 3, Ratio(3, 4).over, Ratio(0))
        self.check("BadRatio", 1, shares, [Ratio(1), Ratio(-1)])

    def test_bad_text(self):
        self.check("BadText", 0, read_ratio, "2/4")
        self.check("BadText", 2, read_game, "round a set x 1 end")
        self.check("BadText", 2, read_brain, "player 5 lot a 2 answer 0")
        self.check("BadText", 1, read_edit, "put")
        self.check("BadText", 3, changed, read_game("var x 2 round a pay x end"), ("drop", "var", "x"))
        self.check("BadText", 1, Space(read_game("")).edit, ("put", "var"))
        self.check("BadText", 0, replay, read_game(""), ["x"])

    def test_bad_plan(self):
        self.check("BadPlan", 1, Plan, [((), [Ratio(1)]), ((), [Ratio(1)])])

    def test_too_large(self):
        wide = read_game("option o on var x 64 round a draw x 64 draw x 64 end")
        forked = read_game("var x 8 round a draw x 4 show first x first x 8 end")
        brain = read_brain("player 9 keep a 0 lot a 500 answer 0")
        twenty = read_game("var x 8 round a " + "draw x 2 show first x first x 8 show first x " + "end")
        self.check("TooLarge", "places", tree_of, wide)
        self.check("TooLarge", "places", run, wide, [99])
        self.check("TooLarge", "places", Space(wide).value, 0)
        self.check("TooLarge", "places", Space(wide).worth, Ratio(0))
        self.check("TooLarge", "places", least_switches, wide, ["o"], Ratio(0))
        self.check("TooLarge", "rows", solve, tree_of(forked))
        self.check("TooLarge", "rows", Space(forked).value, 0)
        self.check("TooLarge", "plans", all_pure, tree_of(forked), 1)
        self.check("TooLarge", "lots", outcomes, brain, (0,), (), 2)
        self.check("TooLarge", "lots", lots_of, brain, tree_of(twenty), 1)
        self.check("TooLarge", "lots", average_of_brains, twenty, brain, brain)
        minds = read_brain("player 9 keep a 0 keep b 0 lot a 200 lot b 1 answer 0")
        more = read_game("var x 8 round a first x 8 first x 8 end")
        self.check("TooLarge", "minds", lots_of, read_brain("player 9 keep a 0 keep b 0 lot b 2 set a + * a 2 b lot b 100 "
                                                            "answer 0"), tree_of(more), 1)
        self.assertEqual(len(lots_of(minds, tree_of(read_game("var x 8 round a first x 8 end")), 1).entries()), 1)
        lots = [Ratio(1, 65536), Ratio(65535, 65536)]
        view = (("round", 0), ("move", 0, 2))
        self.check("TooLarge", "lots", brain_of, Plan([(view, lots)]), tree_of(read_game("var x 2 round a first x 2 end")), 1)
        long = read_game("var x 2 round a " + "show first 1 " * 10920 + "first x 2 end")
        self.check("TooLarge", "units", brain_of, Plan([]), tree_of(long), 1)
        space = replay(read_game("option o on"), ["switch o on"] * 63)
        self.check("TooLarge", "versions", space.edit, ("back", 0))

    def test_bad_move(self):
        game = read_game("var x 2 round a draw x 2 end")
        self.check("BadMove", 0, run, game, [2])
        self.check("BadMove", 1, follow, tree_of(game), [1, 0])

    def test_bad_edit(self):
        game = read_game("option o on")
        self.check("BadEdit", "sort", changed, game, ("put", "x"))
        self.check("BadEdit", "name", changed, game, ("drop", "option", "p"))
        self.check("BadEdit", "names", before, game, game)
        self.check("BadEdit", "options", switched, game, ["p"])
        self.check("BadEdit", "options", least_switches, game, ["o", "o"], Ratio(0))
        self.check("BadEdit", "name", Space(game).edit, ("switch", "p", True))

    def test_bad_version(self):
        space = Space(read_game(""))
        self.check("BadVersion", 1, space.version, 1)
        self.check("BadVersion", -1, space.value, -1)
        self.check("BadVersion", 7, space.edit, ("back", 7))
        self.check("BadVersion", 1, replay, read_game(""), ["back 1", "back 3"])

    def test_bad_paper(self):
        self.check("BadPaper", 0, read_paper, tree_of(read_game("")), ["1"])

    def test_bad_code(self):
        self.check("BadCode", 1, check_code, [("push", 1), ("end", 0)], 0, 0)
        self.check("BadCode", 0, check_program, Program((), (), ([],)))
        self.check("BadCode", 2, check_mind, Mind(1, (), [("push", 1), ("push", 1), ("end", 0)]))
        self.check("BadCode", 4, read_program, [0, 0, 1, 1, 16, 0])


if __name__ == "__main__":
    unittest.main()
