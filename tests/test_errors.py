"""The errors of the program: their base class, their attributes, and nothing between them."""

import unittest

from sureplay import errors
from sureplay.errors import GameError

ATTRIBUTES = {
    "BadRatio": "value", "BadText": "at", "BadPlan": "place", "TooLarge": "what", "BadMove": "at",
    "BadEdit": "what", "BadVersion": "number", "BadPaper": "place", "BadCode": "at",
}


class ErrorTest(unittest.TestCase):

    def test_base(self):
        self.assertTrue(issubclass(GameError, ValueError))
        for name in ATTRIBUTES:
            self.assertTrue(issubclass(getattr(errors, name), GameError), name)

    def test_no_class_is_a_base_of_another_one(self):
        for name in ATTRIBUTES:
            for other in ATTRIBUTES:
                if name != other:
                    self.assertFalse(issubclass(getattr(errors, name), getattr(errors, other)), (name, other))

    def test_attributes(self):
        for name, attribute in ATTRIBUTES.items():
            worth = "places" if attribute == "what" else 17
            error = getattr(errors, name)(worth)
            self.assertEqual(vars(error), {attribute: worth}, name)

    def test_defined_in_their_file(self):
        for name in ["GameError", *ATTRIBUTES]:
            self.assertEqual(getattr(errors, name).__module__, "sureplay.errors")

    def test_each_one_can_be_caught_as_a_game_error(self):
        for name in ATTRIBUTES:
            with self.assertRaises(GameError):
                raise getattr(errors, name)(0)

    def test_message_of_an_endless_number(self):
        self.assertTrue(str(errors.BadRatio(10 ** 5000)))


if __name__ == "__main__":
    unittest.main()
