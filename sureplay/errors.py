"""All errors that the program raises, one class for each kind of failure."""


class GameError(ValueError):
    """The base class of all errors that the program raises."""


class BadRatio(GameError):
    """A number would be divided by zero."""

    def __init__(self, value):
        # The value may have more digits than Python writes out, so the message leaves it out.
        super().__init__("a number cannot be divided by zero")
        self.value = value


class BadText(GameError):
    """A text does not fit from one word on."""

    def __init__(self, at):
        super().__init__(f"the text does not fit at word {at}")
        self.at = at


class BadPlan(GameError):
    """An entry of a plan is invalid."""

    def __init__(self, place):
        super().__init__(f"entry {place} of the plan is invalid")
        self.place = place


class TooLarge(GameError):
    """There is too much of something to go on."""

    def __init__(self, what):
        super().__init__(f"too many {what}")
        self.what = what


class BadMove(GameError):
    """A way through a game has an entry that is not possible."""

    def __init__(self, at):
        super().__init__(f"entry {at} of the way is not possible")
        self.at = at


class BadEdit(GameError):
    """A game cannot be changed as asked."""

    def __init__(self, what):
        super().__init__(f"the edit is refused: {what}")
        self.what = what


class BadVersion(GameError):
    """A workspace has no version with this number."""

    def __init__(self, number):
        super().__init__(f"there is no version {number}")
        self.number = number


class BadPaper(GameError):
    """A line of a paper is wrong, missing or left over."""

    def __init__(self, place):
        super().__init__(f"line {place} of the paper does not fit")
        self.place = place


class BadCode(GameError):
    """A code or a list of numbers is refused from one place on."""

    def __init__(self, at):
        super().__init__(f"the code does not pass at place {at}")
        self.at = at
