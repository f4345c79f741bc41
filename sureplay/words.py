"""Words of a text, names and numbers, and the place of a reader among words."""

from sureplay.errors import BadText

KEY_WORDS = (
    "option", "on", "off", "var", "round", "end", "set", "if", "else", "when", "draw", "first", "second",
    "show", "both", "pay", "take", "pick", "mod", "player", "keep", "lot", "while", "answer", "view", "long",
)

LETTERS = "abcdefghijklmnopqrstuvwxyz"

LETTERS_AND_DIGITS = "abcdefghijklmnopqrstuvwxyz0123456789"

LONGEST_NAME = 12

LONGEST_NUMBER = 5

GREATEST_NUMBER = 65535


def split_words(text):
    """The words of a text: the parts between single spaces."""
    if text == "":
        return []
    return text.split(" ")


def join_words(words):
    """The text in which one space stands between two words."""
    return " ".join(words)


def is_name(word):
    """True if the word is a name, which a key word is not."""
    if not 1 <= len(word) <= LONGEST_NAME or word in KEY_WORDS:
        return False
    return word[0] in LETTERS and all([sign in LETTERS_AND_DIGITS for sign in word])


def number_of(word):
    """The number that the word writes, or None if it is not a number."""
    if len(word) > LONGEST_NUMBER or not word.isascii() or not word.isdigit():
        return None
    number = int(word)
    if number > GREATEST_NUMBER or str(number) != word:
        return None
    return number


class Cursor:
    """A place in a list of words, with the names that are known there."""

    def __init__(self, words, *, options=(), variables=(), sees=False):
        self._words = list(words)
        self.options = tuple(options)
        self.variables = tuple(variables)
        self.sees = sees
        self.at = 0

    @property
    def word(self):
        """The next word, or None behind the last one."""
        if self.at < len(self._words):
            return self._words[self.at]
        return None

    def take_word(self, word):
        """Passes the next word, which must be the given one."""
        self._pass_if(self.word == word)

    def take_number(self, least, most):
        """Passes the next word, a number from `least` to `most`, and returns that number."""
        word = self.word
        number = None if word is None else number_of(word)
        self._pass_if(number is not None and least <= number <= most)
        return number

    def take_name(self, names):
        """Passes the next word, one of the given words, and returns it."""
        word = self.word
        self._pass_if(word is not None and word in names)
        return word

    def take_new_name(self, names):
        """Passes the next word, a name that is none of the given ones, and returns it."""
        word = self.word
        self._pass_if(word is not None and is_name(word) and word not in names)
        return word

    def _pass_if(self, fits):
        if not fits:
            raise BadText(self.at)
        self.at += 1
