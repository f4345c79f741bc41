"""Games: read from texts, and written as texts."""

from sureplay.errors import BadText
from sureplay.statement import BlockReader, block_moves, block_words
from sureplay.words import Cursor, GREATEST_NUMBER, join_words, split_words

MOST_OPTIONS = 6

MOST_VARIABLES = 12

MOST_ROUNDS = 8


class Game:
    """A game: options with their state, variables with their size, rounds with their block."""

    def __init__(self, options, variables, rounds):
        self.options = tuple([(name, on) for name, on in options])
        self.variables = tuple([(name, size) for name, size in variables])
        self.rounds = tuple([(name, tuple(block)) for name, block in rounds])

    def __eq__(self, other):
        return (isinstance(other, Game) and self.options == other.options
                and self.variables == other.variables and self.rounds == other.rounds)


def read_game(text):
    """The Game that a text writes; BadText at the first word that does not fit."""
    words = split_words(text)
    head = Cursor(words)
    options = _read_options(head)
    variables = _read_variables(head)
    # The names are known to the rounds only, and a Cursor knows its names from the beginning.
    cursor = Cursor(words, options=_names(options), variables=_names(variables))
    cursor.at = head.at
    rounds = _read_rounds(cursor)
    if cursor.word is not None:
        raise BadText(cursor.at)
    return Game(options, variables, rounds)


def _names(pairs):
    return [pair[0] for pair in pairs]


def _read_options(cursor):
    options = []
    while cursor.word == "option" and len(options) < MOST_OPTIONS:
        cursor.take_word("option")
        name = cursor.take_new_name(_names(options))
        options.append((name, cursor.take_name(("on", "off")) == "on"))
    return options


def _read_variables(cursor):
    variables = []
    while cursor.word == "var" and len(variables) < MOST_VARIABLES:
        cursor.take_word("var")
        name = cursor.take_new_name(_names(variables))
        variables.append((name, cursor.take_number(1, GREATEST_NUMBER)))
    return variables


def _read_rounds(cursor):
    rounds = []
    # One reader for all rounds, because draws and moves are counted over all of them.
    reader = BlockReader(cursor)
    while cursor.word == "round" and len(rounds) < MOST_ROUNDS:
        cursor.take_word("round")
        name = cursor.take_new_name(_names(rounds))
        rounds.append((name, reader.read_block(0)))
        cursor.take_word("end")
    return rounds


def pieces_of(game):
    """The list of the texts of the options, the variables and the rounds, in order."""
    pieces = []
    for name, on in game.options:
        pieces.append(join_words(["option", name, "on" if on else "off"]))
    for name, size in game.variables:
        pieces.append(join_words(["var", name, str(size)]))
    for name, block in game.rounds:
        pieces.append(join_words(["round", name, *block_words(block), "end"]))
    return pieces


def game_text(game):
    """The text of a game."""
    return join_words(pieces_of(game))


def moves_of(game):
    """The pairs (player, N) for the moves of the game, in the order of their numbers."""
    found = []
    for pair in game.rounds:
        found.extend(block_moves(pair[1]))
    return tuple([(move[1], move[2]) for move in sorted(found)])
