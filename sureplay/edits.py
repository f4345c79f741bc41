"""Edits of games, and the lines that write them."""

from sureplay.errors import BadEdit, BadText
from sureplay.gametext import pieces_of, read_game
from sureplay.words import Cursor, GREATEST_NUMBER, join_words, split_words

# The sorts of pieces, in the order in which they stand in a text.
SORTS = ("option", "var", "round")


def changed(game, change):
    """The game after an edit; BadEdit, or BadText if its pieces write no game."""
    pieces = pieces_of(game)
    kind = change[0]
    if kind == "put":
        after = _put(pieces, change[1])
    elif kind == "drop":
        after = _dropped(pieces, change[1], change[2])
    else:
        after = _switched(pieces, change[1], change[2])
    return read_game(join_words(after))


def _put(pieces, text):
    """The pieces with a text in the place of the piece of its sort and name, or else behind those of its sort."""
    words = split_words(text)
    if not words or words[0] not in SORTS:
        raise BadEdit("sort")
    at = _find(pieces, words[0], words[1]) if len(words) > 1 else None
    if at is not None:
        return [*pieces[:at], text, *pieces[at + 1:]]
    place = SORTS.index(words[0])
    behind = len([piece for piece in pieces if SORTS.index(split_words(piece)[0]) <= place])
    return [*pieces[:behind], text, *pieces[behind:]]


def _dropped(pieces, sort, name):
    """The pieces without the one of this sort and name."""
    if sort not in SORTS:
        raise BadEdit("sort")
    at = _find(pieces, sort, name)
    if at is None:
        raise BadEdit("name")
    return [*pieces[:at], *pieces[at + 1:]]


def _switched(pieces, name, on):
    """The pieces with the option of this name on or off."""
    if _find(pieces, "option", name) is None:
        raise BadEdit("name")
    return _put(pieces, join_words(["option", name, "on" if on else "off"]))


def _find(pieces, sort, name):
    """The index of the piece of this sort and name, or None."""
    for at, piece in enumerate(pieces):
        if split_words(piece)[:2] == [sort, name]:
            return at
    return None


def changes(old, new):
    """The edits that lead from one game to another: drops of what differs, the last piece first, and then puts."""
    pieces = pieces_of(old)
    others = pieces_of(new)
    same = 0
    while same < min(len(pieces), len(others)) and pieces[same] == others[same]:
        same += 1
    found = []
    for piece in pieces[same:][::-1]:
        words = split_words(piece)
        found.append(("drop", words[0], words[1]))
    found.extend([("put", piece) for piece in others[same:]])
    return found


def edit_text(change):
    """The line of an edit."""
    kind = change[0]
    if kind == "switch":
        return join_words([kind, change[1], "on" if change[2] else "off"])
    if kind == "back":
        return join_words([kind, str(change[1])])
    return join_words(change)


def read_edit(line):
    """The edit that a line writes; BadText at the first word that does not fit."""
    kind, space, text = line.partition(" ")
    if kind == "put" and space == " ":
        return ("put", text)
    cursor = Cursor(split_words(line))
    change = _read_short(cursor)
    if cursor.word is not None:
        raise BadText(cursor.at)
    return change


def _read_short(cursor):
    """Reads an edit whose line has a fixed number of words."""
    kind = cursor.take_name(("put", "drop", "switch", "back"))
    if kind == "put":
        # Here the line ends behind its first word, so that the space is missing.
        raise BadText(cursor.at)
    if kind == "back":
        return (kind, cursor.take_number(0, GREATEST_NUMBER))
    if kind == "drop":
        sort = cursor.take_name(SORTS)
        return (kind, sort, cursor.take_new_name(()))
    name = cursor.take_new_name(())
    return (kind, name, cursor.take_name(("on", "off")) == "on")
