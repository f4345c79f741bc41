"""A second way to tell where a text stops being the beginning of a game or a brain: a stack of what is to come."""

OPERATORS = ("+", "-", "*", "/", "mod", "<", "=")

KEY_WORDS = OPERATORS + tuple(
    "option on off var round end set if else when draw first second show both pay take pick player "
    "keep lot while answer view long".split())

# What may still come when a text is complete.
OPEN_ENDS = ("options", "variables", "rounds")

# What may also be left out.
SKIPPED = OPEN_ENDS + ("statements", "else", "keeps")


def first_misfit(words):
    """The index at which the words are refused, or None if they write a game."""
    return misfit(State(), words)


def first_misfit_of_brain(words):
    """The index at which the words are refused, or None if they write a brain."""
    return misfit(BrainState(), words)


def misfit(state, words):
    for at, word in enumerate(words):
        if not state.accepts(word):
            return at
    return None if state.is_complete() else len(words)


def is_number(word, least, most):
    return word in [str(number) for number in range(least, most + 1)] if most < 100 else (
        word.isascii() and word.isdigit() and len(word) < 6 and str(int(word)) == word and least <= int(word) <= most)


class State:
    """What may still come behind the words so far; the next thing stands last."""

    def __init__(self):
        self.goals = [("rounds",), ("variables",), ("options",)]
        self.names = {"option": [], "var": [], "round": []}
        self.choices = 0

    def is_complete(self):
        return all(goal[0] in OPEN_ENDS for goal in self.goals)

    def accepts(self, word):
        while self.goals:
            kind, *parts = self.goals.pop()
            behind = getattr(self, "on_" + kind)(word, *parts)
            if behind is not None:
                self.goals += reversed(behind)
                return True
            if kind not in SKIPPED:
                return False
        return False

    def on_options(self, word):
        if word == "option" and len(self.names["option"]) < 6:
            return [("new", "option"), ("one", ("on", "off")), ("options",)]

    def on_variables(self, word):
        if word == "var" and len(self.names["var"]) < 12:
            return [("new", "var"), ("number", 1, 65535), ("variables",)]

    def on_rounds(self, word):
        if word == "round" and len(self.names["round"]) < 8:
            return [("new", "round"), ("statements", 1), ("one", ("end",)), ("rounds",)]

    def on_new(self, word, sort):
        fits = (1 <= len(word) <= 12 and word not in KEY_WORDS and word not in self.names[sort]
                and word.isascii() and word.isalnum() and word == word.lower() and not word[0].isdigit())
        if fits:
            self.names[sort].append(word)
            return []

    def on_one(self, word, words):
        return [] if word in words else None

    def on_number(self, word, least, most):
        return [] if is_number(word, least, most) else None

    def on_expression(self, word, room):
        part = ("expression", room - 1)
        if word in self.names["var"] or is_number(word, 0, 65535):
            return []
        if room > 1 and word in OPERATORS:
            return [part, part]
        if room > 1 and word == "pick" and self.names["option"]:
            return [("one", self.names["option"]), part, part]

    def on_statements(self, word, depth):
        behind = self.on_statement(word, depth)
        return None if behind is None else [*behind, ("statements", depth)]

    def on_statement(self, word, depth):
        expression, variable = ("expression", 12), ("one", self.names["var"])
        if word in ("pay", "take"):
            return [expression]
        if word == "show":
            return [("one", ("first", "second", "both")), expression]
        if word == "if" and depth <= 8:
            return [expression, ("statements", depth + 1), ("else", depth + 1), ("one", ("end",))]
        if word == "when" and depth <= 8 and self.names["option"]:
            return [("one", self.names["option"]), ("statements", depth + 1), ("else", depth + 1), ("one", ("end",))]
        if word == "set" and self.names["var"]:
            return [variable, expression]
        if word in ("draw", "first", "second") and self.names["var"] and self.choices < 24:
            self.choices += 1
            return [variable, ("number", 1, 64 if word == "draw" else 8)]

    def on_else(self, word, depth):
        return [("statement", depth), ("statements", depth)] if word == "else" else None


class BrainState(State):
    """What may still come behind the first words of a brain."""

    def __init__(self):
        super().__init__()
        self.goals = [("expression", 12), ("one", ("answer",)), ("statements", 1), ("keeps",),
                      ("number", 1, 65535), ("one", ("player",))]
        self.names = {"keep": []}

    def on_keeps(self, word):
        if word == "keep" and len(self.names["keep"]) < 8:
            return [("new", "keep"), ("number", 0, 65535), ("keeps",)]

    def on_expression(self, word, room):
        part = ("expression", room - 1)
        if word in self.names["keep"] or word == "long" or is_number(word, 0, 65535):
            return []
        if room > 1 and word in OPERATORS:
            return [part, part]
        if room > 1 and word == "view":
            return [part]

    def on_statement(self, word, depth):
        if word in ("set", "lot") and self.names["keep"]:
            return [("one", self.names["keep"]), ("expression", 12)]
        inner = [("expression", 12), ("statements", depth + 1)]
        if word == "while" and depth <= 8:
            return [*inner, ("one", ("end",))]
        if word == "if" and depth <= 8:
            return [*inner, ("else", depth + 1), ("one", ("end",))]
