"""The instructions of the stack machine."""

# The index of a name here is its number in the whole numbers that write a program.
NAMES = (
    "push", "load", "store", "sign", "jump", "skip", "lot", "end",
    "ask", "show", "pay", "take", "view", "long", "unit", "back",
)

COMMON_NAMES = ("push", "load", "store", "sign", "jump", "skip", "lot", "end")

ROUND_NAMES = ("ask", "show", "pay", "take")

BRAIN_NAMES = ("view", "long", "unit", "back")

# How many values an instruction pops, and then how many it pushes.
POPS = {
    "push": 0, "load": 0, "store": 1, "sign": 2, "jump": 0, "skip": 1, "lot": 1, "end": 0,
    "ask": 0, "show": 1, "pay": 1, "take": 1, "view": 1, "long": 0, "unit": 0, "back": 0,
}

PUSHES = {
    "push": 1, "load": 1, "store": 0, "sign": 1, "jump": 0, "skip": 0, "lot": 1, "end": 0,
    "ask": 1, "show": 0, "pay": 0, "take": 0, "view": 1, "long": 1, "unit": 0, "back": 0,
}


def places_behind(code, place):
    """The later places that the instruction at this place of a code leads to."""
    name, argument = code[place]
    if name in ("end", "back"):
        return []
    if name == "jump":
        return [place + 1 + argument]
    if name == "skip":
        return [place + 1, place + 1 + argument]
    return [place + 1]
