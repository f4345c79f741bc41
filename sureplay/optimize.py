"""Faster code, which does the same as the code of points 85 to 87."""

from sureplay.code import brain_code, round_code
from sureplay.fold import fold_block, fold_expression
from sureplay.instructions import places_behind
from sureplay.program import Mind, Program, program_of


def thread_jumps(code):
    """The code in which no jump and no skip leads to a jump by its argument."""
    goals = _goals(code)
    threaded = []
    for place, (name, argument) in enumerate(code):
        goal = goals[place]
        if name == "jump" and code[goal][0] == "end":
            threaded.append(("end", 0))
        elif name == "jump":
            threaded.append((name, goal - place - 1))
        elif name == "skip":
            threaded.append((name, goals[place + 1 + argument] - place - 1))
        else:
            threaded.append((name, argument))
    return threaded


def _goals(code):
    """For each place, the first place that holds no jump, itself or on the way on from it."""
    goals = {}
    for place in reversed(range(len(code))):
        name, argument = code[place]
        goals[place] = goals[place + 1 + argument] if name == "jump" else place
    return goals


def optimize_code(code):
    """A code that does the same as a code that passes, in at most as many instructions and steps."""
    before = []
    after = [(name, argument) for name, argument in code]
    while after != before:
        before = after
        short = _with_shortcuts(before)
        after = _without_idle_places(thread_jumps(short if _has_whole_loops(short) else before))
    return after


def _with_shortcuts(code):
    """The code in which jumps lead past two instructions that do nothing, or that always lead to the same place."""
    changed = []
    for place, (name, argument) in enumerate(code):
        behind = code[place + 1] if name in ("push", "load") else None
        if name == "load" and behind == ("store", argument):
            changed.append(("jump", 1))
        elif name == "push" and behind[0] == "skip":
            changed.append(("jump", 1 if argument > 0 else 1 + behind[1]))
        else:
            changed.append((name, argument))
    return changed


def _has_whole_loops(code):
    """True if each `back` leads to a place that a place before it leads to, too: the check wants that.

    A shortcut may take away the only way into a loop but its `back`, if the code was not made from a brain.
    """
    used = _used_places(code)
    return all([place - code[place][1] in used for place in used if code[place][0] == "back"])


def _used_places(code):
    """A dict of the places that the code comes to without its `back`s."""
    used = {0: True}
    for place in range(len(code)):
        if place in used:
            for target in places_behind(code, place):
                used[target] = True
    return used


def _without_idle_places(code):
    """The code without the places that nothing leads to, and without the jumps to the next place."""
    used = _used_places(code)
    # For each place, how many places stay before it.
    numbers = {}
    rest = []
    for place, instruction in enumerate(code):
        numbers[place] = len(rest)
        if place in used and instruction != ("jump", 0):
            rest.append(place)
    return [_moved(code[place], place, numbers) for place in rest]


def _moved(instruction, place, numbers):
    """The instruction with the argument that it has if its place and those that it leads to get new numbers."""
    name, argument = instruction
    if name == "back":
        return (name, numbers[place] - numbers[place - argument])
    if name in ("jump", "skip"):
        return (name, numbers[place + 1 + argument] - numbers[place] - 1)
    return instruction


def fast_program(game):
    """The faster compiled game."""
    plain = program_of(game)
    slots = tuple([name for name, _ in game.variables])
    on = dict(game.options)
    codes = [optimize_code(round_code(fold_block(block, on), slots, on)) for _, block in game.rounds]
    return Program(plain.sizes, plain.moves, codes)


def fast_mind(brain):
    """The faster compiled brain."""
    slots = tuple([name for name, _ in brain.cells])
    code = brain_code(_fold_thinking(brain.block), fold_expression(brain.answer, {}), slots)
    return Mind(brain.units, brain.start(), optimize_code(code))


def _fold_thinking(block):
    """The block of a brain with folded expressions. All its statements stay, because each takes a unit of work."""
    folded = []
    for statement in block:
        kind = statement[0]
        if kind in ("set", "lot"):
            folded.append((kind, statement[1], fold_expression(statement[2], {})))
        else:
            # Behind the expression of an `if` stand two blocks, behind that of a `while` stands one.
            inner = [_fold_thinking(part) for part in statement[2:]]
            folded.append((kind, fold_expression(statement[1], {}), *inner))
    return tuple(folded)
