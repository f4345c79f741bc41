"""The stack machine, which runs compiled games and compiled brains."""

from sureplay.expression import OPERATORS, combine
from sureplay.tape import Tape
from sureplay.think import view_numbers
from sureplay.words import GREATEST_NUMBER


class CodeRun:
    """A code that runs on a table: its stack and the place that it has come to."""

    def __init__(self, code, table, tape):
        self._code = code
        self._tape = tape
        self.table = table
        self.stack = []
        self.place = 0

    def fetch(self):
        """The next instruction; its place is passed."""
        instruction = self._code[self.place]
        self.place += 1
        return instruction

    def do(self, name, argument):
        """Runs an instruction that rounds and brains share, except `end`; its place has been passed."""
        stack = self.stack
        if name == "push":
            stack.append(argument)
        elif name == "load":
            stack.append(self.table[argument])
        elif name == "store":
            self.table[argument] = stack.pop()
        elif name == "sign":
            right = stack.pop()
            stack.append(combine(OPERATORS[argument], stack.pop(), right))
        elif name == "lot":
            count = stack.pop()
            stack.append(self._tape.take(count) if count > 0 else 0)
        elif name == "jump" or stack.pop() == 0:
            # What is no jump is a skip here.
            self.place += argument


def think_by_code(mind, cells, view, count, tape):
    """The triple of the compiled brain's move, the values of its cells, and how many instructions ran."""
    seen = view_numbers(view)
    left = mind.units
    work = 1
    run = CodeRun(mind.code, list(cells), tape)
    name, argument = run.fetch()
    while name != "end":
        if name == "unit":
            if left == 0:
                return (0, tuple(cells), work)
            left -= 1
        elif name == "back":
            run.place -= argument + 1
        elif name == "view":
            index = run.stack.pop()
            run.stack.append(seen[index] if index < len(seen) else 0)
        elif name == "long":
            run.stack.append(min(len(seen), GREATEST_NUMBER))
        else:
            run.do(name, argument)
        name, argument = run.fetch()
        work += 1
    move = run.stack.pop()
    return (move if move < count else 0, tuple(run.table), work)


class Machine:
    """A machine that runs a compiled game with two compiled brains and a list of results of lots."""

    def __init__(self, program, first, second, results):
        self._program = program
        self._minds = (first, second)
        self._begun = 0
        self._run = None
        self.done = False
        self.steps = 0
        self.work = 0
        self.paid = 0
        self.choices = []
        self.cells = [first.cells, second.cells]
        self.table = [0 for _ in program.sizes]
        self.views = [(), ()]
        self.tape = Tape(results)
        self._begin_round()

    def step(self):
        """Runs one instruction of a round and returns True; False, and nothing else, if the machine is done."""
        if self.done:
            return False
        self.steps += 1
        name, argument = self._run.fetch()
        if name == "end":
            self._begin_round()
        elif name == "ask":
            self._ask(argument)
        elif name == "show":
            self._tell(argument, ("told", self._run.stack.pop()))
        elif name == "pay":
            self.paid += self._run.stack.pop()
        elif name == "take":
            self.paid -= self._run.stack.pop()
        else:
            self._do(name, argument)
        return True

    def go(self):
        """Runs steps until the machine is done, and returns how many it has run by then."""
        while self.step():
            pass
        return self.steps

    def _begin_round(self):
        """Begins the next round, or is done if there is none."""
        if self._begun == len(self._program.rounds):
            self.done = True
        else:
            self._run = CodeRun(self._program.rounds[self._begun], self.table, self.tape)
            self._tell(0, ("round", self._begun))
            self._begun += 1

    def _ask(self, number):
        """Lets the player of a move make it."""
        player, count = self._program.moves[number]
        seat = player - 1
        self._tell(player, ("move", number, count))
        mind = self._minds[seat]
        move, cells, work = think_by_code(mind, self.cells[seat], self.views[seat], count, self.tape)
        self.cells[seat] = cells
        self.work += work
        self.choices.append(move)
        self._tell(player, ("did", move))
        self._run.stack.append(move)

    def _do(self, name, argument):
        """Runs an instruction that rounds share with brains."""
        fallen = len(self.tape.taken)
        if name == "store":
            self._run.stack.append(self._run.stack.pop() % self._program.sizes[argument])
        self._run.do(name, argument)
        self.choices.extend([result for result, _ in self.tape.taken[fallen:]])

    def _tell(self, seat, event):
        """Shows an event to the player in this seat, or to both players if it is 0."""
        for player in (1, 2):
            if seat in (0, player):
                self.views[player - 1] = (*self.views[player - 1], event)
