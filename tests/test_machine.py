"""The stack machine: points 74 to 78, 85, 86, 89, 90 and 92."""

import random
import time
import unittest

from sureplay.brain import read_brain
from sureplay.check import check_code, longest
from sureplay.gametext import read_game
from sureplay.machine import Machine, think_by_code
from sureplay.program import Mind, Program, mind_of, program_of
from sureplay.table import play
from sureplay.tape import Tape
from sureplay.think import think
from tests.boards import CodeWriter, SlowPlay, random_brain, random_matches
from tests.minds import SlowThought

END, UNIT = ("end", 0), ("unit", 0)

ZERO = Mind(1, (), [("push", 0), END])

FIELDS = ("done", "steps", "work", "paid", "choices", "cells", "table", "views")

VIEW = (("round", 0), ("told", 40), ("move", 2, 4))


def state(machine):
    """What the fields of a machine are, its tape as what it has given."""
    return {**{name: getattr(machine, name) for name in FIELDS}, "taken": list(machine.tape.taken)}


def machine_of(text, first="player 1 answer 0", second="player 1 answer 0", results=()):
    minds = [mind_of(read_brain(brain)) for brain in (first, second)]
    return Machine(program_of(read_game(text)), *minds, list(results))


class ThinkTest(unittest.TestCase):

    def check(self, code, *told, cells=(), units=9, view=VIEW, count=4, results=()):
        """The code leads to this move, these cells and this many instructions; the lots are returned."""
        mind = Mind(units, cells, code)
        check_code(code, len(cells), 0, thinking=True)
        tape = Tape(results)
        found = think_by_code(mind, cells, view, count, tape)
        self.assertEqual(found, told)
        self.assertIs(type(found), tuple)
        self.assertIs(type(found[1]), tuple)
        self.assertEqual(mind, Mind(units, cells, code))
        return tape.taken


class InstructionTest(ThinkTest):

    def test_push_load_store(self):
        self.check([("push", 3), END], 3, (), 2)
        self.check([("load", 1), END], 2, (1, 2), 2, cells=(1, 2))
        self.check([("push", 65535), ("store", 0), ("load", 1), END], 2, (65535, 2), 4, cells=(1, 2))

    def test_cells_need_not_be_the_first_values(self):
        mind = Mind(9, (1, 2), [("load", 1), ("store", 0), ("load", 0), END])
        self.assertEqual(think_by_code(mind, (0, 3), VIEW, 4, Tape([])), (3, (3, 3), 4))

    def test_sign(self):
        for number, value in enumerate((9, 5, 14, 3, 1, 0, 0)):
            self.check([("push", 7), ("push", 2), ("sign", number), END], value, (), 4, count=99)
        self.check([("push", 2), ("push", 7), ("sign", 1), END], 0, (), 4)
        self.check([("push", 2), ("push", 7), ("sign", 5), END], 1, (), 4)
        self.check([("push", 65535), ("push", 3), ("sign", 0), END], 2, (), 4)
        self.check([("push", 65535), ("push", 0), ("sign", 3), END], 0, (), 4)

    def test_jump_and_skip(self):
        code = [("load", 0), ("skip", 2), ("push", 1), ("jump", 1), ("push", 2), END]
        self.check(code, 1, (7,), 5, cells=(7,))
        self.check(code, 2, (0,), 4, cells=(0,))
        self.check([("load", 0), ("skip", 0), ("push", 1), END], 1, (0,), 4, cells=(0,))

    def test_lot(self):
        code = [("push", 5), ("lot", 0), END]
        self.assertEqual(self.check(code, 3, (), 3, results=[8, 1]), [(3, 5)])
        self.assertEqual(self.check(code, 0, (), 3), [(0, 5)])
        self.assertEqual(self.check([("push", 0), ("lot", 0), END], 0, (), 3, results=[8]), [])
        self.assertEqual(self.check([("push", 1), ("lot", 0), END], 0, (), 3, results=[8]), [(0, 1)])

    def test_view_and_long(self):
        for index, number in enumerate((1, 0, 0, 2, 40, 0, 3, 2, 4, 0, 0)):
            self.check([("push", index), ("view", 0), END], number, (), 3, count=99)
        self.check([("push", 65535), ("view", 0), END], 0, (), 3)
        self.check([("long", 0), END], 9, (), 2, count=10)
        self.check([("long", 0), END], 0, (), 2, view=())
        for events, told in ((21844, 65532), (21845, 65535), (21846, 65535)):
            self.check([("long", 0), ("store", 0), ("push", 1), END], 1, (told,), 4, cells=(0,),
                       view=(("told", 5),) * events)
        self.check([("push", 65535), ("view", 0), END], 2, (), 3, view=(("told", 5),) * 21845 + (("told", 6),))

    def test_move_out_of_range(self):
        self.check([("push", 4), END], 0, (), 2)
        self.check([("push", 7), ("store", 0), ("load", 0), END], 0, (7,), 4, cells=(5,))

    def test_units(self):
        code = [UNIT, ("push", 7), ("store", 0), UNIT, ("push", 2), END]
        self.check(code, 2, (7,), 6, cells=(5,), units=2)
        # The second unit, at which the brain becomes silent, has run as well.
        self.check(code, 0, (5,), 4, cells=(5,), units=1)

    def test_back(self):
        code = [UNIT, ("load", 0), ("push", 3), ("sign", 5), ("skip", 5), ("load", 0), ("push", 1), ("sign", 0),
                ("store", 0), ("back", 9), ("load", 0), END]
        self.check(code, 3, (3,), 37, cells=(0,), units=4)
        self.check(code, 0, (0,), 31, cells=(0,), units=3)
        self.check(code, 3, (3,), 7, cells=(3,), units=1)

    def test_silent(self):
        self.check([UNIT, ("push", 3), ("lot", 0), ("store", 0), ("back", 4)], 0, (5,), 16, cells=(5,), units=3)
        taken = self.check([UNIT, ("push", 3), ("lot", 0), ("store", 0), ("back", 4)], 0, (5,), 16, cells=(5,), units=3,
                           results=[4, 5, 6, 7])
        self.assertEqual(taken, [(1, 3), (2, 3), (0, 3)])

    def test_a_stack_that_is_not_empty_in_loops(self):
        self.check([("push", 3), UNIT, ("load", 0), ("skip", 3), ("push", 0), ("store", 0), ("back", 5), END],
                   3, (0,), 11, cells=(1,))


class CompiledThinkTest(unittest.TestCase):

    def test_same_as_think(self):
        choose = random.Random(11)
        silent = 0
        for seed in range(600):
            brain = random_brain(seed)
            mind = mind_of(brain)
            cells = tuple(choose.choice([0, 1, 2, 65535]) for _ in brain.cells)
            results = [choose.randint(0, 9) for _ in range(choose.randint(0, 6))]
            view = choose.choice([(), VIEW, VIEW + (("did", 3), ("round", 1), ("move", 5, 4))])
            tapes = [Tape(results), Tape(results)]
            move, after, work = think_by_code(mind, cells, view, 4, tapes[0])
            self.assertEqual((move, after), think(brain, cells, view, 4, tapes[1]))
            self.assertEqual(tapes[0].taken, tapes[1].taken)
            slow = SlowThought(brain, cells, view, 4, results)
            self.assertEqual((move, after), (slow.move, slow.cells))
            found, silently = slow_work(mind, cells, view, results)
            self.assertEqual(work, found)
            silent += silently
        self.assertGreater(silent, 50)

    def test_units_at_which_a_brain_becomes_silent(self):
        body = "keep a 0 while < a 3 set a + a 1 end answer a"
        for units in range(1, 12):
            brain = read_brain(f"player {units} {body}")
            found = think_by_code(mind_of(brain), (0,), VIEW, 4, Tape([]))
            self.assertEqual(found[:2], think(brain, (0,), VIEW, 4, Tape([])))
            # One round of the loop has five instructions, five in its statement, and the way back.
            self.assertEqual(found[0], 3 if units >= 7 else 0)

    def test_long_loops(self):
        begin = time.monotonic()
        text = "player 65535 keep a 3 keep b 2 while {} set a + a 1 set b * + a b 3 end answer 1"
        brain = read_brain(text.format("1"))
        move, cells, work = think_by_code(mind_of(brain), brain.start(), VIEW, 4, Tape([]))
        self.assertEqual((move, cells), (0, (3, 2)))
        # 21845 times the loop of 16 instructions with its three units; then it is silent.
        self.assertEqual(work, 21845 * 16 + 1)
        brain = read_brain(text.format("< a 20000"))
        found = think_by_code(mind_of(brain), brain.start(), VIEW, 4, Tape([]))
        self.assertEqual(found[:2], think(brain, brain.start(), VIEW, 4, Tape([])))
        self.assertEqual(found[0], 1)
        brain = read_brain("player 65535 while 1 end answer 1")
        self.assertEqual(think_by_code(mind_of(brain), (), VIEW, 4, Tape([])), (0, (), 65535 * 4 + 1))
        self.assertLess(time.monotonic() - begin, 30)


def slow_work(mind, cells, view, results):
    """How many instructions of a compiled brain run, and whether it becomes silent."""
    seen = [number for event in view for number in
            ({"round": 1, "told": 2, "move": 3, "did": 4}[event[0]], event[1], event[2] if len(event) > 2 else 0)]
    table, stack, place, ran, left, fallen = list(cells), [], 0, 0, mind.units, 0
    while True:
        name, argument = mind.code[place]
        place, ran = place + 1, ran + 1
        if name == "end":
            return ran, False
        if name == "unit":
            if left == 0:
                return ran, True
            left -= 1
        if name in ("push", "load", "long"):
            stack.append({"push": lambda: argument, "load": lambda: table[argument], "long": lambda: len(seen)}[name]())
        if name == "store":
            table[argument] = stack.pop()
        if name == "sign":
            b, a = stack.pop(), stack.pop()
            stack.append([(a + b) % 65536, max(a - b, 0), a * b % 65536, a // b if b else 0, a % b if b else 0,
                          int(a < b), int(a == b)][argument])
        if name == "view":
            index = stack.pop()
            stack.append(seen[index] if index < len(seen) else 0)
        if name == "lot":
            count = stack.pop()
            stack.append((results[fallen] if fallen < len(results) else 0) % count if count else 0)
            fallen += count > 0
        if name == "jump" or (name == "skip" and stack.pop() == 0):
            place += argument
        if name == "back":
            place -= argument + 1


class MachineTest(unittest.TestCase):

    def test_before_the_first_step(self):
        machine = machine_of("var x 3 var y 4 round a first x 3 end", "player 1 keep a 7 keep b 0 answer 0")
        shown = (("round", 0),)
        self.assertEqual(state(machine), {
            "done": False, "steps": 0, "work": 0, "paid": 0, "choices": [], "cells": [(7, 0), ()], "table": [0, 0],
            "views": [shown, shown], "taken": []})
        self.assertIs(machine.done, False)
        self.assertIsInstance(machine.tape, Tape)
        for name in ("choices", "cells", "table", "views"):
            self.assertIs(type(getattr(machine, name)), list)

    def test_without_rounds(self):
        for text in ("", "var x 3"):
            machine = machine_of(text, "player 1 keep a 7 answer 0")
            before = state(machine)
            self.assertIs(machine.done, True)
            self.assertEqual((machine.steps, machine.views, machine.cells), (0, [(), ()], [(7,), ()]))
            self.assertIs(machine.step(), False)
            self.assertEqual(machine.go(), 0)
            self.assertEqual(state(machine), before)

    def test_rounds_whose_code_is_only_end(self):
        machine = machine_of("round a end round b end")
        self.assertIs(machine.step(), True)
        self.assertEqual((machine.done, machine.steps), (False, 1))
        self.assertEqual(machine.views, [(("round", 0), ("round", 1))] * 2)
        self.assertIs(machine.step(), True)
        self.assertEqual((machine.done, machine.steps), (True, 2))
        self.assertEqual(machine.views, [(("round", 0), ("round", 1))] * 2)
        self.assertIs(machine.step(), False)
        self.assertEqual(machine.steps, 2)

    def test_step_by_step(self):
        machine = machine_of("var x 3 round a draw x 5 show first + x 1 second x 4 pay x take 9 end round b show both 6 "
                             "end", "player 1 answer 0", "player 3 keep a 7 set a + a 1 lot a 5 answer a", [4, 8])
        first, second = (("round", 0),), (("round", 0),)
        told, asked, did = ("told", 2), ("move", 0, 4), ("did", 3)
        # What changes with each step.
        changes = [
            {}, {"choices": [4], "taken": [(4, 5)]}, {"table": [1]},
            {}, {}, {}, {"views": [first + (told,), second]},
            {"choices": [4, 3], "taken": [(4, 5), (3, 5)], "cells": [(), (3,)], "work": 11,
             "views": [first + (told,), second + (asked, did)]},
            {"table": [0]}, {}, {"paid": 0}, {}, {"paid": -9},
            {"views": [first + (told, ("round", 1)), second + (asked, did, ("round", 1))]},
            {}, {"views": [first + (told, ("round", 1), ("told", 6)), second + (asked, did, ("round", 1), ("told", 6))]},
            {"done": True}]
        expected = {"done": False, "steps": 0, "work": 0, "paid": 0, "choices": [], "cells": [(), (7,)], "table": [0],
                    "views": [first, second], "taken": []}
        self.assertEqual(state(machine), expected)
        for count, change in enumerate(changes):
            self.assertIs(machine.step(), True)
            expected.update(change, steps=count + 1)
            self.assertEqual(state(machine), expected, count)
        self.assertIs(machine.done, True)
        self.assertTrue(all(type(view) is tuple for view in machine.views))
        self.assertTrue(all(type(values) is tuple for values in machine.cells))
        for _ in range(3):
            self.assertIs(machine.step(), False)
            self.assertEqual(state(machine), expected)

    def test_go(self):
        text = "var x 9 round a draw x 9 first x 4 if x pay x end end round b second x 4 take x end"
        brain = "player 9 keep a 0 lot a 4 answer a"
        whole = machine_of(text, brain, brain, [3, 2, 1])
        steps = whole.go()
        self.assertEqual((steps, whole.steps, whole.done), (whole.steps, steps, True))
        for many in range(steps + 3):
            machine = machine_of(text, brain, brain, [3, 2, 1])
            self.assertEqual([machine.step() for _ in range(many)], [k < steps for k in range(many)])
            self.assertEqual(machine.go(), steps)
            self.assertEqual(state(machine), state(whole))
            self.assertEqual(machine.go(), steps)
            self.assertEqual(state(machine), state(whole))

    def test_instructions_of_rounds(self):
        code = [("push", 9), ("store", 0), ("load", 0), ("pay", 0), ("push", 0), ("lot", 0), ("store", 1), ("push", 3),
                ("lot", 0), ("store", 1), ("load", 1), ("skip", 3), ("push", 5), ("show", 2), ("jump", 2), ("push", 6),
                ("show", 1), ("push", 7), ("show", 0), ("push", 4), ("push", 7), ("sign", 1), ("take", 0), END]
        check_code(code, 2, 0)
        machine = Machine(Program((4, 2), (), (code,)), ZERO, ZERO, [5])
        self.assertEqual(machine.go(), 21)
        # A lot without results is no choice.
        self.assertEqual((machine.paid, machine.choices, machine.table), (1, [2], [1, 0]))
        self.assertEqual(machine.tape.taken, [(2, 3)])
        self.assertEqual(machine.views, [(("round", 0), ("told", 6), ("told", 7)), (("round", 0), ("told", 7))])

    def test_payment_has_no_bounds(self):
        machine = machine_of("round a take 65535 take 65535 end round b take 65535 pay 1 end")
        machine.go()
        self.assertEqual(machine.paid, -3 * 65535 + 1)

    def test_two_machines_in_turn(self):
        game = read_game("var x 9 var y 9 round a draw x 9 first y 4 pay x end round b second y 4 take y end")
        program, mind = program_of(game), mind_of(read_brain("player 9 keep a 0 set a + a 1 lot a 4 answer a"))
        lists = ([3, 2, 1], [8, 3, 3])
        alone = []
        for results in lists:
            machine = Machine(program, mind, mind, results)
            machine.go()
            alone.append(state(machine))
        machines = [Machine(program, mind, mind, results) for results in lists]
        while not all(machine.done for machine in machines):
            for machine in machines:
                machine.step()
        self.assertEqual([state(machine) for machine in machines], alone)
        self.assertEqual(program, program_of(game))
        self.assertEqual(mind.cells, (0,))

    def test_results_may_change_afterwards(self):
        results = [3, 2, 1]
        program = program_of(read_game("var x 9 round a draw x 9 draw x 9 draw x 9 end"))
        machine = Machine(program, ZERO, ZERO, results)
        machine.step()
        results[0] = 7
        results.clear()
        machine.go()
        self.assertEqual(machine.choices, [3, 2, 1])
        self.assertEqual(results, [])

    def test_moves_that_are_asked_twice(self):
        # A code may ask for the same move more than once, which no text writes.
        code = [("ask", 0), ("pay", 0), ("ask", 0), ("pay", 0), END]
        mind = Mind(9, (1,), [("load", 0), ("push", 1), ("sign", 0), ("store", 0), ("load", 0), END])
        machine = Machine(Program((), ((2, 8),), (code,)), ZERO, mind, [])
        self.assertEqual(machine.go(), 5)
        self.assertEqual((machine.paid, machine.choices, machine.cells, machine.work), (5, [2, 3], [(), (3,)], 12))


class CompiledTest(unittest.TestCase):

    def test_same_as_play(self):
        for game, first, second, results in random_matches(400, seed=5):
            program, minds = program_of(game), [mind_of(first), mind_of(second)]
            machine = Machine(program, *minds, results)
            machine.go()
            played = play(game, first, second, results)
            found = (machine.paid, tuple(machine.choices), len(machine.tape.taken), tuple(machine.cells))
            self.assertEqual(found, (played.paid, played.choices, played.taken, played.cells))
            slow = SlowPlay(game, first, second, results)
            self.assertEqual((machine.table, machine.views), (slow.table, slow.views))
            self.assertEqual(machine.tape.taken, slow.fallen)

    def test_at_most_as_many_steps_as_instructions(self):
        for game, first, second, results in random_matches(200, seed=6):
            program = program_of(game)
            machine = Machine(program, mind_of(first), mind_of(second), results)
            steps = machine.go()
            self.assertLessEqual(steps, sum(longest(code) for code in program.rounds))
            self.assertLessEqual(steps, sum(len(code) for code in program.rounds))

    def test_codes_that_pass_never_get_stuck(self):
        minds = [mind_of(random_brain(seed)) for seed in (3, 8)]
        for seed in range(300):
            code = CodeWriter(seed, False).code()
            machine = Machine(Program((3, 7, 65535), ((1, 2), (2, 8), (1, 3)), (code, code)), *minds, [seed, 5, 2])
            self.assertLessEqual(machine.go(), 2 * longest(code))
            self.assertTrue(machine.done)
            self.assertTrue(all(0 <= value < size for value, size in zip(machine.table, (3, 7, 65535))))

    def test_brains_that_pass_never_get_stuck(self):
        silent = 0
        for seed in range(300):
            mind = Mind(40, (1, 0, 5), CodeWriter(seed, True).code())
            move, cells, work = think_by_code(mind, mind.cells, VIEW, 4, Tape([seed, 3]))
            self.assertIn(move, range(4))
            found, silently = slow_work(mind, mind.cells, VIEW, [seed, 3])
            self.assertEqual(work, found)
            if silently:
                silent += 1
                self.assertEqual((move, cells), (0, (1, 0, 5)))
        self.assertGreater(silent, 10)

    def test_time_of_long_views(self):
        begin = time.monotonic()
        machine = machine_of("var x 2 round a " + "show both 3 " * 5000 + "first x 2 end",
                             "player 9 keep a 0 set a long answer view - a 5")
        machine.go()
        self.assertEqual((machine.choices, machine.cells), ([0], [(15006,), ()]))
        self.assertEqual(machine.steps, 10003)
        self.assertLess(time.monotonic() - begin, 20)


if __name__ == "__main__":
    unittest.main()
