"""Faster code: points 87, 91, 93, 94 and 97."""

import unittest

from sureplay.brain import read_brain
from sureplay.check import check_code, check_mind, check_program, longest
from sureplay.fold import fold_block
from sureplay.gametext import Game, read_game
from sureplay.machine import Machine, think_by_code
from sureplay.optimize import fast_mind, fast_program, optimize_code, thread_jumps
from sureplay.program import Mind, Program, mind_of, program_of
from sureplay.table import play
from sureplay.tape import Tape
from tests.boards import CodeWriter, random_brain, random_game, random_matches

END, UNIT = ("end", 0), ("unit", 0)

SIZES, MOVES = (3, 7, 65535), ((1, 2), (2, 8), (1, 3))

VIEW = (("round", 0), ("told", 40), ("move", 2, 4))


def slow_threads(code):
    """The code with threaded jumps, each one followed by itself."""
    found = []
    for place, (name, argument) in enumerate(code):
        if name in ("jump", "skip"):
            goal = place + 1 + argument
            while code[goal][0] == "jump":
                goal += 1 + code[goal][1]
            argument = goal - place - 1
            if name == "jump" and code[goal][0] == "end":
                name, argument = END
        found.append((name, argument))
    return found


class ThreadTest(unittest.TestCase):

    def check(self, code, told, thinking=False):
        given = list(code)
        check_code(given, 3, 3, thinking=thinking)
        found = thread_jumps(given)
        self.assertEqual(found, told)
        self.assertIs(type(found), list)
        self.assertIsNot(found, given)
        self.assertEqual(given, list(code))
        self.assertEqual(thread_jumps(tuple(given)), told)
        self.assertEqual(slow_threads(given), told)

    def test_nothing_to_do(self):
        for code in ([END], [("push", 1), ("pay", 0), END],
                     [("load", 0), ("skip", 3), ("push", 1), ("pay", 0), ("jump", 2), ("push", 2), ("pay", 0),
                      ("push", 2), ("pay", 0), END]):
            self.check(code, code)

    def test_chain_of_jumps(self):
        # The skip leads by the jumps at 3, 4 and 6 to 7, and the jump at 2 by that at 5.
        self.check([("load", 0), ("skip", 1), ("jump", 2), ("jump", 0), ("jump", 1), ("jump", 1), ("jump", 0),
                    ("push", 1), ("pay", 0), END],
                   [("load", 0), ("skip", 5), ("jump", 4), ("jump", 3), ("jump", 2), ("jump", 1), ("jump", 0),
                    ("push", 1), ("pay", 0), END])

    def test_chain_that_ends_at_an_end(self):
        self.check([("jump", 0), END], [END, END])
        self.check([("jump", 0), ("jump", 0), ("jump", 0), END], [END] * 4)
        self.check([("load", 0), ("skip", 3), ("push", 1), ("pay", 0), ("jump", 2), ("push", 2), ("pay", 0), END],
                   [("load", 0), ("skip", 3), ("push", 1), ("pay", 0), END, ("push", 2), ("pay", 0), END])

    def test_skip_to_a_chain(self):
        code = [("load", 0), ("skip", 2), ("push", 1), ("pay", 0), ("jump", 0), ("jump", 0), ("push", 1), ("pay", 0), END]
        self.check(code, [("load", 0), ("skip", 4), ("push", 1), ("pay", 0), ("jump", 1), ("jump", 0), ("push", 1),
                          ("pay", 0), END])

    def test_skip_to_an_end_stays_a_skip(self):
        self.check([("load", 0), ("skip", 2), ("push", 1), ("pay", 0), ("jump", 0), END],
                   [("load", 0), ("skip", 3), ("push", 1), ("pay", 0), END, END])
        self.check([("load", 0), ("skip", 0), END], [("load", 0), ("skip", 0), END])

    def test_skip_falls_to_a_jump(self):
        # What a skip leads to by its argument is threaded, not what it leads to otherwise.
        self.check([("load", 0), ("skip", 1), ("jump", 2), ("push", 1), ("pay", 0), ("push", 2), ("pay", 0), END],
                   [("load", 0), ("skip", 1), ("jump", 2), ("push", 1), ("pay", 0), ("push", 2), ("pay", 0), END])

    def test_brains(self):
        code = [UNIT, ("load", 0), ("skip", 2), ("jump", 0), ("back", 4), ("jump", 0), ("push", 1), ("jump", 0), END]
        self.check(code, [UNIT, ("load", 0), ("skip", 3), ("jump", 0), ("back", 4), ("jump", 0), ("push", 1), END, END],
                   thinking=True)

    def test_random_codes(self):
        for seed in range(400):
            code = CodeWriter(seed, seed % 2 == 1).code()
            given = list(code)
            found = thread_jumps(code)
            self.assertEqual(found, slow_threads(code))
            self.assertEqual(code, given)
            self.assertEqual(thread_jumps(found), found)
            for place, (name, argument) in enumerate(found):
                if name in ("jump", "skip"):
                    self.assertNotEqual(found[place + 1 + argument][0], "jump")
                if name == "jump":
                    self.assertNotEqual(found[place + 1 + argument][0], "end")
                if code[place][0] not in ("jump", "skip"):
                    self.assertEqual((name, argument), code[place])

    def test_long_chains(self):
        count = 30000
        self.assertEqual(thread_jumps([("jump", 0)] * count + [END]), [END] * (count + 1))


def run_round(code, results=()):
    """What comes of a round with this code: everything but the steps, and the steps."""
    minds = [mind_of(read_brain(f"player 5 keep a {k} set a + a 1 lot a + a 1 answer a")) for k in (1, 3)]
    machine = Machine(Program(SIZES, MOVES, (code, code)), *minds, results)
    steps = machine.go()
    return (machine.paid, machine.choices, machine.tape.taken, machine.cells, machine.table, machine.views,
            machine.work), steps


class OptimizeTest(unittest.TestCase):

    def check_round(self, code):
        given = list(code)
        height = check_code(code, 3, 3)
        found = optimize_code(code)
        self.assertEqual(code, given)
        self.assertIs(type(found), list)
        self.assertLessEqual(check_code(found, 3, 3), height)
        self.assertLessEqual(len(found), len(code))
        self.assertLessEqual(longest(found), longest(code))
        for results in ([], [1, 2, 3, 4, 5, 6], [3, 1, 4, 1, 5, 9, 2, 6]):
            (before, many), (after, steps) = run_round(code, results), run_round(found, results)
            self.assertEqual(after, before)
            self.assertLessEqual(steps, many)
        self.assertEqual(optimize_code(tuple(code)), found)
        return found

    def check_brain(self, code):
        given = list(code)
        height = check_code(code, 3, 0, thinking=True)
        found = optimize_code(code)
        self.assertEqual(code, given)
        self.assertIs(type(found), list)
        self.assertLessEqual(check_code(found, 3, 0, thinking=True), height)
        self.assertLessEqual(len(found), len(code))
        for units in (1, 2, 3, 7, 50):
            for cells in ((0, 1, 2), (5, 0, 65535)):
                tapes = [Tape([5, 2, 8, 1]), Tape([5, 2, 8, 1])]
                before = think_by_code(Mind(units, cells, code), cells, VIEW, 4, tapes[0])
                after = think_by_code(Mind(units, cells, found), cells, VIEW, 4, tapes[1])
                self.assertEqual(after[:2], before[:2])
                self.assertLessEqual(after[2], before[2])
                self.assertEqual(tapes[0].taken, tapes[1].taken)
        return found

    def test_what_it_makes(self):
        # Not promised in this form, but what the pieces of the work are for.
        self.assertEqual(self.check_round([("jump", 0), ("jump", 0), END]), [END])
        self.assertEqual(self.check_round([("load", 1), ("store", 1), END]), [END])
        self.assertEqual(self.check_round([("load", 1), ("store", 0), END]), [("load", 1), ("store", 0), END])
        self.assertEqual(self.check_round([("push", 0), ("skip", 2), ("push", 1), ("pay", 0), END]), [END])
        self.assertEqual(self.check_round([("push", 2), ("skip", 3), ("push", 1), ("pay", 0), ("jump", 2), ("push", 2),
                                           ("pay", 0), END]), [("push", 1), ("pay", 0), END])
        self.assertEqual(self.check_brain([UNIT, ("push", 1), ("skip", 4), UNIT, ("push", 1), ("store", 0), ("back", 6),
                                           ("push", 1), END]),
                         [UNIT, UNIT, ("push", 1), ("store", 0), ("back", 4)])
        self.assertEqual(self.check_brain([UNIT, ("push", 0), ("skip", 1), ("back", 3), ("push", 1), END]),
                         [UNIT, ("push", 1), END])

    def test_place_that_only_a_back_would_lead_to(self):
        # Without the skip, nothing before the unit at 2 would lead to it, and the check would refuse that.
        self.check_brain([("push", 0), ("skip", 2), UNIT, ("jump", 1), ("back", 2), ("jump", 0), ("push", 1), END])
        self.check_brain([("push", 0), ("skip", 3), UNIT, ("push", 3), END, UNIT, ("load", 0), ("skip", 1), ("back", 6),
                          ("push", 1), END])
        self.check_brain([("push", 0), ("skip", 3), UNIT, ("push", 3), END, ("back", 3)])

    def test_skip_that_several_ways_lead_to(self):
        self.check_round([("load", 0), ("skip", 2), ("load", 1), ("jump", 1), ("push", 0), ("skip", 2), ("push", 5),
                          ("pay", 0), END])
        self.check_round([("load", 0), ("skip", 2), ("load", 1), ("jump", 1), ("load", 2), ("store", 2), END])

    def test_random_rounds(self):
        shorter = 0
        for seed in range(400):
            code = CodeWriter(2 * seed, False).code()
            shorter += len(self.check_round(code)) < len(code)
        self.assertGreater(shorter, 200)

    def test_random_brains(self):
        shorter = 0
        for seed in range(400):
            code = CodeWriter(2 * seed + 1, True).code()
            shorter += len(self.check_brain(code)) < len(code)
        self.assertGreater(shorter, 200)

    def test_long_codes(self):
        code = [("load", 0), ("store", 0), ("push", 0), ("skip", 1), ("jump", 0)] * 3000 + [END]
        self.assertEqual(optimize_code(code), [END])


def run_machine(program, first, second, results):
    machine = Machine(program, first, second, results)
    machine.go()
    told = (machine.paid, machine.choices, machine.tape.taken, machine.cells, machine.table, machine.views)
    return told, machine.steps, machine.work


class FastTest(unittest.TestCase):

    def test_same_as_the_plain_ones(self):
        fewer = less = 0
        for game, first, second, results in random_matches(400, seed=9):
            programs = program_of(game), fast_program(game)
            plain, fast = (mind_of(first), mind_of(second)), (fast_mind(first), fast_mind(second))
            told, steps, work = run_machine(programs[0], *plain, results)
            played = play(game, first, second, results)
            self.assertEqual((told[0], tuple(told[1]), len(told[2])), (played.paid, played.choices, played.taken))
            self.assertEqual(run_machine(programs[0], *fast, results)[:2], (told, steps))
            for minds in (plain, fast, (plain[0], fast[1]), (fast[0], plain[1])):
                same, many, effort = run_machine(programs[1], *minds, results)
                self.assertEqual(same, told)
                self.assertLessEqual(many, steps)
                self.assertLessEqual(effort, work)
                fewer += many < steps
                less += effort < work
        self.assertGreater(fewer, 400)
        self.assertGreater(less, 100)

    def test_fields(self):
        for seed in range(200):
            game, brain = random_game(seed), random_brain(seed)
            plain, fast = program_of(game), fast_program(game)
            self.assertIsInstance(fast, Program)
            self.assertEqual((fast.sizes, fast.moves, len(fast.rounds)), (plain.sizes, plain.moves, len(plain.rounds)))
            self.assertLessEqual(check_program(fast), check_program(plain))
            for code, short in zip(plain.rounds, fast.rounds):
                self.assertLessEqual(longest(short), longest(code))
                self.assertLessEqual(len(short), len(code))
            mind, faster = mind_of(brain), fast_mind(brain)
            self.assertIsInstance(faster, Mind)
            self.assertEqual((faster.units, faster.cells), (mind.units, mind.cells))
            self.assertLessEqual(check_mind(faster), check_mind(mind))
            self.assertLessEqual(len(faster.code), len(mind.code))

    def test_moves_of_program_of_stay(self):
        game = read_game("option o off var x 4 round a when o first x 3 end second x 2 if 0 first x 7 end end")
        fast = fast_program(game)
        self.assertEqual(fast.moves, ((1, 3), (2, 2), (1, 7)))
        self.assertEqual(fast.rounds, ((("ask", 1), ("store", 0), END),))

    def test_folded_rounds(self):
        game = read_game("option o on var x 4 round a if = x x pay + 2 3 else take x end when o set x * x 1 end end")
        self.assertEqual(fast_program(game).rounds, ((("push", 5), ("pay", 0), END),))
        self.assertEqual(fast_program(read_game("round a end")).rounds, ((END,),))
        self.assertTrue(fast_program(read_game("")) == Program((), (), ()))

    def test_units_stay(self):
        brain = read_brain("player 3 keep a 1 set a a if 1 set a + 0 3 end while 0 set a 1 end answer * 1 a")
        self.assertEqual(fast_mind(brain).code, (UNIT, UNIT, UNIT, ("push", 3), ("store", 0), UNIT, ("load", 0), END))
        for units in range(1, 7):
            brain = read_brain(f"player {units} keep a 1 set a a if 1 set a + 0 3 end while 0 set a 1 end answer * 1 a")
            found = [think_by_code(mind, (1,), VIEW, 4, Tape([])) for mind in (mind_of(brain), fast_mind(brain))]
            self.assertEqual(found[0][:2], (3, (3,)) if units >= 4 else (0, (1,)))
            self.assertEqual(found[1][:2], found[0][:2])
            self.assertLess(found[1][2], found[0][2])

    def test_endless_loops(self):
        brain = read_brain("player 500 keep a 1 while 1 set a + a 1 end answer a")
        fast = fast_mind(brain)
        check_mind(fast)
        self.assertEqual(think_by_code(fast, (1,), VIEW, 4, Tape([]))[:2], (0, (1,)))

    def test_games_of_folded_rounds(self):
        for seed in range(200):
            game = random_game(seed)
            rounds = [(name, fold_block(block, dict(game.options))) for name, block in game.rounds]
            folded = Game(game.options, game.variables, rounds)
            first, second, results = random_brain(seed), random_brain(seed + 1), [3, 1, 4, 1, 5]
            played = play(folded, first, second, results)
            for program in (program_of(folded), fast_program(folded)):
                check_program(program)
                told, _, _ = run_machine(program, mind_of(first), mind_of(second), results)
                self.assertEqual((told[0], tuple(told[1]), tuple(told[3])), (played.paid, played.choices, played.cells))


if __name__ == "__main__":
    unittest.main()
