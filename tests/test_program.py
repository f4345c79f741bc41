"""Compiled games and brains: points 14, 18, 87 and 88."""

import unittest

from sureplay.brain import Brain, read_brain
from sureplay.code import brain_code, round_code
from sureplay.gametext import Game, moves_of, read_game
from sureplay.program import Mind, Program, mind_of, program_of
from tests.boards import random_brain, random_game

END = ("end", 0)


class ProgramTest(unittest.TestCase):

    def parts(self):
        return [3, 65535], [[1, 8], (2, 3)], [[["push", 1], ("pay", 0), END], [END]]

    FIELDS = {"sizes": (3, 65535), "moves": ((1, 8), (2, 3)), "rounds": ((("push", 1), ("pay", 0), END), (END,))}

    def test_fields(self):
        program = Program(*self.parts())
        self.assertEqual(vars(program), self.FIELDS)
        again = Program(program.sizes, program.moves, program.rounds)
        self.assertEqual(vars(again), self.FIELDS)
        self.assertEqual(vars(Program(**self.FIELDS)), self.FIELDS)
        self.assertEqual(vars(Program([], [], [])), {"sizes": (), "moves": (), "rounds": ()})
        self.assertEqual(Program((), (), ([END], (END,))).rounds, ((END,), (END,)))

    def test_equal_exactly_if_all_fields_are(self):
        sizes, moves, rounds = self.parts()
        program = Program(sizes, moves, rounds)
        self.assertTrue(program == Program(tuple(sizes), tuple(moves), tuple(rounds)))
        self.assertFalse(program != Program(sizes, moves, rounds))
        others = [Program([3], moves, rounds), Program(sizes, moves[::-1], rounds), Program(sizes, [], rounds),
                  Program(sizes, moves, rounds[::-1]), Program(sizes, moves, rounds[:1]),
                  Program(sizes, moves, [rounds[0], [("push", 0), END]])]
        for other in others:
            self.assertTrue(program != other)
            self.assertFalse(program == other)
        self.assertFalse(program == self.FIELDS)
        self.assertFalse(program == Mind(1, (), ()))

    def test_keeps_copies(self):
        sizes, moves, rounds = self.parts()
        program = Program(sizes, moves, rounds)
        sizes.append(7)
        moves[0][0] = 2
        moves.pop()
        rounds[0][0][1] = 5
        rounds[1].append(END)
        rounds.clear()
        self.assertEqual(vars(program), self.FIELDS)


class MindTest(unittest.TestCase):

    def test_fields(self):
        told = {"units": 9, "cells": (4, 0), "code": (("push", 1), END)}
        for mind in (Mind(9, [4, 0], [["push", 1], END]), Mind(9, (4, 0), (("push", 1), END)), Mind(**told)):
            self.assertEqual(vars(mind), told)

    def test_equal_exactly_if_all_fields_are(self):
        mind = Mind(9, (4, 0), [("push", 1), END])
        self.assertTrue(mind == Mind(9, [4, 0], (("push", 1), END)))
        self.assertFalse(mind != Mind(9, [4, 0], (("push", 1), END)))
        for other in (Mind(8, (4, 0), mind.code), Mind(9, (4,), mind.code), Mind(9, (0, 4), mind.code),
                      Mind(9, (4, 0), [("push", 2), END]), Mind(9, (4, 0), [])):
            self.assertTrue(mind != other)
            self.assertFalse(mind == other)
        self.assertFalse(mind == 9)

    def test_keeps_copies(self):
        cells, code = [4, 0], [["push", 1], END]
        mind = Mind(9, cells, code)
        cells.append(1)
        code[0][1] = 3
        code.pop()
        self.assertEqual((mind.cells, mind.code), ((4, 0), (("push", 1), END)))


class ProgramOfTest(unittest.TestCase):

    def test_empty(self):
        self.assertTrue(program_of(read_game("")) == Program((), (), ()))
        self.assertTrue(program_of(read_game("option o on")) == Program((), (), ()))
        self.assertTrue(program_of(read_game("var x 7")) == Program((7,), (), ()))
        self.assertTrue(program_of(read_game("round a end round b end")) == Program((), (), [[END], [END]]))

    def test_sizes_moves_and_codes(self):
        game = read_game("option o off var x 4 var y 65535 round a first x 3 when o pay 9 else second y 8 end end "
                         "round b if x first x 2 end pay pick o 1 y end")
        program = program_of(game)
        self.assertEqual(program.sizes, (4, 65535))
        self.assertEqual(program.moves, ((1, 3), (2, 8), (1, 2)))
        self.assertEqual(program.rounds, (
            (("ask", 0), ("store", 0), ("ask", 1), ("store", 1), END),
            (("load", 0), ("skip", 2), ("ask", 2), ("store", 0), ("load", 1), ("pay", 0), END)))

    def test_random_games(self):
        for seed in range(200):
            game = random_game(seed)
            program = program_of(game)
            slots = tuple(name for name, _ in game.variables)
            codes = [round_code(block, slots, dict(game.options)) for _, block in game.rounds]
            told = Program([size for _, size in game.variables], moves_of(game), codes)
            self.assertTrue(program == told)
            self.assertIsInstance(program, Program)


class MissingNumbersTest(unittest.TestCase):

    def test_moves_that_were_left_out(self):
        # What stands in the place of a number that no move has is never asked for.
        game = Game([], [("x", 3)], [("a", (("move", 2, "x", 3, 4), ("move", 1, "x", 5, 2)))])
        program = program_of(game)
        self.assertEqual((len(program.moves), program.moves[4], program.moves[2]), (5, (2, 3), (1, 5)))
        self.assertEqual(program.rounds, ((("ask", 4), ("store", 0), ("ask", 2), ("store", 0), END),))


class MindOfTest(unittest.TestCase):

    def test_units_cells_and_code(self):
        mind = mind_of(read_brain("player 65535 keep a 7 keep b 0 set b a answer b"))
        self.assertEqual((mind.units, mind.cells), (65535, (7, 0)))
        self.assertEqual(mind.code, (("unit", 0), ("load", 0), ("store", 1), ("load", 1), END))

    def test_without_cells(self):
        self.assertTrue(mind_of(read_brain("player 1 answer 0")) == Mind(1, (), [("push", 0), END]))
        self.assertTrue(mind_of(Brain(4, [], [], ("long",))) == Mind(4, (), [("long", 0), END]))

    def test_random_brains(self):
        for seed in range(200):
            brain = random_brain(seed)
            slots = tuple(name for name, _ in brain.cells)
            told = Mind(brain.units, brain.start(), brain_code(brain.block, brain.answer, slots))
            self.assertTrue(mind_of(brain) == told)
            self.assertIsInstance(mind_of(brain), Mind)


if __name__ == "__main__":
    unittest.main()
