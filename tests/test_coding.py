"""Compiled games as whole numbers: points 88, 98 and 99."""

import unittest

from sureplay.coding import program_numbers, read_program
from sureplay.errors import BadCode
from sureplay.gametext import read_game
from sureplay.program import Program, program_of
from tests.boards import CodeWriter, random_game
from tests.support import refusal

END = ("end", 0)

NAMES = ("push", "load", "store", "sign", "jump", "skip", "lot", "end", "ask", "show", "pay", "take", "view", "long",
         "unit", "back")

# Every kind of number stands in here.
SAMPLE = [2, 4, 65535, 2, 1, 8, 2, 1, 3, 0, 2, 0, 65535, 7, 0, 1, 15, 9]


class NumbersTest(unittest.TestCase):

    def check(self, program, numbers):
        found = program_numbers(program)
        self.assertEqual(found, numbers)
        self.assertIs(type(found), list)
        again = read_program(numbers)
        self.assertIsInstance(again, Program)
        self.assertTrue(again == program)
        self.assertTrue(read_program(tuple(numbers)) == program)

    def test_example(self):
        self.check(Program((4,), ((2, 3),), ([END],)), [1, 4, 1, 2, 3, 1, 1, 7, 0])

    def test_empty_parts(self):
        self.check(Program((), (), ()), [0, 0, 0])
        self.check(Program((9,), (), ()), [1, 9, 0, 0])
        self.check(Program((), ((1, 2),), ()), [0, 1, 1, 2, 0])
        self.check(Program((), (), ((),)), [0, 0, 1, 0])
        self.check(Program((), (), ((), [END], ())), [0, 0, 3, 0, 1, 7, 0, 0])
        self.check(program_of(read_game("")), [0, 0, 0])

    def test_numbers_of_the_names(self):
        for number, name in enumerate(NAMES):
            self.check(Program((), (), ([(name, 5)],)), [0, 0, 1, 1, number, 5])

    def test_sample(self):
        self.check(Program((4, 65535), ((1, 8), (2, 1)), ([], [("push", 65535), END], [("back", 9)])), SAMPLE)

    def test_largest_counts(self):
        program = Program([65535] * 12, [(2, 8)] * 24, [[("push", 65535)] * 3] * 8)
        self.check(program, [12] + [65535] * 12 + [24] + [2, 8] * 24 + [8] + [3, 0, 65535, 0, 65535, 0, 65535] * 8)
        code = [("pay", 0)] * 65535
        self.check(Program((), (), (code,)), [0, 0, 1, 65535] + [10, 0] * 65535)

    def test_there_and_back(self):
        for seed in range(200):
            program = program_of(random_game(seed))
            self.check(program, program_numbers(program))
            code = CodeWriter(seed, seed % 2 == 1).code()
            mixed = Program((3, 7), ((1, 2), (2, 8)), (code, (), code))
            self.check(mixed, program_numbers(mixed))

    def test_nothing_else_is_checked(self):
        read_program([0, 0, 1, 3, 1, 60000, 15, 0, 9, 7])

    def test_arguments_stay(self):
        program = Program((4,), ((2, 3),), ([END],))
        program_numbers(program).append(7)
        self.assertEqual(program_numbers(program), [1, 4, 1, 2, 3, 1, 1, 7, 0])
        numbers = list(SAMPLE)
        read_program(numbers)
        self.assertEqual(numbers, SAMPLE)


class RefusalTest(unittest.TestCase):

    def bad(self, numbers, at):
        given = list(numbers)
        error = refusal(BadCode, read_program, given)
        self.assertEqual(error.at, at, numbers)
        self.assertEqual(given, list(numbers))

    def test_example(self):
        self.bad([0, 0, 1, 1, 16, 0], 4)

    def test_ranges(self):
        # The beginning, the least and the greatest value of the number behind it, and what follows it then.
        cases = [
            ([], 0, 12, lambda n: [1] * n + [0, 0]),
            ([1], 1, 65535, lambda n: [0, 0]),
            ([2, 5], 1, 65535, lambda n: [0, 0]),
            ([0], 0, 24, lambda n: [1, 1] * n + [0]),
            ([0, 1], 1, 2, lambda n: [3, 0]),
            ([0, 1, 2], 1, 8, lambda n: [0]),
            ([0, 2, 1, 1], 1, 2, lambda n: [3, 0]),
            ([0, 0], 0, 8, lambda n: [0] * n),
            ([0, 0, 1], 0, 65535, lambda n: [7, 0] * n),
            ([0, 0, 2, 0], 0, 65535, lambda n: [7, 0] * n),
            ([0, 0, 1, 1], 0, 15, lambda n: [0]),
            ([0, 0, 1, 1, 0], 0, 65535, lambda n: []),
            ([0, 0, 1, 2, 0, 5, 3], 0, 65535, lambda n: []),
        ]
        for begin, least, greatest, behind in cases:
            for number in (least, greatest):
                read_program([*begin, number, *behind(number)])
            for number in (least - 1, greatest + 1, -1, -65536, 10 ** 40):
                self.bad([*begin, number], len(begin))
                self.bad([*begin, number, *[0] * 50], len(begin))

    def test_every_beginning(self):
        for numbers in ([0, 0, 0], SAMPLE, [1, 4, 1, 2, 3, 1, 1, 7, 0],
                        program_numbers(program_of(random_game(11)))):
            read_program(numbers)
            for count in range(len(numbers)):
                self.bad(numbers[:count], count)

    def test_left_over(self):
        for numbers in ([0, 0, 0], SAMPLE):
            for number in (0, 7, -1, 10 ** 9):
                self.bad([*numbers, number], len(numbers))
                self.bad([*numbers, number, 0, 0], len(numbers))

    def test_first_of_several_faults(self):
        for at, least in ((1, 1), (4, 1), (5, 1), (11, 0), (12, 0), (16, 0)):
            numbers = list(SAMPLE)
            for later in range(at, len(numbers)):
                numbers[later] = least - 1 if later == at else 10 ** 9
            self.bad(numbers, at)
        self.bad([13, 0, 25], 0)
        self.bad([0, 25, 0, 0], 1)
        self.bad([0, 1, 0, 9, 9], 2)


if __name__ == "__main__":
    unittest.main()
