"""Results of lots that are given: points 77 and 79."""

import itertools
import random
import unittest

from sureplay.ratio import Ratio
from sureplay.tape import Tape


class TapeTest(unittest.TestCase):

    def test_example(self):
        tape = Tape([7])
        self.assertEqual((tape.take(3), tape.take(2), tape.following()), (1, 0, [1, 1]))

    def test_results(self):
        tape = Tape([4, 0, 7, 65535, 10 ** 50, 5])
        self.assertEqual([tape.take(count) for count in (6, 3, 7, 65535, 7, 1)], [4, 0, 0, 0, 10 ** 50 % 7, 0])
        self.assertEqual(tape.taken, [(4, 6), (0, 3), (0, 7), (0, 65535), (10 ** 50 % 7, 7), (0, 1)])

    def test_behind_the_end(self):
        tape = Tape([2, 5])
        self.assertEqual([tape.take(4) for _ in range(5)], [2, 1, 0, 0, 0])
        self.assertEqual(tape.taken, [(2, 4), (1, 4), (0, 4), (0, 4), (0, 4)])
        self.assertEqual(Tape([]).take(9), 0)

    def test_taken(self):
        tape = Tape([3])
        self.assertEqual(tape.taken, [])
        self.assertIs(type(tape.taken), list)
        tape.take(2)
        self.assertIs(type(tape.taken[0]), tuple)
        self.assertEqual(vars(Tape([1])).get("taken"), [])

    def test_chance(self):
        tape = Tape([5, 5, 5])
        self.assertIsInstance(tape.chance(), Ratio)
        told = []
        for count in (6, 1, 4, 10):
            told.append(str(tape.chance()))
            tape.take(count)
        self.assertEqual([*told, str(tape.chance())], ["1", "1/6", "1/6", "1/24", "1/240"])

    def test_copy(self):
        given = [1, 2]
        tape = Tape(given)
        given[0] = 0
        given.append(1)
        self.assertEqual([tape.take(5), tape.take(5), tape.take(5)], [1, 2, 0])
        self.assertEqual(given, [0, 2, 1])
        tuples = Tape((3, 1))
        self.assertEqual(tuples.take(5), 3)

    def following(self, *taken):
        tape = Tape([result for result, _ in taken])
        for _, count in taken:
            tape.take(count)
        before = list(tape.taken)
        found = tape.following()
        self.assertEqual(tape.taken, before)
        return found

    def test_following(self):
        self.assertEqual(self.following((0, 2)), [1])
        self.assertEqual(self.following((0, 2), (0, 2)), [0, 1])
        self.assertEqual(self.following((0, 2), (1, 2)), [1])
        self.assertEqual(self.following((2, 5), (3, 4), (0, 1)), [3])
        self.assertEqual(self.following((2, 5), (1, 4), (0, 1), (6, 7)), [2, 2])
        self.assertIsNone(self.following())
        self.assertIsNone(self.following((0, 1)))
        self.assertIsNone(self.following((1, 2), (4, 5), (0, 1)))

    def test_all_ways_in_order(self):
        choose = random.Random(8)
        for _ in range(20):
            counts = [choose.randint(1, 4) for _ in range(choose.randint(0, 4))]
            ways, beginning = [], []
            while beginning is not None:
                tape = Tape(beginning)
                ways.append(tuple(tape.take(count) for count in counts))
                beginning = tape.following()
            self.assertEqual(ways, list(itertools.product(*[range(count) for count in counts])))

    def test_taking_goes_on_behind_following(self):
        tape = Tape([1, 1])
        tape.take(2)
        self.assertIsNone(tape.following())
        self.assertEqual(tape.take(3), 1)
        self.assertEqual(tape.following(), [1, 2])


if __name__ == "__main__":
    unittest.main()
