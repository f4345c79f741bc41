"""The examples that the document gives in its interface."""

import doctest
import unittest

from sureplay import errors
from tests.support import refusal

EXAMPLES = """
>>> from sureplay.words import split_words
>>> split_words("pay  1")
['pay', '', '1']

>>> from sureplay.expression import expression_words
>>> expression_words(("+", ("variable", "x"), ("number", 7)))
['+', 'x', '7']

>>> from sureplay.expression import value_of
>>> value_of(("-", ("variable", "x"), ("number", 7)), {"x": 5}, {})
0

>>> from sureplay.statement import block_words
>>> block_words((("if", ("number", 1), (), (("move", 2, "x", 3, 0),)), ("show", 0, ("number", 4))))
['if', '1', 'else', 'second', 'x', '3', 'end', 'show', 'both', '4']

>>> from sureplay.gametext import read_game
>>> read_game("var x 4 round a first x 4 pay x end").rounds
(('a', (('move', 1, 'x', 4, 0), ('pay', ('variable', 'x')))),)

>>> from sureplay.tape import Tape
>>> tape = Tape([7])
>>> (tape.take(3), tape.take(2), tape.following())
(1, 0, [1, 1])

>>> from sureplay.brain import brain_text, read_brain
>>> brain_text(read_brain("player 5 keep a 3 lot a a answer a"))
'player 5 keep a 3 lot a a answer a'

>>> from sureplay.brain import read_brain
>>> from sureplay.tape import Tape
>>> from sureplay.think import think
>>> brain = read_brain("player 9 keep a 0 set a + a 1 answer a")
>>> think(brain, (1,), (("round", 0), ("move", 0, 4)), 4, Tape([]))
(2, (2,))

>>> from sureplay.brain import read_brain
>>> from sureplay.gametext import read_game
>>> from sureplay.table import play
>>> game = read_game("var x 6 round a draw x 6 second x 3 pay x end")
>>> brain = read_brain("player 2 keep c 0 lot c 3 answer c")
>>> played = play(game, brain, brain, [4, 5])
>>> (played.paid, played.choices, played.taken, played.cells)
(2, (4, 2), 2, ((0,), (2,)))

>>> from sureplay.code import round_code
>>> round_code((("if", ("variable", "x"), (("pay", ("number", 2)),), ()),), ("x",), {})
[('load', 0), ('skip', 2), ('push', 2), ('pay', 0), ('end', 0)]

>>> from sureplay.check import check_code
>>> check_code([("push", 1), ("push", 2), ("sign", 0), ("pay", 0), ("end", 0)], 0, 0)
2

>>> from sureplay.fold import fold_expression
>>> fold_expression(("+", ("number", 0), ("*", ("variable", "x"), ("number", 1))), {})
('variable', 'x')

>>> from sureplay.coding import program_numbers, read_program
>>> from sureplay.program import Program
>>> program_numbers(Program((4,), ((2, 3),), ([("end", 0)],)))
[1, 4, 1, 2, 3, 1, 1, 7, 0]

>>> from sureplay.edits import changed
>>> from sureplay.gametext import game_text, read_game
>>> game_text(changed(read_game("var x 2 round a pay x end"), ("put", "var y 3")))
'var x 2 var y 3 round a pay x end'

>>> from sureplay.edits import read_edit
>>> read_edit("switch x off")
('switch', 'x', False)
"""

# The error that the last line raises, and the lines.
REFUSALS = [
    ("BadText",
     ["from sureplay.gametext import read_game",
      'read_game("round a set x 1 end")']),
    ("BadText",
     ["from sureplay.brain import read_brain",
      'read_brain("player 5 lot a 2 answer 0")']),
    ("BadCode",
     ["from sureplay.check import check_code",
      'check_code([("push", 1), ("end", 0)], 0, 0)']),
    ("BadCode",
     ["from sureplay.coding import read_program",
      "read_program([0, 0, 1, 1, 16, 0])"]),
    ("BadText",
     ["from sureplay.edits import changed",
      "from sureplay.gametext import read_game",
      'changed(read_game("var x 2 round a pay x end"), ("drop", "var", "x"))']),
]


class ExampleTest(unittest.TestCase):

    def test_answers(self):
        test = doctest.DocTestParser().get_doctest(EXAMPLES, {}, "examples", None, None)
        found = doctest.DocTestRunner().run(test)
        self.assertEqual(found.failed, 0)
        self.assertGreater(found.attempted, 40)

    def test_refusals(self):
        for name, lines in REFUSALS:
            known = {}
            exec("\n".join(lines[:-1]), known)
            kind = getattr(errors, name)
            self.assertIs(type(refusal(kind, eval, lines[-1], known)), kind)


if __name__ == "__main__":
    unittest.main()
