"""Texts of brains, read, refused and written: points 71 to 73, with points 11, 15, 16 and 20."""

import random
import unittest

from sureplay.brain import Brain, brain_text, read_brain
from sureplay.errors import BadText
from tests.grammar import first_misfit_of_brain
from tests.minds import BrainWriter
from tests.support import refusal

TEXTS = [
    "player 5 keep a 3 lot a a answer a",
    "player 65535 answer 0",
    "player 1 answer long",
    "player 30 keep a 0 keep b 65535 set a + a 1 if < a b lot b view 4 else while long set a 0 end end "
    "while view mod a 3 if = a b end set b - b 1 end answer / a b",
    "player 9 if 1 if 2 while 3 if 4 end end else if 5 end end end answer view view view long",
    "player 2 keep k 1 " + "if k " * 8 + "set k 0 " + "end " * 8 + "answer k",
    "player 2 keep k 1 " + "while k if 1 " * 4 + "lot k 9 else set k 1 " + "end " * 8 + "answer mod k 2",
]

CELLS = " ".join(f"keep c{k} {k}" for k in range(8))


def nested(word, depth):
    """So many ifs or whiles, each one in the one before."""
    return " ".join([word + " 1"] * depth + ["end"] * depth)


class BrainTest(unittest.TestCase):

    def check(self, text, at):
        self.assertEqual(refusal(BadText, read_brain, text).at, at, text)

    def check_last(self, text):
        """The text is refused at its last word."""
        self.check(text, len(text.split(" ")) - 1)

    def check_open(self, text):
        """The text is a beginning, and refused behind its last word."""
        self.check(text, len(text.split(" ")))

    def check_brain(self, text):
        self.assertEqual(brain_text(read_brain(text)), text)


class ReadTest(BrainTest):

    def test_data(self):
        brain = read_brain("player 30 keep a 7 keep bb 65535 set a + a 1 lot bb view 4 if < a bb set a 0 end "
                           "if long lot a 2 else set bb = a 0 set a 1 end while view a end while 1 lot a 3 "
                           "if 0 end end answer mod a long")
        a, bb, one = ("variable", "a"), ("variable", "bb"), ("number", 1)
        self.assertEqual(brain.units, 30)
        self.assertEqual(brain.cells, (("a", 7), ("bb", 65535)))
        self.assertEqual(brain.block, (
            ("set", "a", ("+", a, one)),
            ("lot", "bb", ("view", ("number", 4))),
            ("if", ("<", a, bb), (("set", "a", ("number", 0)),), ()),
            ("if", ("long",), (("lot", "a", ("number", 2)),), (("set", "bb", ("=", a, ("number", 0))),
                                                                ("set", "a", one))),
            ("while", ("view", a), ()),
            ("while", one, (("lot", "a", ("number", 3)), ("if", ("number", 0), (), ())))))
        self.assertEqual(brain.answer, ("mod", a, ("long",)))

    def test_examples(self):
        self.check_brain("player 5 keep a 3 lot a a answer a")
        self.check("player 5 lot a 2 answer 0", 2)

    def test_the_least_brain(self):
        brain = read_brain("player 1 answer 0")
        self.assertEqual((brain.units, brain.cells, brain.block, brain.answer), (1, (), (), ("number", 0)))
        self.assertEqual(brain.start(), ())

    def test_texts(self):
        for text in TEXTS:
            self.check_brain(text)
            self.assertIsNone(first_misfit_of_brain(text.split(" ")))

    def test_random_texts(self):
        for seed in range(400):
            text = BrainWriter(seed).text()
            self.check_brain(text)
            self.assertEqual(read_brain(text), read_brain(text))

    def test_start(self):
        self.assertEqual(read_brain("player 1 keep a 3 keep b 0 keep c 65535 answer a").start(), (3, 0, 65535))
        self.assertIs(type(read_brain("player 1 keep a 3 answer a").start()), tuple)

    def test_lists_and_tuples(self):
        block = [("set", "a", ("number", 1))]
        cells = [("a", 2)]
        brain = Brain(4, cells, block, ("long",))
        cells.append(("b", 1))
        block.clear()
        self.assertEqual(brain.cells, (("a", 2),))
        self.assertEqual(brain.block, (("set", "a", ("number", 1)),))
        self.assertEqual(brain, read_brain("player 4 keep a 2 set a 1 answer long"))
        self.assertEqual(brain, Brain(4, (("a", 2),), (("set", "a", ("number", 1)),), ("long",)))
        self.assertEqual(brain_text(brain), "player 4 keep a 2 set a 1 answer long")

    def test_equal_brains(self):
        text = "player 4 keep a 2 set a 1 answer long"
        self.assertTrue(read_brain(text) == read_brain(text))
        self.assertFalse(read_brain(text) != read_brain(text))
        for old, new in (("player 4", "player 5"), ("keep a 2", "keep a 3"), ("set a 1", "set a 2"),
                         ("set a 1", "lot a 1"), ("set a 1", ""), ("answer long", "answer 0"),
                         ("keep a 2", "keep a 2 keep b 2")):
            other = read_brain(" ".join(text.replace(old, new).split()))
            self.assertFalse(read_brain(text) == other)
            self.assertTrue(read_brain(text) != other)
        self.assertFalse(read_brain("player 4 keep a 2 answer a") == read_brain("player 4 keep b 2 answer b"))
        self.assertFalse(read_brain(text) == text)


class BeginningTest(BrainTest):

    def test_every_beginning(self):
        for text in TEXTS + [BrainWriter(seed).text() for seed in range(40)]:
            words = text.split(" ")
            for count in range(len(words)):
                beginning = " ".join(words[:count])
                expected = first_misfit_of_brain(words[:count])
                # An answer such as `long` may stand at the end already, but never a word that does not fit.
                if expected is None:
                    self.check_brain(beginning)
                else:
                    self.assertEqual(expected, count)
                    self.check(beginning, count)

    def test_words_that_fit_nowhere(self):
        strangers = ["", "X", "a_b", "65536", "01", "-1", "a23456789012b", "x\n", "\n", "\t", "~", "option", "on", "off",
                     "var", "round", "when", "draw", "first", "second", "show", "both", "pay", "take", "pick"]
        for text in TEXTS[:5]:
            words = text.split(" ")
            for at in range(len(words) + 1):
                for stranger in strangers:
                    self.check(" ".join([*words[:at], stranger, *words[at:]]), at)
                    if at < len(words):
                        self.check(" ".join([*words[:at], stranger, *words[at + 1:]]), at)

    def test_words_in_place_of_others(self):
        choose = random.Random(7)
        for text in TEXTS + [BrainWriter(seed).text() for seed in range(60)]:
            words = text.split(" ")
            known = sorted(set(words)) + ["keep", "while", "lot", "else", "end", "answer", "view", "long", "0", "c9"]
            for _ in range(40):
                at = choose.randrange(len(words))
                changed = [*words[:at], choose.choice(known), *words[at + choose.randint(0, 2):]]
                expected = first_misfit_of_brain(changed)
                if expected is None:
                    self.check_brain(" ".join(changed))
                else:
                    self.check(" ".join(changed), expected)

    def test_no_words(self):
        self.check("", 0)
        self.check(" ", 0)
        self.check(" player 1 answer 0", 0)
        self.check("player 1 answer 0 ", 4)
        self.check("player  1 answer 0", 1)
        self.check("player 1 answer 0 answer 0", 4)
        self.check("round a end", 0)


class BoundTest(BrainTest):

    def test_units(self):
        for units in (1, 2, 65535):
            self.check_brain(f"player {units} answer 0")
        for units in ("0", "65536", "-1", "01", "x", "100000", "1.", ""):
            self.check(f"player {units} answer 0", 1)

    def test_cells(self):
        self.check_brain(f"player 9 {CELLS} answer c7")
        self.check(f"player 9 {CELLS} keep d 0 answer 0", 2 + 3 * 8)
        for value in (0, 1, 65535):
            self.check_brain(f"player 9 keep a {value} answer a")
        for value in ("65536", "-1", "00", "a", "", "long"):
            self.check(f"player 9 keep a {value} answer a", 4)

    def test_names_of_cells(self):
        self.check_brain("player 9 keep a 0 keep aa 0 keep abcdefghijk9 1 answer 0")
        for name in ("a", "answer", "keep", "view", "long", "on", "abcdefghijkl0", "A", "9a", "a-b", "5", "", "+"):
            self.check_last(f"player 9 keep a 0 keep b 1 keep {name}")
        self.check("player 9 keep a 0 keep a 0 answer 0", 6)

    def test_names_that_are_not_known(self):
        head = "player 9 keep a 0 keep b 0 "
        for body in ("set c", "lot c", "set a c", "lot a + a c", "if c", "while view c", "answer c", "set 1", "lot long",
                     "set view", "if a set c"):
            self.check_last(head + body)
        self.check("player 9 answer a", 3)

    def test_no_cells(self):
        for word in ("set", "lot"):
            self.check(f"player 9 {word} a 1 answer 0", 2)
            self.check(f"player 9 if 1 {word} a 1 end answer 0", 4)
            self.check_brain(f"player 9 keep a 0 {word} a 1 answer 0")
        self.check_brain("player 9 if long while view 3 end end answer 0")

    def test_keep_stands_in_front(self):
        self.check("player 9 if 1 end keep a 0 answer 0", 5)
        self.check("player 9 keep a 0 set a 1 keep b 0 answer 0", 8)
        self.check("player 9 answer 0 keep a 0", 4)

    def test_depth_of_blocks(self):
        for word in ("if", "while"):
            self.check_brain(f"player 9 {nested(word, 8)} answer 0")
            self.check(f"player 9 {nested(word, 9)} answer 0", 2 + 2 * 8)
        mixed = "player 9 keep a 0 " + "while a if a " * 4
        self.check_brain(mixed + "set a 1 else lot a 2 " + "end " * 8 + "answer 0")
        self.check_last(mixed + "while")
        self.check_last(mixed + "if")
        self.check_last(mixed + "set a 1 else set a 2 while")
        self.check_last("player 9 " + "if 1 else " * 8 + "if")
        self.check_brain("player 9 " + f"{nested('while', 8)} " * 3 + "answer 0")

    def test_depth_of_expressions(self):
        for word, part in (("+", "1"), ("view", ""), ("mod", "long")):
            for head, depth in (("answer", 12), ("while", 12), ("if", 12)):
                first = " ".join([word] * (depth - 1)).split()
                rest = [part] * (depth - 1) if part else []
                tail = "" if head == "answer" else " end answer 0"
                self.check_brain(" ".join(["player 9", head, *first, "2", *rest]) + tail)
                self.check(" ".join(["player 9", head, *first, word, "2", *rest]) + tail, 3 + 11)
        self.check_brain("player 9 answer " + "view " * 11 + "long")
        self.check_last("player 9 keep a 0 lot a " + "view " * 11 + "view")
        self.check_brain("player 9 keep a 0 lot a " + "- 0 " * 11 + "long answer 0")
        self.check_last("player 9 keep a 0 lot a " + "- 0 " * 11 + "view")

    def test_else(self):
        self.check_brain("player 9 if 1 else if 1 end end answer 0")
        self.check("player 9 if 1 else end answer 0", 5)
        self.check("player 9 keep a 0 if 1 set a 1 else set a 2 else set a 3 end answer 0", 14)
        self.check("player 9 if 1 end else if 1 end end answer 0", 5)
        self.check("player 9 while 1 else if 1 end end answer 0", 4)
        self.check("player 9 else", 2)
        self.check_open("player 9 if 1 else")
        self.check("player 9 if 1 else answer 0", 5)

    def test_words_of_games(self):
        head = "player 9 keep a 0 "
        for word in ("pick", "when", "draw", "first", "second", "show", "pay", "take", "option", "var", "round"):
            self.check_last(head + word)
            self.check_last(head + "set a " + word)
            self.check_last(head + "if a " + word)
            self.check_last(head + "answer " + word)

    def test_open_ends(self):
        for text in ("player", "player 9", "player 9 keep", "player 9 keep a", "player 9 keep a 0",
                     "player 9 keep a 0 set", "player 9 keep a 0 lot a", "player 9 if", "player 9 if 1", "player 9 while",
                     "player 9 while 1", "player 9 if 1 end", "player 9 answer", "player 9 answer +",
                     "player 9 answer + 1", "player 9 answer view"):
            self.check_open(text)

    def test_end_and_answer(self):
        self.check("player 9 end answer 0", 2)
        self.check("player 9 if 1 answer 0 end answer 0", 4)
        self.check("player 9 while 1 answer 0 end answer 0", 4)
        self.check("player 9 answer 0 if 1 end", 4)
        self.check("player 9 if 1 end end answer 0", 5)


if __name__ == "__main__":
    unittest.main()
