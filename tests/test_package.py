"""The package as a whole: the interface stands where the document lists it, and the files keep to the language."""

import ast
import builtins
import importlib
import inspect
import pathlib
import unittest

FOLDER = pathlib.Path(__file__).resolve().parent.parent / "sureplay"

# The functions and the classes of the interface, the classes with their methods and properties.
INTERFACE = {
    "errors": {"GameError": (), "BadRatio": (), "BadText": (), "BadPlan": (), "TooLarge": (), "BadMove": (),
               "BadEdit": (), "BadVersion": (), "BadPaper": (), "BadCode": ()},
    "ratio": {"Ratio": ("over", "below", "at_most", "sign", "__add__", "__sub__", "__mul__", "__neg__", "__eq__",
                        "__ne__", "__bool__", "__str__"),
              "total": "ratios", "least": "ratios", "greatest": "ratios", "shares": "ratios", "read_ratio": "text"},
    "lots": {"common": "ratios", "fall": "weights n", "are_lots": "ratios"},
    "words": {"split_words": "text", "join_words": "words", "is_name": "word", "number_of": "word",
              "Cursor": ("word", "take_word", "take_number", "take_name", "take_new_name")},
    "expression": {"read_expression": "cursor room", "expression_words": "expression",
                   "combine": "sign left right", "value_of": "expression table on seen"},
    "statement": {"block_words": "block"},
    "gametext": {"Game": ("__eq__",), "read_game": "text", "pieces_of": "game", "game_text": "game",
                 "moves_of": "game"},
    "tree": {"End": (), "Lot": (), "Turn": (), "tree_of": "game"},
    "views": {"places": "tree", "views_of": "tree player", "rows_of": "tree player", "last_row": "view",
              "way_to": "view", "remembers": "tree"},
    "walk": {"Position": (), "follow": "tree choices", "position_of": "node", "run": "game choices", "ends": "tree"},
    "plan": {"Plan": ("lots_at", "entries"), "pure": "views moves", "even": "views", "fits": "plan tree player",
             "weight_of": "plan view count move"},
    "average": {"average": "tree first second", "chances": "tree first second",
                "average_by_weights": "tree first second"},
    "answers": {"Answer": (), "best_for": "tree player plan", "answer_plan": "answer tree player",
                "sure_of": "tree player plan", "all_pure": "tree player"},
    "linear": {"Outcome": (), "dot": "left right", "greatest": "goal rows bounds"},
    "exact": {"Solution": (), "solve": "tree"},
    "paper": {"Paper": (), "judge": "tree paper", "settles": "tree paper", "paper_text": "tree paper",
              "read_paper": "tree lines", "belongs": "tree paper"},
    "tape": {"Tape": ("take", "chance", "following")},
    "brain": {"Brain": ("start", "__eq__"), "read_brain": "text", "brain_text": "brain"},
    "think": {"view_numbers": "view", "think": "brain cells view count tape", "outcomes": "brain cells view count"},
    "mixing": {"lots_of": "brain tree player", "brain_of": "plan tree player"},
    "table": {"Played": ("__eq__",), "play": "game first second results", "average_of_brains": "game first second"},
    "code": {"expression_code": "expression slots on", "round_code": "block slots on",
             "brain_code": "block answer slots"},
    "program": {"Program": ("__eq__",), "Mind": ("__eq__",), "program_of": "game", "mind_of": "brain"},
    "check": {"check_code": "code slots moves thinking", "check_program": "program", "check_mind": "mind",
              "longest": "code"},
    "machine": {"think_by_code": "mind cells view count tape", "Machine": ("step", "go")},
    "fold": {"fold_expression": "expression on", "fold_block": "block on"},
    "optimize": {"thread_jumps": "code", "optimize_code": "code", "fast_program": "game", "fast_mind": "brain"},
    "coding": {"program_numbers": "program", "read_program": "numbers"},
    "compose": {"swapped": "game", "before": "game other", "switched": "game names",
                "least_switches": "game names aim"},
    "edits": {"changed": "game change", "changes": "old new", "edit_text": "change", "read_edit": "line"},
    "space": {"Space": ("versions", "version", "edit", "value", "worth", "journal"), "replay": "game lines"},
}

# What the classes of the interface are made from.
ARGUMENTS = {
    ("ratio", "Ratio"): "num den", ("words", "Cursor"): "words options variables sees",
    ("gametext", "Game"): "options variables rounds", ("tree", "End"): "paid", ("tree", "Lot"): "parts",
    ("tree", "Turn"): "player view parts", ("plan", "Plan"): "entries",
    ("paper", "Paper"): "first second", ("tape", "Tape"): "results", ("brain", "Brain"): "units cells block answer",
    ("table", "Played"): "paid choices taken cells", ("program", "Program"): "sizes moves rounds",
    ("program", "Mind"): "units cells code", ("machine", "Machine"): "program first second results",
    ("space", "Space"): "game",
}

METHODS = {
    ("plan", "Plan"): {"lots_at": "view count", "entries": ""},
    ("tape", "Tape"): {"take": "count", "chance": "", "following": ""}, ("brain", "Brain"): {"start": ""},
    ("machine", "Machine"): {"step": "", "go": ""},
    ("space", "Space"): {"versions": "", "version": "number", "edit": "change", "value": "number", "worth": "least",
                         "journal": ""},
}

ALLOWED_BUILTINS = set(
    "len range enumerate zip min max sum abs sorted reversed int str bool list tuple dict set frozenset isinstance ord "
    "repr any all divmod pow map iter next super property staticmethod classmethod Exception ValueError TypeError "
    "KeyError IndexError LookupError ZeroDivisionError ArithmeticError OverflowError RuntimeError NotImplementedError "
    "AttributeError StopIteration NotImplemented getattr hasattr setattr type".split())

ALLOWED_MODULES = ("math", "heapq", "itertools", "collections")


def parameters(function):
    return " ".join(inspect.signature(function).parameters)


class InterfaceTest(unittest.TestCase):

    def test_names_and_arguments(self):
        for module, names in INTERFACE.items():
            file = importlib.import_module("sureplay." + module)
            for name, told in names.items():
                thing = getattr(file, name)
                self.assertEqual(thing.__module__, "sureplay." + module)
                if isinstance(told, str):
                    self.assertEqual(parameters(thing), told, name)
                else:
                    for method in told:
                        self.assertIn(method, vars(thing), (name, method))

    def test_arguments_of_classes(self):
        for (module, name), told in ARGUMENTS.items():
            self.assertEqual(parameters(getattr(importlib.import_module("sureplay." + module), name)), told)

    def test_arguments_of_methods(self):
        for (module, name), methods in METHODS.items():
            for method, told in methods.items():
                found = vars(getattr(importlib.import_module("sureplay." + module), name))[method]
                self.assertEqual(parameters(found), " ".join(["self", *told.split()]), (name, method))

    def test_default_values(self):
        from sureplay.check import check_code
        from sureplay.expression import read_expression, value_of
        from sureplay.ratio import Ratio
        from sureplay.words import Cursor
        for thing, told in ((Ratio, {"den": 1}), (Cursor, {"options": (), "variables": (), "sees": False}),
                            (read_expression, {"room": 12}), (value_of, {"seen": ()}), (check_code, {"thinking": False})):
            found = {name: one.default for name, one in inspect.signature(thing).parameters.items()
                     if one.default is not inspect.Parameter.empty}
            self.assertEqual(found, told)
        for thing, count in ((Cursor, 3), (read_expression, 1), (check_code, 1)):
            kinds = [one.kind for one in inspect.signature(thing).parameters.values()]
            self.assertEqual(kinds.count(inspect.Parameter.KEYWORD_ONLY), count)


class LanguageTest(unittest.TestCase):

    def files(self):
        """The pairs of a name and the text of each file of the package."""
        return [(path.name, path.read_text(encoding="utf-8")) for path in sorted(FOLDER.glob("*.py"))]

    def test_folder(self):
        names = sorted(path.name for path in FOLDER.iterdir() if path.name != "__pycache__")
        self.assertEqual(names, [name for name, _ in self.files()])
        self.assertIn("__init__.py", names)
        for name in INTERFACE:
            self.assertIn(name + ".py", names)

    def test_characters_and_sizes(self):
        for name, text in self.files():
            lines = text.splitlines()
            self.assertLess(len(lines), 400, name)
            self.assertTrue(all(len(line) <= 120 for line in lines), name)
            self.assertTrue(all(sign == "\n" or " " <= sign <= "~" for sign in text), name)
            for node in ast.walk(ast.parse(text)):
                if isinstance(node, ast.FunctionDef):
                    self.assertLessEqual(node.end_lineno - node.lineno, 39, (name, node.name))

    def test_imports(self):
        for name, text in self.files():
            for node in ast.walk(ast.parse(text)):
                self.assertNotIsInstance(node, ast.Import, name)
                if isinstance(node, ast.ImportFrom):
                    self.assertEqual(node.level, 0, name)
                    own = node.module.startswith("sureplay.")
                    self.assertTrue(own or node.module in ALLOWED_MODULES, (name, node.module))
                    for one in node.names:
                        self.assertIsNone(one.asname, name)
                        if own:
                            home = importlib.import_module(node.module)
                            origin = getattr(getattr(home, one.name), "__module__", node.module)
                            self.assertEqual(origin, node.module, (name, one.name))

    def test_names(self):
        # A doctest that ran before leaves `_` among the builtins.
        known = set(dir(builtins)) - {"_"}
        for name, text in self.files():
            for node in ast.walk(ast.parse(text)):
                if isinstance(node, ast.Name) and node.id in known:
                    self.assertIsInstance(node.ctx, ast.Load, (name, node.id))
                    self.assertIn(node.id, ALLOWED_BUILTINS, (name, node.id))
                elif isinstance(node, ast.arg):
                    self.assertNotIn(node.arg, known, name)
                elif isinstance(node, ast.FunctionDef) and not node.name.startswith("__"):
                    self.assertNotIn(node.name, known, name)

    def test_names_of_classes_and_imports_mean_nothing_else(self):
        for name, text in self.files():
            tree = ast.parse(text)
            taken = {node.name for node in tree.body if isinstance(node, ast.ClassDef)}
            for node in tree.body:
                if isinstance(node, ast.ImportFrom):
                    taken |= {one.name for one in node.names}
            for node in ast.walk(tree):
                if isinstance(node, ast.arg):
                    self.assertNotIn(node.arg, taken, name)
                elif isinstance(node, ast.Name) and not isinstance(node.ctx, ast.Load):
                    self.assertNotIn(node.id, taken, name)

    def test_no_files_import_from_each_other(self):
        wanted = {}
        for name, text in self.files():
            nodes = [node for node in ast.walk(ast.parse(text)) if isinstance(node, ast.ImportFrom)]
            wanted[name] = {node.module.removeprefix("sureplay.") + ".py" for node in nodes
                            if node.module.startswith("sureplay.")}
        # Files that import only from files that are through are through.
        through = set()
        while len(through) < len(wanted):
            more = {name for name in wanted if name not in through and wanted[name] <= through}
            self.assertTrue(more, sorted(set(wanted) - through))
            through |= more

    def test_no_name_is_a_method_and_an_attribute_of_a_class(self):
        for name, text in self.files():
            for node in ast.walk(ast.parse(text)):
                if isinstance(node, ast.ClassDef):
                    methods = {one.name for one in node.body if isinstance(one, ast.FunctionDef)}
                    stored = {one.attr for one in ast.walk(node)
                              if isinstance(one, ast.Attribute) and isinstance(one.ctx, ast.Store)}
                    self.assertEqual(methods & stored, set(), (name, node.name))

    def test_values(self):
        barred = (ast.AsyncFunctionDef, ast.AsyncFor, ast.AsyncWith, ast.Await, ast.Div)
        for name, text in self.files():
            for node in ast.walk(ast.parse(text)):
                self.assertNotIsInstance(node, barred, name)
                if isinstance(node, ast.Constant):
                    self.assertNotIsInstance(node.value, float, name)
                    self.assertNotIn("%", str(node.value), name)


if __name__ == "__main__":
    unittest.main()
