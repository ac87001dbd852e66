"""The interface as it is listed, and what the package may be written with."""

import ast
import re
import unittest
from pathlib import Path

from chainparts import errors, near, numbers, order, readers, rings

FOLDER = Path(errors.__file__).parent
FILES = sorted(FOLDER.glob("*.py"))
BARRED = ("type|typing|typing_extensions|enum|Enum|IntEnum|StrEnum|Flag|IntFlag|Generic|Protocol|ABC|ABCMeta|"
          "namedtuple|NamedTuple|TypedDict|TYPE_CHECKING|abstractmethod")
BUILTINS = set("len range enumerate zip min max sum abs sorted reversed int str bool list tuple dict set isinstance "
               "ord repr any all divmod ValueError".split())
BARRED_NODES = (ast.Global, ast.AsyncFunctionDef, ast.Await, ast.Div, ast.Set, ast.SetComp, ast.Import)


def parsed():
    return [(path.name, ast.parse(path.read_text())) for path in FILES]


def defined(name):
    return {node.name: node for node in ast.parse((FOLDER / name).read_text()).body if hasattr(node, "name")}


class Interface(unittest.TestCase):
    def test_errors(self):
        self.assertEqual(errors.PartError.__bases__, (ValueError,))
        for kind in (errors.BadTree, errors.NoValue, errors.TooLong):
            self.assertEqual(kind.__bases__, (errors.PartError,))
        self.assertLessEqual({"PartError", "BadTree", "NoValue", "TooLong"}, set(defined("errors.py")))

    def test_functions_stand_where_they_are_listed(self):
        listed = {"numbers.py": {"root_below": ["number"], "put_together": ["parts"]},
                  "readers.py": {"reader": ["tree"], "first_parts": ["tree", "many", "most"]},
                  "rings.py": {"ring_of": ["top", "square", "below", "most"]},
                  "order.py": {"compared": ["one", "other", "most"]},
                  "near.py": {"nearest": ["tree", "size", "most"]}}
        for name, functions in listed.items():
            found = defined(name)
            for function, arguments in functions.items():
                self.assertIsInstance(found[function], ast.FunctionDef)
                self.assertEqual([argument.arg for argument in found[function].args.args], arguments)

    def test_readings_have_their_methods(self):
        trees = [("fraction", 3, 1), ("root", 0, 2, 1), ("ruled", (3,), (), ()), ("power", ("fraction", 3, 1), 2),
                 ("four", (1, 0, 0, 1), ("fraction", 3, 1))]
        for tree in trees:
            kind = type(readers.reader(tree=tree))
            self.assertIn("part", vars(kind))
            self.assertIn("took", vars(kind))

    def test_arguments_by_name(self):
        self.assertEqual(numbers.root_below(number=10), 3)
        self.assertEqual(numbers.put_together(parts=[0, 3]), (1, 3))
        self.assertEqual(readers.first_parts(tree=("fraction", 3, 1), many=1, most=1), ([3], "parts"))
        self.assertEqual(readers.reader(("fraction", 3, 1)).part(most=1), ("part", 3))
        self.assertEqual(rings.ring_of(top=0, square=2, below=1, most=2), ([1], [2]))
        self.assertEqual(order.compared(one=("fraction", 3, 1), other=("root", 0, 2, 1), most=2), "more")
        self.assertEqual(near.nearest(tree=("fraction", 3, 2), size=1, most=2), (1, 1))


class Writing(unittest.TestCase):
    def test_the_folder_has_nothing_else(self):
        others = [path.name for path in FOLDER.iterdir() if path not in FILES and path.name != "__pycache__"]
        self.assertEqual(others, [])

    def test_sizes_characters_and_words(self):
        for path in FILES:
            text = path.read_text()
            lines = text.split("\n")
            self.assertLessEqual(len(lines), 399, path)
            self.assertLessEqual(max(map(len, lines)), 120, path)
            self.assertTrue(re.fullmatch(r"[ -~\n]*", text), path)
            self.assertIsNone(re.search(rf"\b({BARRED})\b|dataclass|overload|contextmanager", text), path)

    def test_short_functions_without_decorators(self):
        for name, tree in parsed():
            for node in ast.walk(tree):
                if isinstance(node, ast.FunctionDef):
                    self.assertLessEqual(node.end_lineno - node.lineno + 1, 40, (name, node.name))
                    self.assertEqual(node.decorator_list, [], (name, node.name))

    def test_imports_of_the_package_alone(self):
        for name, tree in parsed():
            for node in ast.walk(tree):
                if isinstance(node, ast.ImportFrom):
                    self.assertEqual(node.level, 0, name)
                    self.assertTrue(node.module.startswith("chainparts."), name)
                    source = FOLDER / (node.module.split(".")[1] + ".py")
                    for alias in node.names:
                        self.assertIn(alias.name, self.bound(source), name)

    def bound(self, path):
        names = set(defined(path.name))
        for node in ast.parse(path.read_text()).body:
            if isinstance(node, ast.Assign):
                names.update(target.id for target in node.targets)
        return names

    def test_plain_names_and_values(self):
        for name, tree in parsed():
            for node in ast.walk(tree):
                self.assertNotIsInstance(node, BARRED_NODES, name)
                if isinstance(node, ast.Constant):
                    self.assertNotIsInstance(node.value, (float, complex), name)
                    self.assertNotIn("%", str(node.value), name)
                for word in (getattr(node, "id", None), getattr(node, "attr", None), getattr(node, "arg", None)):
                    self.assertFalse(word and word.startswith("_"), (name, word))

    def test_few_builtins(self):
        known = set(dir(__import__("builtins")))
        for name, tree in parsed():
            used = {node.id for node in ast.walk(tree) if isinstance(node, ast.Name)}
            self.assertLessEqual(used & known, BUILTINS, name)

    def test_no_name_is_a_method_and_an_attribute(self):
        methods, attributes = set(), set()
        for name, tree in parsed():
            for node in ast.walk(tree):
                if isinstance(node, ast.ClassDef):
                    methods.update(part.name for part in node.body if isinstance(part, ast.FunctionDef))
                if isinstance(node, ast.Attribute) and isinstance(node.ctx, ast.Store):
                    attributes.add(node.attr)
        self.assertEqual(methods & attributes, set())


if __name__ == "__main__":
    unittest.main()
