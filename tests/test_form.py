"""What the package's files may hold: it prints, reads and imports nothing."""

import ast
import pathlib
import re
import unittest

PACKAGE = pathlib.Path(__file__).resolve().parent.parent / "everywaydesk"
FILES = sorted(PACKAGE.rglob("*.py"))

OWN_NAMES = set(
    "len range enumerate zip min max sum abs sorted reversed int str bool list tuple"
    " dict set frozenset isinstance ord repr any all divmod Exception ValueError"
    " KeyError IndexError LookupError ZeroDivisionError".split())
OTHER_STATEMENTS = (
    ast.With, ast.Match, ast.Delete, ast.Global, ast.Nonlocal, ast.Assert,
    ast.AsyncFunctionDef, ast.AsyncFor, ast.AsyncWith)
OTHER_EXPRESSIONS = (
    ast.Yield, ast.YieldFrom, ast.Await, ast.NamedExpr, ast.Starred, ast.SetComp,
    ast.DictComp, ast.GeneratorExp, ast.Div)
WORDS_NOT_USED = re.compile(
    r"\b(type|typing|enum|Enum|Flag|Generic|Protocol|ABC|namedtuple)\b|dataclass|overload")


def nodes(path):
    return list(ast.walk(ast.parse(path.read_text(encoding="utf-8"))))


def bound_names(found):
    names = set()
    for node in found:
        if isinstance(node, (ast.FunctionDef, ast.ClassDef)):
            names.add(node.name)
        elif isinstance(node, ast.arg):
            names.add(node.arg)
        elif isinstance(node, ast.Name) and isinstance(node.ctx, ast.Store):
            names.add(node.id)
    return names


class Form(unittest.TestCase):
    def test_there_are_files(self):
        self.assertIn(PACKAGE / "__init__.py", FILES)
        self.assertIn(PACKAGE / "lines.py", FILES)

    def test_imports_nothing(self):
        for path in FILES:
            for node in nodes(path):
                with self.subTest(path=path.name):
                    self.assertNotIsInstance(node, (ast.Import, ast.ImportFrom))

    def test_at_the_top_plain_values_and_functions_alone(self):
        for path in FILES:
            names = []
            with self.subTest(path=path.name):
                for node in ast.parse(path.read_text(encoding="utf-8")).body:
                    if isinstance(node, ast.FunctionDef):
                        names.append(node.name)
                    elif isinstance(node, ast.Assign):
                        # What can't be changed can't keep anything from one time to the next.
                        self.assertIsInstance(ast.literal_eval(node.value), (int, tuple))
                        names.extend(target.id for target in node.targets)
                    else:
                        self.assertIsInstance(node, ast.Expr)
                        self.assertIsInstance(node.value.value, str)
                self.assertEqual(sorted(set(names)), sorted(names))

    def test_methods(self):
        for path in FILES:
            for node in nodes(path):
                with self.subTest(path=path.name):
                    if isinstance(node, ast.Attribute):
                        self.assertIn(node.attr, ("append", "extend"))

    def test_comprehensions_and_powers(self):
        for path in FILES:
            for node in nodes(path):
                with self.subTest(path=path.name):
                    if isinstance(node, ast.ListComp):
                        self.assertEqual(len(node.generators), 1)
                        self.assertLessEqual(len(node.generators[0].ifs), 1)
                    self.assertNotIsInstance(node, (ast.Pow, ast.Is, ast.IsNot, ast.Lambda))

    def test_names_are_bound_or_listed(self):
        for path in FILES:
            with self.subTest(path=path.name):
                found = nodes(path)
                bound = bound_names(found)
                read = {node.id for node in found if isinstance(node, ast.Name)}
                self.assertEqual(read - bound - OWN_NAMES, set())
                self.assertEqual(bound & OWN_NAMES, set())
                self.assertEqual([name for name in bound if name.startswith("_")], [])

    def test_statements_and_expressions(self):
        for path in FILES:
            for node in nodes(path):
                with self.subTest(path=path.name):
                    self.assertNotIsInstance(node, OTHER_STATEMENTS + OTHER_EXPRESSIONS)
                    if isinstance(node, ast.Constant):
                        self.assertNotIsInstance(node.value, (float, complex, bytes))

    def test_size_and_signs(self):
        for path in FILES:
            text = path.read_text(encoding="utf-8")
            with self.subTest(path=path.name):
                self.assertLessEqual(len(text.splitlines()), 400)
                self.assertLessEqual(max(map(len, text.splitlines())), 120)
                self.assertRegex(text, r"\A[ -~\n]*\Z")
                self.assertIsNone(WORDS_NOT_USED.search(text))
                for node in nodes(path):
                    if isinstance(node, ast.FunctionDef):
                        self.assertLess(node.end_lineno - node.lineno, 40, node.name)


if __name__ == "__main__":
    unittest.main()
