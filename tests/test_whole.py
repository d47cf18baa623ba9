"""What the document promises over the whole program, with all calls together."""

import contextlib
import inspect
import io
import itertools
import random
import sys
import unittest

from everywaydesk import lines
from everywaydesk.lines import bound, directions, fewest, has, lacks, line, told, top
from helper import SPACES, Space, Untouched, drawn_lines, drawn_set, terms_in_order

ARGUMENTS = {
    "directions": ["p", "n"], "line": ["p", "n", "x", "v"], "has": ["p", "n", "v", "s"],
    "lacks": ["p", "n", "s"], "told": ["p", "n", "s"], "top": ["p", "n", "f"],
    "fewest": ["p", "n"], "bound": ["p", "n"]}

LONG_ROW = [number for powers in terms_in_order(13, 3)[:100] for number in (1, *powers)]
CALLS = (
    (directions, (7, 3)), (directions, (3, 2)), (directions, (4, 2)),
    (line, (3, 2, 5, 4)), (line, (7, 3, 342, 57)), (line, (3, 2, 9, 4)),
    (has, (3, 2, 4, [1, 5, 6])), (has, (3, 2, 7, [1, 5, 6])), (has, (3, 2, 0, [])),
    (lacks, (3, 2, [1, 5, 6])), (lacks, (7, 3, list(range(343)))), (lacks, (7, 3, [1, 0])),
    (told, (3, 2, [0, 1, 2, 3, 6])), (told, (3, 2, [])), (told, (7, 3, list(range(300)))),
    (told, (7, 3, list(range(0, 343, 5)))), (told, (7, 3, list(range(400)))),
    (top, (3, 2, [2, 0, 0, 1, 0, 1, 2, 1, 0])), (top, (2, 3, LONG_ROW)), (top, (3, 2, [1])),
    (fewest, (5, 2)), (fewest, (2, 3)), (fewest, (7, 2)), (fewest, (0, 2)),
    (bound, (7, 3)), (bound, (2, 1)), (bound, (2, 4)))


def handed(arguments):
    return [Untouched(one) if isinstance(one, list) else one for one in arguments]


class WhatHolds(unittest.TestCase):
    def check(self, p, n, s):
        """Hold the answers for one set against one another; tell if it lacks no direction."""
        lacking = lacks(p, n, s)[1:]
        answer = told(p, n, s)
        least = bound(p, n)[0]
        for v in directions(p, n)[1:]:
            self.assertEqual(has(p, n, v, s), [0 if v in lacking else 1], (v, s))
        if answer != [-33]:
            self.assertIn(answer[0], lacking, s)
            self.assertLess(answer[1], p, s)
        if len(s) < least:
            self.assertNotEqual(answer, [-33], s)
        if not lacking:
            self.assertGreaterEqual(len(s), least, s)
            self.assertEqual(answer, [-33], s)
        return not lacking

    def test_every_set_of_small_spaces(self):
        for p, n in ((2, 1), (2, 2), (2, 3), (3, 1), (3, 2), (5, 1), (7, 1)):
            with self.subTest(p=p, n=n):
                sizes = []
                for bits in itertools.product((0, 1), repeat=p ** n):
                    s = [x for x, bit in enumerate(bits) if bit]
                    if self.check(p, n, s):
                        sizes.append(len(s))
                self.assertEqual(fewest(p, n), [min(sizes)])

    def test_drawn_sets(self):
        for p, n in SPACES:
            source = random.Random(10 * p + n)
            space = Space(p, n)
            least = bound(p, n)[0]
            with self.subTest(p=p, n=n):
                for part in (0.05, 0.1, 0.2, 0.3, 0.5, 0.7):
                    self.check(p, n, drawn_set(space, part, source))
                for size in (least - 1, least - 1, least - 1, least):
                    self.check(p, n, sorted(source.sample(range(p ** n), size)))

    def test_a_line_in_each_direction(self):
        for p, n in SPACES:
            source = random.Random(20 * p + n)
            space = Space(p, n)
            with self.subTest(p=p, n=n):
                for turn in range(4):
                    drawn = drawn_lines(space, space.ways, source)
                    s = sorted(set(itertools.chain.from_iterable(drawn)))
                    self.assertTrue(self.check(p, n, s), s)

    def test_lines_through_one_point(self):
        # From one line on, till in the plane there's one in each direction.
        for p, n in SPACES:
            space = Space(p, n)
            with self.subTest(p=p, n=n):
                for many in range(1, min(p + 1, len(space.ways)) + 1):
                    whole = [space.line(0, v) for v in space.ways[:many]]
                    self.check(p, n, sorted(set(itertools.chain.from_iterable(whole))))

    def test_two_points_lie_on_just_one_line(self):
        for p, n in SPACES:
            source = random.Random(30 * p + n)
            ways = directions(p, n)[1:]
            with self.subTest(p=p, n=n):
                for turn in range(20):
                    x, other = source.sample(range(p ** n), 2)
                    through = [v for v in ways if other in line(p, n, x, v)[1:]]
                    self.assertEqual(len(through), 1, (x, other))
                    back = line(p, n, other, through[0])[1:]
                    self.assertEqual(sorted(back), sorted(line(p, n, x, through[0])[1:]))

    def test_in_each_direction_the_lines_part_all_points(self):
        for p, n in SPACES:
            with self.subTest(p=p, n=n):
                for v in directions(p, n)[1:]:
                    left = set(range(p ** n))
                    while left:
                        points = line(p, n, min(left), v)[1:]
                        self.assertEqual(len(set(points)), p)
                        self.assertLessEqual(set(points), left, (v, points))
                        self.assertEqual(has(p, n, v, sorted(points)), [1])
                        left -= set(points)


class Interface(unittest.TestCase):
    def test_all_calls_and_their_arguments(self):
        for name, arguments in ARGUMENTS.items():
            with self.subTest(name=name):
                parameters = inspect.signature(getattr(lines, name)).parameters.values()
                self.assertEqual([one.name for one in parameters], arguments)
                self.assertEqual({one.default for one in parameters}, {inspect.Parameter.empty})

    def test_whatever_was_called_in_between(self):
        first = [call(*handed(arguments)) for call, arguments in CALLS]
        source = random.Random(1)
        for turn in range(5):
            places = source.sample(range(len(CALLS)), len(CALLS))
            for place in places:
                call, arguments = CALLS[place]
                answer = call(*handed(arguments))
                self.assertEqual(answer, first[place], (call, arguments))
                # What was given back is nobody else's.
                answer.append(0)

    def test_below_0_is_a_refusal_alone(self):
        for call, arguments in CALLS:
            with self.subTest(call=call.__name__, arguments=arguments):
                answer = call(*arguments)
                self.assertIs(type(answer), list)
                self.assertEqual({type(item) for item in answer}, {int})
                if min(answer) < 0:
                    self.assertEqual(len(answer), 1)
                    self.assertIn(answer[0], (-22, -2, -28, -33))

    def test_prints_nothing(self):
        printed = io.StringIO()
        with contextlib.redirect_stdout(printed), contextlib.redirect_stderr(printed):
            for call, arguments in CALLS:
                call(*arguments)
        self.assertEqual(printed.getvalue(), "")

    def test_calls_within_one_another_are_few(self):
        before = sys.getrecursionlimit()
        sys.setrecursionlimit(len(inspect.stack()) + 30)
        try:
            for call, arguments in CALLS:
                call(*arguments)
        finally:
            sys.setrecursionlimit(before)


if __name__ == "__main__":
    unittest.main()
