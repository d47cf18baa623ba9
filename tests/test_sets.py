"""has and lacks, on the same sets, held against the document's own words."""

import itertools
import random
import unittest

from everywaydesk.lines import has, lacks
from helper import (
    GREAT_SPACES, GREATEST, PRIMES, SMALL_SPACES, SPACES, Space, Untouched,
    all_but_a_curved_face, drawn_lines, drawn_set, without_each, wrong_sets)


class SetCase(unittest.TestCase):
    def check(self, space, lines, s):
        """Try has in each direction, then lacks; tell in which directions there's no line."""
        points = set(s)
        expected = []
        for v in space.ways:
            there = any(whole <= points for whole in lines[v])
            self.assertEqual(has(space.p, space.n, v, s), [1 if there else 0], (v, s))
            if not there:
                expected.append(v)
        self.assertEqual(lacks(space.p, space.n, s), [len(expected)] + expected, s)
        return expected


class WrittenOut(unittest.TestCase):
    def test_has(self):
        # From 5 in direction 4 lie 5, 6, 1.
        self.assertEqual(has(3, 2, 4, [1, 5, 6]), [1])
        self.assertEqual(has(3, 2, 4, [1, 5, 7]), [0])
        self.assertEqual(has(3, 2, 4, [1, 6]), [0])
        self.assertEqual(has(3, 2, 7, [1, 5, 6]), [0])
        self.assertEqual(has(3, 2, 1, [0, 1, 2]), [1])
        self.assertEqual(has(3, 2, 3, [0, 1, 2]), [0])
        self.assertEqual(has(3, 2, 1, [1, 2, 3]), [0])
        self.assertEqual(has(7, 3, 57, [0, 57, 114, 171, 228, 285, 342]), [1])
        self.assertEqual(has(7, 3, 57, [0, 57, 114, 171, 228, 285, 341]), [0])

    def test_lacks(self):
        self.assertEqual(lacks(3, 2, [1, 5, 6]), [3, 1, 3, 7])
        self.assertEqual(lacks(3, 2, [0, 1, 2, 3, 6]), [2, 4, 7])
        self.assertEqual(lacks(3, 2, []), [4, 1, 3, 4, 7])
        self.assertEqual(lacks(2, 2, [1, 2]), [2, 1, 2])
        self.assertEqual(lacks(2, 2, [0, 1, 2]), [0])
        self.assertEqual(lacks(2, 3, [0, 1, 2, 4]), [1, 7])
        self.assertEqual(lacks(3, 1, [0, 2]), [1, 1])
        self.assertEqual(lacks(3, 1, [0, 1, 2]), [0])


class SmallSpaces(SetCase):
    def test_every_set(self):
        for p, n in SMALL_SPACES:
            space = Space(p, n)
            lines = space.lines_by_way()
            with self.subTest(p=p, n=n):
                for bits in itertools.product((0, 1), repeat=p ** n):
                    self.check(space, lines, [x for x, bit in enumerate(bits) if bit])


class GreatSpaces(SetCase):
    def test_drawn_sets(self):
        for p, n in GREAT_SPACES:
            source = random.Random(10 * p + n)
            space = Space(p, n)
            lines = space.lines_by_way()
            seen = set()
            with self.subTest(p=p, n=n):
                for part in (0.1, 0.3, 0.4, 0.5, 0.55, 0.6, 0.65, 0.7, 0.9):
                    for turn in range(5):
                        lacking = self.check(space, lines, drawn_set(space, part, source))
                        seen.add(len(lacking))
                # The drawn sets reach from no line at all to one in each direction.
                self.assertLess({0, len(space.ways)}, seen)

    def test_several_lines_and_one_point_taken_away(self):
        for p, n in GREAT_SPACES:
            source = random.Random(100 * p + n)
            space = Space(p, n)
            lines = space.lines_by_way()
            with self.subTest(p=p, n=n):
                for many in (2, 3, len(space.ways) // 2, len(space.ways) - 1, len(space.ways)):
                    drawn = drawn_lines(space, source.sample(space.ways, many), source)
                    union = sorted(set(itertools.chain.from_iterable(drawn)))
                    self.check(space, lines, union)
                    for point in drawn[0]:
                        self.check(space, lines, [x for x in union if x != point])


class Corners(SetCase):
    def test_empty_set(self):
        for p, n in SPACES:
            ways = Space(p, n).ways
            with self.subTest(p=p, n=n):
                self.assertEqual(lacks(p, n, []), [len(ways)] + ways)
                for v in ways:
                    self.assertEqual(has(p, n, v, []), [0], v)

    def test_all_points(self):
        for p, n in SPACES:
            points = list(range(p ** n))
            with self.subTest(p=p, n=n):
                self.assertEqual(lacks(p, n, points), [0])
                for v in Space(p, n).ways:
                    self.assertEqual(has(p, n, v, points), [1], v)

    def test_all_points_but_one(self):
        for p, n in SPACES:
            expected = [1, 1] if n == 1 else [0]
            with self.subTest(p=p, n=n):
                for s in without_each(range(p ** n)):
                    self.assertEqual(lacks(p, n, s), expected, s)

    def test_one_point(self):
        for p, n in SPACES:
            ways = Space(p, n).ways
            with self.subTest(p=p, n=n):
                for x in (0, 1, p ** n - 1):
                    self.assertEqual(lacks(p, n, [x]), [len(ways)] + ways)

    def test_a_line_and_one_point_of_it_taken_away(self):
        for p, n in SPACES:
            source = random.Random(1000 * p + n)
            space = Space(p, n)
            with self.subTest(p=p, n=n):
                for v in space.ways:
                    others = [way for way in space.ways if way != v]
                    s = sorted(space.line(source.randrange(p ** n), v))
                    self.assertEqual(has(p, n, v, s), [1], s)
                    self.assertEqual(lacks(p, n, s), [len(others)] + others, s)
                    for less in without_each(s):
                        self.assertEqual(has(p, n, v, less), [0], less)
                        self.assertEqual(lacks(p, n, less), [len(space.ways)] + space.ways, less)

    def test_lines_in_all_directions_but_one(self):
        for p, n in SPACES:
            if p == 2 or n == 1:
                continue
            space = Space(p, n)
            with self.subTest(p=p, n=n):
                for v in space.ways:
                    s = all_but_a_curved_face(space, v)
                    self.assertEqual(lacks(p, n, s), [1, v], s)
                    for way in space.ways:
                        self.assertEqual(has(p, n, way, s), [0 if way == v else 1], (way, s))

    def test_lines_in_all_directions_but_one_with_p_of_2(self):
        # Lines are pairs of points here: 0 and three others have the sums of any two.
        tried = set()
        for a, b, c in itertools.combinations(range(1, 8), 3):
            v = a ^ b ^ c
            if v != 0:
                self.assertEqual(lacks(2, 3, [0, a, b, c]), [1, v])
                tried.add(v)
        self.assertEqual(tried, set(range(1, 8)))


class Refusals(unittest.TestCase):
    def test_no_set(self):
        for p, n in SPACES:
            for s in wrong_sets(p, n):
                with self.subTest(p=p, n=n, s=s):
                    self.assertEqual(lacks(p, n, s), [-22])
                    self.assertEqual(has(p, n, 1, s), [-22])

    def test_not_rising_though_each_is_a_point(self):
        self.assertEqual(lacks(3, 2, [0, 2, 1]), [-22])
        self.assertEqual(has(3, 2, 1, [0, 2, 1]), [-22])
        self.assertEqual(lacks(3, 2, [1, 5, 5, 6]), [-22])
        self.assertEqual(has(3, 2, 4, [1, 5, 5, 6]), [-22])
        # The line as it is told by the call line isn't rising.
        self.assertEqual(has(3, 2, 4, [5, 6, 1]), [-22])

    def test_just_beyond_the_last_point(self):
        self.assertEqual(lacks(7, 3, [342]), [57] + Space(7, 3).ways)
        self.assertEqual(lacks(7, 3, [343]), [-22])
        self.assertEqual(has(7, 3, 1, [342]), [0])
        self.assertEqual(has(7, 3, 1, [343]), [-22])

    def test_every_point_that_is_no_direction(self):
        for p, n in SPACES:
            space = Space(p, n)
            with self.subTest(p=p, n=n):
                for v in range(p ** n):
                    if v not in space.ways:
                        for s in ([], [0], list(range(p ** n))):
                            self.assertEqual(has(p, n, v, s), [-2], v)

    def test_written_out_no_direction(self):
        for v in (0, 2, 5, 6, 8, 9, 10, 12, 13, GREATEST):
            with self.subTest(v=v):
                self.assertEqual(has(3, 2, v, [0, 1, 2]), [-2])

    def test_direction_that_is_no_point(self):
        for p, n in SPACES:
            beyond = p ** n
            with self.subTest(p=p, n=n):
                for v in (beyond, beyond + 1, beyond + p, p * beyond + 1, GREATEST):
                    for s in ([], [0], list(range(beyond))):
                        self.assertEqual(has(p, n, v, s), [-2], v)

    def test_wrong_p(self):
        for p in (0, 1, 4, 6, 8, 9, 10, 11, 13, GREATEST):
            for n in (1, 2, 3):
                for s in ([], [0], [0, 1]):
                    with self.subTest(p=p, n=n, s=s):
                        self.assertEqual(lacks(p, n, s), [-22])
                        self.assertEqual(has(p, n, 1, s), [-22])

    def test_wrong_n(self):
        for p in PRIMES:
            for n in (0, 4, 5, GREATEST):
                for s in ([], [0], [0, 1]):
                    with self.subTest(p=p, n=n, s=s):
                        self.assertEqual(lacks(p, n, s), [-22])
                        self.assertEqual(has(p, n, 1, s), [-22])

    def test_wrong_set_ahead_of_no_direction(self):
        for p, n in SPACES:
            for s in wrong_sets(p, n):
                with self.subTest(p=p, n=n, s=s):
                    for v in (0, p ** n, p ** n + 1, GREATEST):
                        self.assertEqual(has(p, n, v, s), [-22], v)

    def test_wrong_space_ahead_of_all_else(self):
        wrong_spaces = ((4, 2), (0, 0), (3, 0), (3, 4), (1, 1), (GREATEST, GREATEST))
        for p, n in wrong_spaces:
            for v, s in itertools.product((0, 1, GREATEST), ([], [0], [1, 0], [GREATEST])):
                with self.subTest(p=p, n=n, v=v, s=s):
                    self.assertEqual(has(p, n, v, s), [-22])
                    self.assertEqual(lacks(p, n, s), [-22])


HANDED_IN = (
    (3, 2, 4, [1, 5, 6]), (3, 2, 4, [1, 5, 7]), (3, 2, 4, []), (2, 1, 1, [0, 1]),
    (7, 3, 57, list(range(343))), (7, 3, 57, list(range(0, 343, 2))),
    (3, 2, 0, [1, 5, 6]), (3, 2, 4, [6, 5, 1]), (3, 2, 4, [1, 1]), (3, 2, 4, [5, 9]),
    (4, 2, 4, [1, 5, 6]), (3, 4, 4, [3, 2, 1]), (7, 3, 1, list(range(400))))


class Interface(unittest.TestCase):
    def test_names_of_arguments(self):
        self.assertEqual(has(p=3, n=2, v=4, s=[1, 5, 6]), [1])
        self.assertEqual(lacks(p=3, n=2, s=[1, 5, 6]), [3, 1, 3, 7])

    def test_a_list_of_whole_numbers(self):
        for p, n, v, s in HANDED_IN:
            with self.subTest(p=p, n=n, v=v, s=s):
                for answer in (has(p, n, v, s), lacks(p, n, s)):
                    self.assertIs(type(answer), list)
                    # True and False equal 1 and 0, but are no whole numbers here.
                    self.assertEqual({type(item) for item in answer}, {int})

    def test_set_is_not_changed(self):
        for p, n, v, s in HANDED_IN:
            with self.subTest(p=p, n=n, v=v, s=s):
                handed = list(s)
                self.assertEqual(has(p, n, v, Untouched(s)), has(p, n, v, handed))
                self.assertEqual(handed, s)
                self.assertEqual(lacks(p, n, Untouched(s)), lacks(p, n, handed))
                self.assertEqual(handed, s)

    def test_second_call_answers_like_the_first(self):
        for p, n, v, s in HANDED_IN:
            with self.subTest(p=p, n=n, v=v, s=s):
                first = (has(p, n, v, s), lacks(p, n, s))
                copy = (list(first[0]), list(first[1]))
                first[0].clear()
                first[1].clear()
                has(7, 3, 57, [0])
                lacks(2, 3, [0, 1, 2, 4])
                has(3, 2, 4, [9, 9])
                self.assertEqual((has(p, n, v, s), lacks(p, n, s)), copy)

    def test_same_list_with_other_points(self):
        s = [1, 5, 6]
        self.assertEqual((has(3, 2, 4, s), lacks(3, 2, s)), ([1], [3, 1, 3, 7]))
        s[2] = 7
        self.assertEqual((has(3, 2, 4, s), lacks(3, 2, s)), ([0], [4, 1, 3, 4, 7]))
        s[0] = 8
        self.assertEqual((has(3, 2, 4, s), lacks(3, 2, s)), ([-22], [-22]))


if __name__ == "__main__":
    unittest.main()
