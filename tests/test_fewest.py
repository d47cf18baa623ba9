"""fewest and bound, held against all sets, all choices of lines and all terms."""

import itertools
import math
import random
import unittest

from everywaydesk.lines import bound, fewest, has, lacks
from helper import GREATEST, PRIMES, SMALL_SPACES, SPACES, Space, terms_in_order

TOO_GREAT = ((7, 2), (3, 3), (5, 3), (7, 3))
REACHED = tuple(space for space in SPACES if space not in TOO_GREAT)
WRONG_SPACES = tuple(
    [(p, n) for p in (0, 1, 4, 6, 8, 9, 10, 11, 13, GREATEST) for n in (0, 1, 2, 3, 4, GREATEST)]
    + [(p, n) for p in PRIMES for n in (0, 4, 5, 7, GREATEST)])


def least_by_all_sets(space):
    """Go through every set of points, and tell how many the least have that lack nothing."""
    lines = space.lines_by_way()
    least = space.p ** space.n
    for bits in itertools.product((0, 1), repeat=space.p ** space.n):
        points = {x for x, bit in enumerate(bits) if bit}
        if len(points) < least:
            if all(any(whole <= points for whole in lines[v]) for v in space.ways):
                least = len(points)
    return least


def sets_by_all_lines(space):
    """All sets made up of one line in each direction, none left out for being moved."""
    sets = {frozenset()}
    for v in space.ways:
        lines = {frozenset(space.line(x, v)) for x in range(space.p ** space.n)}
        sets = {points | whole for points in sets for whole in lines}
    return sets


class Fewest(unittest.TestCase):
    def test_written_out(self):
        told = {(2, 1): 2, (3, 1): 3, (5, 1): 5, (7, 1): 7,
                (2, 2): 3, (3, 2): 7, (5, 2): 17, (2, 3): 5}
        self.assertEqual(sorted(told), sorted(REACHED))
        for p, n in REACHED:
            with self.subTest(p=p, n=n):
                self.assertEqual(fewest(p, n), [told[p, n]])

    def test_every_set(self):
        for p, n in SMALL_SPACES:
            with self.subTest(p=p, n=n):
                self.assertEqual(fewest(p, n), [least_by_all_sets(Space(p, n))])

    def test_every_choice_of_lines(self):
        for p, n in REACHED:
            with self.subTest(p=p, n=n):
                sets = sets_by_all_lines(Space(p, n))
                self.assertEqual(fewest(p, n), [min(len(points) for points in sets)])

    def test_sets_of_so_many_points_lack_nothing_and_less_of_them_do(self):
        for p, n in REACHED:
            sets = sets_by_all_lines(Space(p, n))
            many = fewest(p, n)[0]
            least = sorted(sorted(points) for points in sets if len(points) == many)
            source = random.Random(10 * p + n)
            with self.subTest(p=p, n=n):
                self.assertNotEqual(least, [])
                for s in source.sample(least, min(20, len(least))):
                    self.assertEqual(lacks(p, n, s), [0], s)
                    for point in s:
                        less = [x for x in s if x != point]
                        self.assertGreater(lacks(p, n, less)[0], 0, less)

    def test_drawn_sets_of_fewer_points_lack_something(self):
        for p, n in REACHED:
            source = random.Random(20 * p + n)
            many = fewest(p, n)[0]
            with self.subTest(p=p, n=n):
                for turn in range(200):
                    size = many - 1 if turn % 2 else source.randrange(many)
                    s = sorted(source.sample(range(p ** n), size))
                    self.assertGreater(lacks(p, n, s)[0], 0, s)

    def test_no_less_than_the_bound(self):
        for p, n in REACHED:
            with self.subTest(p=p, n=n):
                self.assertGreaterEqual(fewest(p, n)[0], bound(p, n)[0])


class Bound(unittest.TestCase):
    def test_written_out(self):
        told = {(2, 1): 2, (2, 2): 3, (2, 3): 4, (3, 1): 3, (3, 2): 6, (3, 3): 10,
                (5, 1): 5, (5, 2): 15, (5, 3): 35, (7, 1): 7, (7, 2): 28, (7, 3): 84}
        for p, n in SPACES:
            with self.subTest(p=p, n=n):
                self.assertEqual(bound(p, n), [told[p, n]])

    def test_counted_one_by_one(self):
        for p, n in SPACES:
            with self.subTest(p=p, n=n):
                count = 0
                for powers in terms_in_order(p, n):
                    if sum(powers) <= p - 1:
                        count += 1
                self.assertEqual(bound(p, n), [count])

    def test_ways_to_choose(self):
        for p, n in SPACES:
            with self.subTest(p=p, n=n):
                self.assertEqual(bound(p, n), [math.comb(p - 1 + n, n)])


class Refusals(unittest.TestCase):
    def test_too_great(self):
        for p, n in SPACES:
            with self.subTest(p=p, n=n):
                self.assertEqual(fewest(p, n) == [-28], (p, n) in TOO_GREAT)
                self.assertGreater(bound(p, n)[0], 0)

    def test_wrong_space(self):
        for p, n in WRONG_SPACES:
            with self.subTest(p=p, n=n):
                self.assertEqual(fewest(p, n), [-22])
                self.assertEqual(bound(p, n), [-22])


class Interface(unittest.TestCase):
    def test_names_of_arguments(self):
        self.assertEqual(fewest(p=3, n=2), [7])
        self.assertEqual(bound(p=3, n=2), [6])

    def test_a_list_of_one_whole_number(self):
        for p, n in SPACES + WRONG_SPACES:
            with self.subTest(p=p, n=n):
                for answer in (fewest(p, n), bound(p, n)):
                    self.assertIs(type(answer), list)
                    self.assertEqual([type(item) for item in answer], [int])

    def test_second_call_answers_like_the_first(self):
        for p, n in SPACES + ((4, 2), (3, 0)):
            with self.subTest(p=p, n=n):
                first = (fewest(p, n), bound(p, n))
                copy = (list(first[0]), list(first[1]))
                first[0].clear()
                first[1].append(1)
                fewest(5, 2)
                bound(7, 3)
                has(3, 2, 4, [1, 5, 6])
                fewest(7, 2)
                bound(4, 4)
                self.assertEqual((fewest(p, n), bound(p, n)), copy)


if __name__ == "__main__":
    unittest.main()
