import itertools
import unittest

from everywaydesk.lines import directions, line

PRIMES = (2, 3, 5, 7)
SPACES = tuple(itertools.product(PRIMES, (1, 2, 3)))
GREATEST = 4294967295


def all_points(p, n):
    """Each point's numbers by its number: the last number turns slowest."""
    turned = itertools.product(range(p), repeat=n)
    return [tuple(reversed(numbers)) for numbers in turned]


def is_direction(numbers):
    return [value for value in numbers if value != 0][:1] == [1]


def expected_line(p, points, number_of, x, v):
    told = [x]
    while len(told) < p:
        here = points[told[-1]]
        told.append(number_of[tuple((a + b) % p for a, b in zip(here, points[v]))])
    return [p] + told


class Answers(unittest.TestCase):
    def test_written_out(self):
        self.assertEqual(line(3, 2, 5, 4), [3, 5, 6, 1])
        self.assertEqual(line(3, 2, 0, 7), [3, 0, 7, 5])
        self.assertEqual(line(5, 2, 7, 16), [5, 7, 23, 14, 0, 16])
        self.assertEqual(line(7, 3, 342, 57), [7, 342, 0, 57, 114, 171, 228, 285])
        self.assertEqual(line(3, 3, 26, 9), [3, 26, 8, 17])

    def test_n_of_1(self):
        self.assertEqual(line(2, 1, 0, 1), [2, 0, 1])
        self.assertEqual(line(2, 1, 1, 1), [2, 1, 0])
        self.assertEqual(line(5, 1, 3, 1), [5, 3, 4, 0, 1, 2])
        self.assertEqual(line(7, 1, 6, 1), [7, 6, 0, 1, 2, 3, 4, 5])

    def test_p_of_2(self):
        self.assertEqual(line(2, 2, 3, 1), [2, 3, 2])
        self.assertEqual(line(2, 2, 1, 3), [2, 1, 2])
        self.assertEqual(line(2, 3, 5, 6), [2, 5, 3])
        self.assertEqual(line(2, 3, 7, 7), [2, 7, 0])

    def test_every_point_with_every_direction(self):
        for p, n in SPACES:
            points = all_points(p, n)
            number_of = {numbers: x for x, numbers in enumerate(points)}
            ways = [v for v, numbers in enumerate(points) if is_direction(numbers)]
            with self.subTest(p=p, n=n):
                for x, v in itertools.product(range(p ** n), ways):
                    expected = expected_line(p, points, number_of, x, v)
                    self.assertEqual(line(p, n, x, v), expected, (x, v))


class WhatHolds(unittest.TestCase):
    def test_two_points_lie_on_just_one_line(self):
        for p, n in SPACES:
            with self.subTest(p=p, n=n):
                lines = set()
                for x, v in itertools.product(range(p ** n), directions(p, n)[1:]):
                    lines.add(frozenset(line(p, n, x, v)[1:]))
                pairs = []
                for points in lines:
                    pairs.extend(itertools.combinations(sorted(points), 2))
                expected = itertools.combinations(range(p ** n), 2)
                self.assertEqual(sorted(pairs), list(expected))

    def test_in_each_direction_the_lines_part_all_points(self):
        for p, n in SPACES:
            for v in directions(p, n)[1:]:
                with self.subTest(p=p, n=n, v=v):
                    lines = {frozenset(line(p, n, x, v)[1:]) for x in range(p ** n)}
                    parted = sorted(itertools.chain.from_iterable(lines))
                    self.assertEqual(parted, list(range(p ** n)))
                    self.assertEqual({len(points) for points in lines}, {p})


class Refusals(unittest.TestCase):
    def test_no_such_point(self):
        for p, n in SPACES:
            last = p ** n - 1
            for v in directions(p, n)[1:]:
                with self.subTest(p=p, n=n, v=v):
                    self.assertEqual(line(p, n, last, v)[:2], [p, last])
                    for x in (last + 1, last + 2, p * (last + 1), GREATEST):
                        self.assertEqual(line(p, n, x, v), [-2], x)

    def test_every_point_that_is_no_direction(self):
        for p, n in SPACES:
            with self.subTest(p=p, n=n):
                for v, numbers in enumerate(all_points(p, n)):
                    if not is_direction(numbers):
                        self.assertEqual(line(p, n, 0, v), [-2], v)

    def test_written_out_no_direction(self):
        self.assertEqual(line(3, 2, 0, 0), [-2])
        self.assertEqual(line(3, 2, 0, 2), [-2])
        # First 2, then 1: the last number that isn't 0 is not the one that counts.
        self.assertEqual(line(3, 2, 0, 5), [-2])
        self.assertEqual(line(3, 2, 0, 6), [-2])
        self.assertEqual(line(2, 1, 0, 0), [-2])
        self.assertEqual(line(7, 1, 0, 6), [-2])

    def test_direction_that_is_no_point(self):
        for p, n in SPACES:
            with self.subTest(p=p, n=n):
                beyond = p ** n
                for v in (beyond, beyond + 1, beyond + p, p * beyond + 1, GREATEST):
                    self.assertEqual(line(p, n, 0, v), [-2], v)

    def test_neither_point_nor_direction(self):
        for p, n in SPACES:
            with self.subTest(p=p, n=n):
                self.assertEqual(line(p, n, p ** n, 0), [-2])
                self.assertEqual(line(p, n, GREATEST, GREATEST), [-2])

    def test_wrong_p(self):
        for p in (0, 1, 4, 6, 8, 9, 10, 11, 13, GREATEST):
            for n in (1, 2, 3):
                with self.subTest(p=p, n=n):
                    self.assertEqual(line(p, n, 0, 1), [-22])

    def test_wrong_n(self):
        for p in PRIMES:
            for n in (0, 4, 5, GREATEST):
                with self.subTest(p=p, n=n):
                    self.assertEqual(line(p, n, 0, 1), [-22])

    def test_of_several_the_one_told_first(self):
        wrong_spaces = ((4, 2), (0, 0), (3, 0), (3, 4), (1, 1), (GREATEST, GREATEST))
        for p, n in wrong_spaces:
            for x, v in itertools.product((0, GREATEST), (0, 1, GREATEST)):
                with self.subTest(p=p, n=n, x=x, v=v):
                    self.assertEqual(line(p, n, x, v), [-22])


class Interface(unittest.TestCase):
    def test_names_of_arguments(self):
        self.assertEqual(line(p=3, n=2, x=5, v=4), [3, 5, 6, 1])

    def test_a_list_of_whole_numbers(self):
        for told in ((2, 1, 0, 1), (7, 3, 342, 57), (4, 1, 0, 1), (3, 2, 9, 1)):
            with self.subTest(told=told):
                answer = line(*told)
                self.assertIs(type(answer), list)
                self.assertEqual({type(item) for item in answer}, {int})

    def test_nothing_is_kept(self):
        for told in ((3, 2, 5, 4), (3, 2, 9, 4), (4, 2, 5, 4)):
            with self.subTest(told=told):
                first = line(*told)
                copy = list(first)
                first.clear()
                line(7, 3, 342, 57)
                line(3, 2, 9, 9)
                self.assertEqual(line(*told), copy)


if __name__ == "__main__":
    unittest.main()
