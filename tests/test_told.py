"""told, held against the document's own words by other ways than the program's."""

import itertools
import random
import unittest

from everywaydesk.lines import has, lacks, told
from helper import (
    GREAT_SPACES, GREATEST, PRIMES, SPACES, Space, Untouched, all_but_a_curved_face,
    drawn_lines, drawn_set, terms_in_order, value_at, without_each, wrong_sets)

# Spaces with terms so few that all factors can be tried out, on every set of points.
TRIED_SPACES = ((2, 1), (2, 2), (2, 3), (3, 1), (3, 2), (5, 1))
PLANES = tuple((p, n) for p, n in SPACES if n == 2)


def answer_of(space, highest):
    """Tell the answer from the highest terms, as pairs of a factor and powers."""
    degree = sum(highest[0][1])
    if degree >= space.p:
        return [-33]
    for v in space.ways:
        if value_at(space.p, highest, space.points[v]) != 0:
            return [v, degree]


class TriedOut:
    """All polynomials of a space whose last term has factor 1, by their last term's order."""

    def __init__(self, space):
        self.space = space
        self.terms = terms_in_order(space.p, space.n)
        self.found = []
        for place in range(len(self.terms)):
            last = self.terms[place]
            for factors in itertools.product(range(space.p), repeat=place):
                told_terms = list(zip(factors, self.terms)) + [(1, last)]
                zeros = frozenset(
                    x for x, numbers in enumerate(space.points)
                    if value_at(space.p, told_terms, numbers) == 0)
                self.found.append((place, zeros, told_terms))

    def answer(self, s):
        """Tell what is to be answered for s, and how many have the same last term."""
        points = frozenset(s)
        fitting = [one for one in self.found if points <= one[1]]
        if not fitting:
            return [-33], 0
        place, zeros, told_terms = fitting[0]
        degree = sum(self.terms[place])
        highest = [term for term in told_terms if sum(term[1]) == degree]
        alike = [one for one in fitting if one[0] == place]
        return answer_of(self.space, highest), len(alike)


def answer_point_by_point(space, terms, s):
    """Let go, at each point, of the least polynomial that isn't 0 there.

    What is left is 0 at the points so far, and no two have the same last term, so in the
    end the first one left is the set's polynomial. The program goes term by term.
    """
    p = space.p
    left = []
    for place, powers in enumerate(terms):
        values = [value_at(p, [(1, powers)], space.points[x]) for x in s]
        left.append(values + [1 if other == place else 0 for other in range(len(terms))])
    for at in range(len(s)):
        least = next((row for row in left if row[at] != 0), None)
        others = []
        for row in left:
            if row is least:
                continue
            if row[at] != 0:
                times = row[at] * pow(least[at], -1, p)
                row = [(a - times * b) % p for a, b in zip(row, least)]
            others.append(row)
        left = others
    if not left:
        return [-33]
    pairs = [pair for pair in zip(left[0][len(s):], terms) if pair[0] != 0]
    degree = max(sum(powers) for factor, powers in pairs)
    return answer_of(space, [pair for pair in pairs if sum(pair[1]) == degree])


def terms_to_look_at(p, n):
    # In the two greatest spaces those of degree p and more are too many, and not needed.
    return [powers for powers in terms_in_order(p, n) if p ** n < 100 or sum(powers) < p]


def zeros_of_drawn(space, degree, source):
    """The points at which a drawn polynomial of that degree at most is 0."""
    terms = [powers for powers in terms_in_order(space.p, space.n) if sum(powers) <= degree]
    pairs = [(source.randrange(space.p), powers) for powers in terms[1:]]
    return [x for x, numbers in enumerate(space.points) if value_at(space.p, pairs, numbers) == 0]


class ToldCase(unittest.TestCase):
    def check_what_holds(self, p, n, s, answer):
        """In the direction told there's no line; of fewer points than the bound one's told."""
        if answer == [-33]:
            count = sum(1 for powers in terms_in_order(p, n) if sum(powers) <= p - 1)
            self.assertGreaterEqual(len(s), count, s)
        else:
            self.assertEqual(len(answer), 2, s)
            self.assertEqual(has(p, n, answer[0], s), [0], s)
            self.assertLess(answer[1], p, s)

    def check(self, space, terms, s):
        answer = told(space.p, space.n, s)
        self.assertEqual(answer, answer_point_by_point(space, terms, s), s)
        self.check_what_holds(space.p, space.n, s, answer)
        return answer


class WrittenOut(unittest.TestCase):
    def test_one_point(self):
        # Of x2 and x1 the one with the first unknown less often comes first.
        self.assertEqual(told(3, 2, [0]), [3, 1])
        self.assertEqual(told(3, 2, [8]), [3, 1])
        self.assertEqual(told(3, 3, [0]), [9, 1])
        self.assertEqual(told(3, 1, [0]), [1, 1])
        self.assertEqual(told(2, 3, [7]), [4, 1])

    def test_lines_of_the_plane(self):
        # x2; x1; x1 - x2 - 1; x1 + x2.
        self.assertEqual(told(3, 2, [0, 1, 2]), [3, 1])
        self.assertEqual(told(3, 2, [0, 3, 6]), [1, 1])
        self.assertEqual(told(3, 2, [1, 5, 6]), [1, 1])
        self.assertEqual(told(3, 2, [0, 5, 7]), [1, 1])

    def test_two_lines_of_the_plane(self):
        # x1 * x2, which is 0 at 1 and 3; x2 * (x1 - x2), at 1 and 4; x1 * (x1 - x2).
        self.assertEqual(told(3, 2, [0, 1, 2, 3, 6]), [4, 2])
        self.assertEqual(told(3, 2, [0, 1, 2, 4, 8]), [3, 2])
        self.assertEqual(told(3, 2, [0, 3, 4, 6, 8]), [1, 2])

    def test_highest_terms_that_come_to_0(self):
        # x1 * x1 - x2 * x2 is 0 at 4 and 7, though no term of it is; at 1 it isn't.
        self.assertEqual(told(3, 2, [0, 4, 5, 7, 8]), [1, 2])
        # x1 * x1 * x2 - x1 * x2 * x2: at 1 and 5 no term counts, at 6 they come to 0.
        self.assertEqual(told(5, 2, [0, 1, 2, 3, 4, 5, 6, 10, 12, 15, 18, 20, 24]), [11, 3])

    def test_too_high(self):
        # 1, x2, x1 and their products of degree 2: none comes from those before it.
        self.assertEqual(told(3, 2, [0, 1, 2, 3, 4, 6]), [-33])
        self.assertEqual(told(2, 2, [0, 1, 2]), [-33])
        self.assertEqual(told(2, 3, [0, 1, 2, 4]), [-33])
        self.assertEqual(told(2, 3, [0, 1, 2, 3]), [4, 1])

    def test_planes(self):
        self.assertEqual(told(3, 3, list(range(9))), [9, 1])
        self.assertEqual(told(3, 3, list(range(18))), [9, 2])
        self.assertEqual(told(3, 3, list(range(19))), [-33])
        self.assertEqual(told(7, 3, list(range(294))), [49, 6])
        self.assertEqual(told(7, 3, list(range(295))), [-33])


class TriedOutSpaces(ToldCase):
    def test_every_set(self):
        for p, n in TRIED_SPACES:
            space = Space(p, n)
            tried = TriedOut(space)
            terms = terms_in_order(p, n)
            with self.subTest(p=p, n=n):
                for bits in itertools.product((0, 1), repeat=p ** n):
                    s = [x for x, bit in enumerate(bits) if bit]
                    expected, alike = tried.answer(s)
                    self.assertLessEqual(alike, 1, s)
                    self.assertEqual(self.check(space, terms, s), expected, s)


class DrawnSets(ToldCase):
    def test_many_sizes(self):
        for p, n in GREAT_SPACES:
            source = random.Random(20 * p + n)
            space = Space(p, n)
            terms = terms_to_look_at(p, n)
            bound = sum(1 for powers in terms if sum(powers) < p)
            sizes = [bound - 2, bound - 1, bound, bound + 1]
            sizes += [p ** n * part // 10 for part in range(1, 10)]
            seen = set()
            with self.subTest(p=p, n=n):
                for size in sizes * 2:
                    s = sorted(source.sample(range(p ** n), size))
                    seen.add(self.check(space, terms, s)[0] == -33)
                self.assertEqual(seen, {True, False})

    def test_fewer_points_than_the_bound(self):
        for p, n in SPACES:
            source = random.Random(30 * p + n)
            bound = sum(1 for powers in terms_in_order(p, n) if sum(powers) < p)
            with self.subTest(p=p, n=n):
                for turn in range(40):
                    size = source.randrange(bound) if turn % 4 else bound - 1
                    s = sorted(source.sample(range(p ** n), size))
                    answer = told(p, n, s)
                    self.assertNotEqual(answer, [-33], s)
                    self.check_what_holds(p, n, s, answer)

    def test_zeros_of_drawn_polynomials(self):
        for p, n in GREAT_SPACES:
            source = random.Random(40 * p + n)
            space = Space(p, n)
            terms = terms_to_look_at(p, n)
            with self.subTest(p=p, n=n):
                for degree in list(range(1, p)) * 2:
                    s = zeros_of_drawn(space, degree, source)
                    if len(s) < p ** n:
                        self.assertLessEqual(self.check(space, terms, s)[-1], degree, s)

    def test_several_lines(self):
        for p, n in GREAT_SPACES:
            source = random.Random(50 * p + n)
            space = Space(p, n)
            terms = terms_to_look_at(p, n)
            with self.subTest(p=p, n=n):
                for many in (2, 3, p, len(space.ways) // 2, len(space.ways) - 1):
                    drawn = drawn_lines(space, source.sample(space.ways, many), source)
                    union = sorted(set(itertools.chain.from_iterable(drawn)))
                    self.check(space, terms, union)
                    self.check(space, terms, [x for x in union if x != drawn[0][0]])

    def test_most_points(self):
        for p, n in GREAT_SPACES:
            source = random.Random(60 * p + n)
            space = Space(p, n)
            with self.subTest(p=p, n=n):
                s = drawn_set(space, 0.95, source)
                self.assertEqual(self.check(space, terms_to_look_at(p, n), s), [-33])


class KnownPolynomials(ToldCase):
    """Sets of which the polynomial is known without reckoning."""

    def check_known(self, p, n, s, expected):
        self.assertEqual(told(p, n, s), expected, s)
        self.check_what_holds(p, n, s, expected)

    def test_n_of_1(self):
        # The product of x1 - a over the points a: its degree is their number.
        for p in PRIMES:
            for bits in itertools.product((0, 1), repeat=p):
                s = [x for x, bit in enumerate(bits) if bit]
                self.check_known(p, 1, s, [1, len(s)] if len(s) < p else [-33])

    def test_a_line(self):
        for p, n in SPACES:
            space = Space(p, n)
            with self.subTest(p=p, n=n):
                for x, v in itertools.product(range(0, p ** n, 1 + p ** n // 25), space.ways):
                    # On it the last unknown is the same everywhere, or tells the one before.
                    still = space.points[v][-1] == 0
                    expected = [p ** (n - 1) if still else p ** (n - 2), 1]
                    if n == 1:
                        expected = [-33]
                    self.check_known(p, n, sorted(space.line(x, v)), expected)

    def test_lines_of_the_plane(self):
        # Fewer than p lines: the product of their terms, 0 at their directions alone.
        for p, n in PLANES:
            source = random.Random(70 * p)
            space = Space(p, n)
            with self.subTest(p=p):
                for many in list(range(1, p)) * 12:
                    ways = source.sample(space.ways, many)
                    if source.random() < 0.5:
                        # The first directions are those that are passed over.
                        ways = space.ways[:many]
                    drawn = drawn_lines(space, ways, source)
                    union = sorted(set(itertools.chain.from_iterable(drawn)))
                    left = [v for v in space.ways if v not in ways]
                    self.check_known(p, n, union, [left[0], many])

    def test_planes(self):
        # Fewer than p planes in each of which lie the directions at which its terms are 0.
        for p in PRIMES:
            source = random.Random(80 * p)
            space = Space(p, 3)
            with self.subTest(p=p):
                for many in list(range(1, p)) * 3:
                    faces = set()
                    while len(faces) < many:
                        faces.add((source.choice(space.ways), source.randrange(p)))
                    expected, s = self.planes(space, faces)
                    self.check_known(p, 3, s, [expected, many])

    def planes(self, space, faces):
        """Tell the first direction that lies in none of the planes, then all their points."""
        points = set()
        flat = set()
        for way, height in faces:
            for x, numbers in enumerate(space.points):
                come = sum(a * b for a, b in zip(space.points[way], numbers)) % space.p
                if come == height:
                    points.add(x)
                if come == 0:
                    flat.add(x)
        return [v for v in space.ways if v not in flat][0], sorted(points)

    def test_boxes(self):
        # A choice of values for each unknown: the fewest count, of like ones the last's.
        for p, n in SPACES:
            source = random.Random(90 * p + n)
            space = Space(p, n)
            with self.subTest(p=p, n=n):
                for turn in range(30):
                    sides = [source.sample(range(p), source.randint(1, p)) for place in range(n)]
                    counts = [len(side) for side in sides]
                    s = [x for x, numbers in enumerate(space.points)
                         if all(a in side for a, side in zip(numbers, sides))]
                    if min(counts) == p:
                        expected = [-33]
                    else:
                        last = max(place for place in range(n) if counts[place] == min(counts))
                        expected = [p ** last, min(counts)]
                    self.check_known(p, n, s, expected)

    def test_first_directions_at_which_the_highest_terms_are_0(self):
        for p in (3, 5, 7):
            space = Space(p, 3)
            with self.subTest(p=p):
                # x2 * x3: the first point with neither 0 is 0, 1, 1.
                s = [x for x, numbers in enumerate(space.points) if 0 in numbers[1:]]
                self.check_known(p, 3, s, [p + p * p, 2])
                # x1 * x3: 1, 0, 1.
                s = [x for x, numbers in enumerate(space.points) if 0 in numbers[::2]]
                self.check_known(p, 3, s, [1 + p * p, 2])
        for p in (5, 7):
            space = Space(p, 3)
            with self.subTest(p=p):
                # x1 * x2 * x3: 1, 1, 1.
                s = [x for x, numbers in enumerate(space.points) if 0 in numbers]
                self.check_known(p, 3, s, [1 + p + p * p, 3])

    def test_highest_terms_that_are_nowhere_0(self):
        # x1 * x1 - 3 * x2 * x2 - 1 with p of 7: 3 is no square.
        space = Space(7, 2)
        s = [x for x, (a, b) in enumerate(space.points) if (a * a - 3 * b * b - 1) % 7 == 0]
        self.assertEqual(len(s), 8)
        self.check_known(7, 2, s, [1, 2])


class Corners(ToldCase):
    def test_empty_set(self):
        for p, n in SPACES:
            with self.subTest(p=p, n=n):
                self.assertEqual(told(p, n, []), [1, 0])

    def test_all_points(self):
        for p, n in SPACES:
            with self.subTest(p=p, n=n):
                self.assertEqual(told(p, n, list(range(p ** n))), [-33])

    def test_all_points_but_one(self):
        for p, n in SPACES:
            expected = [1, p - 1] if n == 1 else [-33]
            with self.subTest(p=p, n=n):
                for x in sorted({0, 1, p ** n // 2, p ** n - 2, p ** n - 1}):
                    s = [other for other in range(p ** n) if other != x]
                    self.assertEqual(told(p, n, s), expected, s)

    def test_one_point(self):
        for p, n in SPACES:
            with self.subTest(p=p, n=n):
                for x in range(p ** n):
                    self.assertEqual(told(p, n, [x]), [p ** (n - 1), 1], x)

    def test_a_line_and_one_point_of_it_taken_away(self):
        for p, n in GREAT_SPACES:
            space = Space(p, n)
            terms = terms_to_look_at(p, n)
            with self.subTest(p=p, n=n):
                for v in space.ways[::len(space.ways) // 4]:
                    for s in without_each(sorted(space.line(v, v))):
                        self.check(space, terms, s)

    def test_lines_in_all_directions_but_one(self):
        # Highest terms of degree below p that are 0 at all directions but one are none.
        for p, n in SPACES:
            if p == 2 or n == 1:
                continue
            space = Space(p, n)
            with self.subTest(p=p, n=n):
                for v in space.ways:
                    s = all_but_a_curved_face(space, v)
                    self.assertEqual(lacks(p, n, s), [1, v], s)
                    self.assertEqual(told(p, n, s), [-33], s)

    def test_lines_in_all_directions_but_one_with_p_of_2(self):
        for a, b, c in itertools.combinations(range(1, 8), 3):
            if a ^ b ^ c != 0:
                self.assertEqual(lacks(2, 3, [0, a, b, c])[0], 1)
                self.assertEqual(told(2, 3, [0, a, b, c]), [-33])


class Refusals(unittest.TestCase):
    def test_no_set(self):
        for p, n in SPACES:
            for s in wrong_sets(p, n):
                with self.subTest(p=p, n=n, s=s):
                    self.assertEqual(told(p, n, s), [-22])

    def test_just_beyond_the_last_point(self):
        self.assertEqual(told(7, 3, [342]), [49, 1])
        self.assertEqual(told(7, 3, [343]), [-22])
        self.assertEqual(told(7, 3, list(range(343))), [-33])
        self.assertEqual(told(7, 3, list(range(344))), [-22])

    def test_not_rising_though_each_is_a_point(self):
        self.assertEqual(told(3, 2, [0, 2, 1]), [-22])
        self.assertEqual(told(3, 2, [1, 5, 5, 6]), [-22])
        self.assertEqual(told(3, 2, [5, 6, 1]), [-22])

    def test_wrong_p(self):
        for p in (0, 1, 4, 6, 8, 9, 10, 11, 13, GREATEST):
            for n in (1, 2, 3):
                for s in ([], [0], [0, 1], list(range(400))):
                    with self.subTest(p=p, n=n, s=s):
                        self.assertEqual(told(p, n, s), [-22])

    def test_wrong_n(self):
        for p in PRIMES:
            for n in (0, 4, 5, GREATEST):
                for s in ([], [0], [0, 1], list(range(400))):
                    with self.subTest(p=p, n=n, s=s):
                        self.assertEqual(told(p, n, s), [-22])

    def test_no_set_ahead_of_none_told(self):
        for p, n in SPACES:
            last = p ** n - 1
            points = list(range(last + 1))
            with self.subTest(p=p, n=n):
                self.assertEqual(told(p, n, points), [-33])
                for s in (points + [last], points + [last + 1], [0] + points, points[::-1]):
                    self.assertEqual(told(p, n, s), [-22], s)


HANDED_IN = (
    (3, 2, [1, 5, 6]), (3, 2, []), (3, 2, list(range(9))), (2, 1, [0]), (2, 1, [0, 1]),
    (7, 3, list(range(343))), (7, 3, list(range(0, 343, 5))), (7, 3, list(range(147))),
    (3, 2, [6, 5, 1]), (3, 2, [1, 1]), (3, 2, [5, 9]), (4, 2, [1, 5, 6]), (3, 4, [3, 2, 1]),
    (7, 3, list(range(400))))


class Interface(unittest.TestCase):
    def test_names_of_arguments(self):
        self.assertEqual(told(p=3, n=2, s=[0, 1, 2, 3, 6]), [4, 2])

    def test_a_list_of_whole_numbers(self):
        for p, n, s in HANDED_IN:
            with self.subTest(p=p, n=n, s=s):
                answer = told(p, n, s)
                self.assertIs(type(answer), list)
                self.assertEqual({type(item) for item in answer}, {int})
                self.assertIn(len(answer), (1, 2))
                self.assertEqual(len(answer) == 1, answer[0] < 0)

    def test_set_is_not_changed(self):
        for p, n, s in HANDED_IN:
            with self.subTest(p=p, n=n, s=s):
                handed = list(s)
                self.assertEqual(told(p, n, Untouched(s)), told(p, n, handed))
                self.assertEqual(handed, s)

    def test_second_call_answers_like_the_first(self):
        for p, n, s in HANDED_IN:
            with self.subTest(p=p, n=n, s=s):
                first = told(p, n, s)
                copy = list(first)
                first.clear()
                told(7, 3, [0, 1, 9])
                told(2, 3, [0, 1, 2, 4])
                told(3, 2, [9, 9])
                self.assertEqual(told(p, n, s), copy)

    def test_same_list_with_other_points(self):
        s = [0, 1, 2]
        self.assertEqual(told(3, 2, s), [3, 1])
        s[1:] = [3, 6]
        self.assertEqual(told(3, 2, s), [1, 1])
        s.append(6)
        self.assertEqual(told(3, 2, s), [-22])


if __name__ == "__main__":
    unittest.main()
