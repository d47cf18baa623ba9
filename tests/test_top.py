"""top, held against a list of all terms that a polynomial may have, in their order."""

import itertools
import random
import unittest

from everywaydesk.lines import top
from helper import GREATEST, PRIMES, SPACES, Untouched, terms_in_order

# An unknown may stand in a term 12 times, however small p is.
MOST_TIMES = 12
ALL_TERMS = {n: terms_in_order(MOST_TIMES + 1, n) for n in (1, 2, 3)}
PLACE_OF = {n: {powers: place for place, powers in enumerate(ALL_TERMS[n])} for n in (1, 2, 3)}


def row_of(terms):
    """Tell terms, as pairs of a factor and powers, one behind another."""
    return [number for factor, powers in terms for number in (factor, *powers)]


def drawn_terms(p, n, many, source):
    places = sorted(source.sample(range(len(ALL_TERMS[n])), many))
    return [(source.randint(1, p - 1), ALL_TERMS[n][place]) for place in places]


def expected_top(p, n, f):
    """Tell the answer for any row at all, refused or not."""
    if len(f) % (n + 1) != 0:
        return [-22]
    by_degree = {}
    last = -1
    for start in range(0, len(f), n + 1):
        factor, powers = f[start], tuple(f[start + 1:start + n + 1])
        place = PLACE_OF[n].get(powers, -1)
        if factor not in range(1, p) or place <= last:
            return [-22]
        last = place
        by_degree.setdefault(sum(powers), []).append((factor, powers))
    highest = by_degree[max(by_degree)] if by_degree else []
    return [len(highest)] + row_of(highest)


class WrittenOut(unittest.TestCase):
    def test_one_unknown(self):
        self.assertEqual(top(3, 1, [2, 0]), [1, 2, 0])
        self.assertEqual(top(3, 1, [2, 0, 1, 1]), [1, 1, 1])
        self.assertEqual(top(3, 1, [2, 0, 1, 1, 2, 12]), [1, 2, 12])

    def test_two_unknowns(self):
        # 2 and x2 and 2 x1: of like degree the one with the first unknown less often first.
        self.assertEqual(top(3, 2, [2, 0, 0, 1, 0, 1, 2, 1, 0]), [2, 1, 0, 1, 2, 1, 0])
        self.assertEqual(top(3, 2, [1, 0, 1, 2, 1, 0, 1, 0, 2]), [1, 1, 0, 2])
        self.assertEqual(
            top(5, 2, [1, 0, 2, 2, 1, 1, 3, 2, 0]), [3, 1, 0, 2, 2, 1, 1, 3, 2, 0])

    def test_three_unknowns(self):
        self.assertEqual(
            top(7, 3, [6, 0, 0, 1, 5, 0, 1, 0, 4, 1, 0, 0]),
            [3, 6, 0, 0, 1, 5, 0, 1, 0, 4, 1, 0, 0])
        self.assertEqual(
            top(2, 3, [1, 0, 0, 0, 1, 0, 2, 0, 1, 1, 0, 1]), [2, 1, 0, 2, 0, 1, 1, 0, 1])

    def test_powers_of_p_and_more_stay_as_they_are(self):
        # Reduced, x1 twice would be x1 once with p of 2, and the other term the higher one.
        self.assertEqual(top(2, 2, [1, 1, 0, 1, 2, 0]), [1, 1, 2, 0])
        self.assertEqual(top(2, 2, [1, 1, 1, 1, 3, 0]), [1, 1, 3, 0])
        self.assertEqual(top(3, 1, [1, 2, 1, 3]), [1, 1, 3])
        self.assertEqual(top(2, 3, [1, 12, 12, 12]), [1, 1, 12, 12, 12])
        # Reduced, both would be one term, with factor 0.
        self.assertEqual(top(2, 2, [1, 1, 2, 1, 2, 1]), [2, 1, 1, 2, 1, 2, 1])

    def test_highest_terms_that_are_0_at_each_point(self):
        # x1 x1 and x1 with p of 2 are 0 together; the terms stand there all the same.
        self.assertEqual(top(2, 1, [1, 1, 1, 2]), [1, 1, 2])


class Answers(unittest.TestCase):
    def test_without_a_term(self):
        for p, n in SPACES:
            with self.subTest(p=p, n=n):
                self.assertEqual(top(p, n, []), [0])

    def test_degree_0(self):
        for p, n in SPACES:
            with self.subTest(p=p, n=n):
                for factor in range(1, p):
                    f = [factor] + [0] * n
                    self.assertEqual(top(p, n, f), [1] + f)

    def test_each_term_by_itself(self):
        for p, n in SPACES:
            with self.subTest(p=p, n=n):
                for powers in ALL_TERMS[n]:
                    f = [p - 1, *powers]
                    self.assertEqual(top(p, n, f), [1] + f)

    def test_all_of_one_degree(self):
        for p, n in SPACES:
            for degree in range(MOST_TIMES * n + 1):
                alike = [powers for powers in ALL_TERMS[n] if sum(powers) == degree]
                # 400 numbers at most.
                f = row_of([(1, powers) for powers in alike][:400 // (n + 1)])
                with self.subTest(p=p, n=n, degree=degree):
                    self.assertEqual(top(p, n, f), [len(f) // (n + 1)] + f)

    def test_drawn_polynomials(self):
        for p, n in SPACES:
            source = random.Random(10 * p + n)
            most = min(len(ALL_TERMS[n]), 400 // (n + 1))
            with self.subTest(p=p, n=n):
                for turn in range(100):
                    f = row_of(drawn_terms(p, n, source.randint(0, most), source))
                    answer = top(p, n, f)
                    self.assertEqual(answer, expected_top(p, n, f), f)
                    self.assertGreaterEqual(answer[0], 0)

    def test_as_many_terms_as_400_numbers_let_stand(self):
        for p in PRIMES:
            for n, many in ((1, 13), (2, 133), (3, 100)):
                with self.subTest(p=p, n=n):
                    first = row_of([(1, powers) for powers in ALL_TERMS[n][:many]])
                    last = row_of([(p - 1, powers) for powers in ALL_TERMS[n][-many:]])
                    for f in (first, last):
                        self.assertEqual(len(f), many * (n + 1))
                        self.assertEqual(top(p, n, f), expected_top(p, n, f))
                        self.assertGreater(top(p, n, f)[0], 0)


class Refusals(unittest.TestCase):
    def test_no_whole_terms(self):
        for p, n in SPACES:
            source = random.Random(20 * p + n)
            with self.subTest(p=p, n=n):
                for many in (0, 1, 2, 5, 13):
                    f = row_of(drawn_terms(p, n, many, source))
                    for more in range(1, n + 1):
                        self.assertEqual(top(p, n, f + [1] * more), [-22], (f, more))
                        if many:
                            self.assertEqual(top(p, n, f[:-more]), [-22], (f, more))

    def test_length_of_another_n(self):
        f = [1, 0, 1, 1]
        self.assertEqual(top(3, 1, f), [1, 1, 1])
        self.assertEqual(top(3, 2, f), [-22])
        self.assertEqual(top(3, 3, f), [1, 1, 0, 1, 1])

    def test_factor(self):
        for p, n in SPACES:
            others = row_of([(1, powers) for powers in ALL_TERMS[n][:3]])
            with self.subTest(p=p, n=n):
                for factor in (0, p, p + 1, 2 * p, 2 * p + 1, GREATEST):
                    self.assertEqual(top(p, n, [factor] + [0] * n), [-22], factor)
                    for place in range(3):
                        f = list(others)
                        f[place * (n + 1)] = factor
                        self.assertEqual(top(p, n, f), [-22], f)
                self.assertEqual(top(p, n, [p - 1] + [0] * n), [1, p - 1] + [0] * n)

    def test_powers(self):
        for p, n in SPACES:
            with self.subTest(p=p, n=n):
                for place, power in itertools.product(range(n), (13, 14, 100, GREATEST)):
                    f = [1] + [0] * n
                    f[place + 1] = 12
                    self.assertEqual(top(p, n, f), [1] + f)
                    f[place + 1] = power
                    self.assertEqual(top(p, n, f), [-22], f)
                    self.assertEqual(top(p, n, [1] + [0] * n + f), [-22], f)

    def test_order(self):
        # By degree; by the first unknown; by the second.
        self.assertEqual(top(5, 1, [1, 2, 1, 1]), [-22])
        self.assertEqual(top(5, 2, [1, 0, 2, 1, 1, 0]), [-22])
        self.assertEqual(top(5, 2, [1, 1, 0, 1, 0, 1]), [-22])
        self.assertEqual(top(5, 2, [1, 0, 1, 1, 1, 0]), [2, 1, 0, 1, 1, 1, 0])
        self.assertEqual(top(5, 3, [1, 1, 1, 0, 1, 1, 0, 1]), [-22])
        self.assertEqual(top(5, 3, [1, 0, 1, 0, 1, 0, 0, 1]), [-22])
        self.assertEqual(top(5, 3, [1, 1, 0, 1, 1, 1, 1, 0]), [2, 1, 1, 0, 1, 1, 1, 1, 0])
        # By the first unknown alone they would rise.
        self.assertEqual(top(5, 3, [1, 0, 0, 2, 1, 1, 0, 0]), [-22])

    def test_alike_but_for_the_factor(self):
        for p, n in SPACES:
            source = random.Random(30 * p + n)
            with self.subTest(p=p, n=n):
                for turn in range(20):
                    terms = drawn_terms(p, n, source.randint(1, 13), source)
                    place = source.randrange(len(terms))
                    for factor in range(1, p):
                        twice = list(terms)
                        twice.insert(place, (factor, terms[place][1]))
                        self.assertEqual(top(p, n, row_of(twice)), [-22], twice)

    def test_each_two_terms(self):
        for p, n in ((2, 1), (3, 2), (7, 3)):
            source = random.Random(40 * p + n)
            with self.subTest(p=p, n=n):
                for turn in range(1500):
                    pair = [source.choice(ALL_TERMS[n]), source.choice(ALL_TERMS[n])]
                    f = row_of([(1, powers) for powers in pair])
                    self.assertEqual(top(p, n, f), expected_top(p, n, f), f)

    def test_one_number_changed(self):
        for p, n in SPACES:
            source = random.Random(50 * p + n)
            seen = set()
            with self.subTest(p=p, n=n):
                for turn in range(200):
                    f = row_of(drawn_terms(p, n, source.randint(1, 8), source))
                    f[source.randrange(len(f))] = source.choice(
                        (0, 1, p - 1, p, 12, 13, GREATEST, source.randrange(14)))
                    self.assertEqual(top(p, n, f), expected_top(p, n, f), f)
                    seen.add(top(p, n, f) == [-22])
                self.assertEqual(seen, {True, False})

    def test_400_numbers(self):
        for p, n in SPACES:
            with self.subTest(p=p, n=n):
                for f in ([0] * 400, [1] * 400, [GREATEST] * 400, list(range(400))):
                    self.assertEqual(top(p, n, f), [-22], f)
        # With n of 2 they are no whole terms; with n of 1 there are no 200 terms.
        rising = row_of([(1, powers) for powers in ALL_TERMS[2][:133]])
        self.assertEqual(top(3, 2, rising + [1]), [-22])
        self.assertEqual(top(3, 1, [number for power in range(200) for number in (1, power)]), [-22])

    def test_last_term_wrong(self):
        for n, many in ((2, 133), (3, 100)):
            f = row_of([(1, powers) for powers in ALL_TERMS[n][:many]])
            with self.subTest(n=n):
                self.assertNotEqual(top(2, n, f), [-22])
                self.assertEqual(top(2, n, f[:-(n + 1)] + [2] + f[-n:]), [-22])
                self.assertEqual(top(2, n, f[:-(n + 1)] + f[:n + 1]), [-22])

    def test_wrong_p(self):
        for p in (0, 1, 4, 6, 8, 9, 10, 11, 13, GREATEST):
            for n in (1, 2, 3):
                for f in ([], [1] + [0] * n, [1], [0] * 400):
                    with self.subTest(p=p, n=n, f=f):
                        self.assertEqual(top(p, n, f), [-22])

    def test_wrong_n(self):
        for p in PRIMES:
            for n in (0, 4, 5, GREATEST):
                for f in ([], [1], [1, 0], [1, 0, 0, 0, 0], [0] * 400):
                    with self.subTest(p=p, n=n, f=f):
                        self.assertEqual(top(p, n, f), [-22])


HANDED_IN = (
    (3, 2, [2, 0, 0, 1, 0, 1, 2, 1, 0]), (3, 2, []), (2, 1, [1, 12]), (7, 3, [6, 1, 2, 3]),
    (5, 2, row_of([(4, powers) for powers in ALL_TERMS[2][:133]])), (3, 2, [1, 0]),
    (3, 2, [3, 0, 0]), (3, 2, [1, 1, 0, 1, 0, 1]), (4, 2, [1, 0, 0]), (3, 0, [1]),
    (3, 3, [1] * 400))


class Interface(unittest.TestCase):
    def test_names_of_arguments(self):
        self.assertEqual(top(p=3, n=1, f=[2, 0, 1, 1]), [1, 1, 1])

    def test_a_list_of_whole_numbers(self):
        for p, n, f in HANDED_IN:
            with self.subTest(p=p, n=n, f=f):
                answer = top(p, n, f)
                self.assertIs(type(answer), list)
                self.assertEqual({type(item) for item in answer}, {int})
                if answer[0] >= 0:
                    self.assertEqual(len(answer), 1 + answer[0] * (n + 1))

    def test_polynomial_is_not_changed(self):
        for p, n, f in HANDED_IN:
            with self.subTest(p=p, n=n, f=f):
                handed = list(f)
                self.assertEqual(top(p, n, Untouched(f)), top(p, n, handed))
                self.assertEqual(handed, f)

    def test_second_call_answers_like_the_first(self):
        for p, n, f in HANDED_IN:
            with self.subTest(p=p, n=n, f=f):
                first = top(p, n, f)
                copy = list(first)
                first.clear()
                top(7, 3, [6, 1, 2, 3])
                top(3, 2, [0])
                self.assertEqual(top(p, n, f), copy)

    def test_same_list_with_other_terms(self):
        f = [1, 0, 2, 1]
        self.assertEqual(top(3, 1, f), [1, 2, 1])
        f[3] = 5
        self.assertEqual(top(3, 1, f), [1, 2, 5])
        f[2] = 3
        self.assertEqual(top(3, 1, f), [-22])


if __name__ == "__main__":
    unittest.main()
