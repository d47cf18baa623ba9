import itertools
import unittest

from everywaydesk.lines import directions

PRIMES = (2, 3, 5, 7)
SIZES = (1, 2, 3)
GREATEST = 4294967295


def number(p, numbers):
    return sum(value * p ** place for place, value in enumerate(numbers))


def expected_directions(p, n):
    """Zeros, a 1, then anything: written out from the front, unlike the program."""
    found = []
    for zeros in range(n):
        for rest in itertools.product(range(p), repeat=n - zeros - 1):
            found.append(number(p, (0,) * zeros + (1,) + rest))
    return sorted(found)


class Answers(unittest.TestCase):
    def test_written_out(self):
        self.assertEqual(directions(2, 1), [1, 1])
        self.assertEqual(directions(7, 1), [1, 1])
        self.assertEqual(directions(2, 2), [3, 1, 2, 3])
        self.assertEqual(directions(3, 2), [4, 1, 3, 4, 7])
        self.assertEqual(directions(5, 2), [6, 1, 5, 6, 11, 16, 21])
        self.assertEqual(directions(2, 3), [7, 1, 2, 3, 4, 5, 6, 7])
        self.assertEqual(
            directions(3, 3), [13, 1, 3, 4, 7, 9, 10, 12, 13, 16, 19, 21, 22, 25])

    def test_every_space(self):
        for p in PRIMES:
            for n in SIZES:
                with self.subTest(p=p, n=n):
                    expected = expected_directions(p, n)
                    self.assertEqual(directions(p, n), [len(expected)] + expected)

    def test_how_many(self):
        for p in PRIMES:
            for n in SIZES:
                with self.subTest(p=p, n=n):
                    answer = directions(p, n)
                    self.assertEqual(answer[0], (p ** n - 1) // (p - 1))
                    self.assertEqual(len(answer), answer[0] + 1)

    def test_rising(self):
        for p in PRIMES:
            for n in SIZES:
                with self.subTest(p=p, n=n):
                    told = directions(p, n)[1:]
                    self.assertEqual(told, sorted(set(told)))

    def test_each_point_but_0_is_a_multiple_of_just_one(self):
        for p in PRIMES:
            for n in SIZES:
                with self.subTest(p=p, n=n):
                    multiples = []
                    for v in directions(p, n)[1:]:
                        numbers = [v // p ** place % p for place in range(n)]
                        for times in range(1, p):
                            multiples.append(number(p, [times * a % p for a in numbers]))
                    self.assertEqual(sorted(multiples), list(range(1, p ** n)))


class Refusals(unittest.TestCase):
    def test_wrong_p(self):
        for p in (0, 1, 4, 6, 8, 9, 10, 11, 13, GREATEST):
            for n in SIZES:
                with self.subTest(p=p, n=n):
                    self.assertEqual(directions(p, n), [-22])

    def test_wrong_n(self):
        for p in PRIMES:
            for n in (0, 4, 5, GREATEST):
                with self.subTest(p=p, n=n):
                    self.assertEqual(directions(p, n), [-22])

    def test_both_wrong(self):
        for p in (0, 4, GREATEST):
            for n in (0, 4, GREATEST):
                with self.subTest(p=p, n=n):
                    self.assertEqual(directions(p, n), [-22])


class Interface(unittest.TestCase):
    def test_names_of_arguments(self):
        self.assertEqual(directions(p=3, n=2), [4, 1, 3, 4, 7])

    def test_a_list_of_whole_numbers(self):
        for p, n in ((2, 1), (7, 3), (4, 1), (2, 0)):
            with self.subTest(p=p, n=n):
                answer = directions(p, n)
                self.assertIs(type(answer), list)
                self.assertEqual({type(item) for item in answer}, {int})

    def test_nothing_is_kept(self):
        for p, n in ((3, 2), (4, 2)):
            with self.subTest(p=p, n=n):
                first = directions(p, n)
                copy = list(first)
                first.clear()
                directions(7, 3)
                directions(0, 0)
                self.assertEqual(directions(p, n), copy)


if __name__ == "__main__":
    unittest.main()
