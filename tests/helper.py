"""What several tests need: spaces made without the program, sets, a list to be left alone."""

import itertools

PRIMES = (2, 3, 5, 7)
SPACES = tuple(itertools.product(PRIMES, (1, 2, 3)))
# Spaces of which every set of points is tried; of the others sets are drawn.
SMALL_SPACES = ((2, 1), (2, 2), (2, 3), (3, 1), (3, 2), (5, 1), (7, 1))
GREAT_SPACES = tuple(space for space in SPACES if space not in SMALL_SPACES)
GREATEST = 4294967295
# For each p a number that is no square, so that a * a - it * b * b is 0 at a = b = 0 alone.
NO_SQUARE = {3: 2, 5: 2, 7: 3}


class Space:
    """Its points, directions and lines, made without the program."""

    def __init__(self, p, n):
        self.p = p
        self.n = n
        self.points = [numbers[::-1] for numbers in itertools.product(range(p), repeat=n)]
        self.number_of = {numbers: x for x, numbers in enumerate(self.points)}
        self.ways = [v for v in range(p ** n) if self.is_direction(v)]

    def is_direction(self, v):
        return [number for number in self.points[v] if number != 0][:1] == [1]

    def line(self, x, v):
        told = [x]
        while len(told) < self.p:
            both = zip(self.points[told[-1]], self.points[v])
            told.append(self.number_of[tuple((a + b) % self.p for a, b in both)])
        return told

    def lines_by_way(self):
        return {v: [set(self.line(x, v)) for x in range(self.p ** self.n)] for v in self.ways}


def drawn_set(space, part, source):
    return [x for x in range(space.p ** space.n) if source.random() < part]


def drawn_lines(space, ways, source):
    return [space.line(source.randrange(space.p ** space.n), v) for v in ways]


def without_each(points):
    for point in points:
        yield [other for other in points if other != point]


def all_but_a_curved_face(space, v):
    """All points but one of each line in direction v, on a face that bends in all others.

    A square takes not every value when a straight one is added, so in each other
    direction some line misses the face.
    """
    face = set()
    first = space.points[v].index(1)
    for base in space.points:
        if base[first] == 0:
            others = base[:first] + base[first + 1:]
            squares = [number * number for number in others]
            height = squares[0] - sum(NO_SQUARE[space.p] * square for square in squares[1:])
            face.add(space.line(space.number_of[base], v)[height % space.p])
    return [x for x in range(space.p ** space.n) if x not in face]


def terms_in_order(p, n):
    """How often each unknown stands in a term, less than p times each, in the terms' order."""
    return sorted(itertools.product(range(p), repeat=n), key=lambda powers: (sum(powers), powers))


def value_at(p, terms, numbers):
    """What the terms, as pairs of a factor and powers, come to at a point's numbers."""
    value = 0
    for factor, powers in terms:
        for number, power in zip(numbers, powers):
            factor *= number ** power
        value += factor
    return value % p


def wrong_sets(p, n):
    last = p ** n - 1
    return (
        [0, 0], [last, last], [1, 0], [last, 0], [last, last - 1],
        list(range(last + 1)) + [last], list(range(last + 1)) + [0],
        list(range(last - 1)) + [last, last - 1], [0] + list(range(last + 1)),
        list(range(last, -1, -1)), [0] * 400, list(range(400)), list(range(400, 0, -1)),
        [last + 1], [last + 2], [GREATEST], [0, last + 1], [0, GREATEST],
        list(range(last + 2)), list(range(last + 1)) + [GREATEST],
        [last + 1, 0], [GREATEST, 0], [p * (last + 1)], [last + 1, last + 1])


class Untouched(list):
    """A list that can't be changed, not for a while either."""

    def refuse(self, *told, **named):
        raise AssertionError("what is handed in was changed")

    __setitem__ = __delitem__ = __iadd__ = __imul__ = refuse
    append = extend = insert = pop = remove = clear = sort = reverse = refuse
