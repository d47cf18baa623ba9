"""Directions and lines among the points of n numbers, each below a prime p."""

PRIMES = (2, 3, 5, 7)
MOST_NUMBERS = 3

WRONG_FORM = -22
NOT_THERE = -2


def directions(p, n):
    """Answer how many directions there are, then these, rising."""
    if not is_space(p, n):
        return [WRONG_FORM]
    found = all_directions(p, n)
    return [len(found)] + found


def line(p, n, x, v):
    """Answer p, then the points of the line from x in direction v, in that order."""
    if not is_space(p, n):
        return [WRONG_FORM]
    if not is_point(p, n, x) or not is_direction(p, n, v):
        return [NOT_THERE]
    return [p] + points_of_line(p, n, x, v)


def has(p, n, v, s):
    """Answer 1 if the set s has all of some line in direction v, else 0."""
    if not is_space(p, n) or not is_set(p, n, s):
        return [WRONG_FORM]
    if not is_direction(p, n, v):
        return [NOT_THERE]
    return [1 if has_line(p, n, v, members_of_set(s)) else 0]


def lacks(p, n, s):
    """Answer in how many directions the set s has no line, then these, rising."""
    if not is_space(p, n) or not is_set(p, n, s):
        return [WRONG_FORM]
    members = members_of_set(s)
    found = [v for v in all_directions(p, n) if not has_line(p, n, v, members)]
    return [len(found)] + found


def is_space(p, n):
    return p in PRIMES and 1 <= n <= MOST_NUMBERS


def count_points(p, n):
    count = 1
    for place in range(n):
        count = count * p
    return count


def is_point(p, n, x):
    return 0 <= x < count_points(p, n)


def numbers_of_point(p, n, point):
    """Give the numbers x1, x2, x3 of a point, as many as n."""
    numbers = []
    rest = point
    for place in range(n):
        numbers.append(rest % p)
        rest = rest // p
    return numbers


def point_of_numbers(p, numbers):
    # x1 counts least, so the last number is taken first and raised by each one after it.
    point = 0
    for number in reversed(numbers):
        point = point * p + number
    return point


def is_set(p, n, s):
    """Tell whether s is a row of points' numbers, rising."""
    count = count_points(p, n)
    last = -1
    for point in s:
        if not last < point < count:
            return False
        last = point
    return True


def members_of_set(s):
    # Asked for each point of many lines: a dict finds one without a walk through s.
    members = {}
    for point in s:
        members[point] = True
    return members


def is_direction(p, n, v):
    # Beyond the last point the lower numbers alone could look like a direction.
    if not is_point(p, n, v):
        return False
    for number in numbers_of_point(p, n, v):
        if number != 0:
            return number == 1
    return False


def all_directions(p, n):
    return [point for point in range(count_points(p, n)) if is_direction(p, n, point)]


def points_of_line(p, n, x, v):
    start = numbers_of_point(p, n, x)
    way = numbers_of_point(p, n, v)
    points = []
    for times in range(p):
        numbers = [(start[place] + times * way[place]) % p for place in range(n)]
        points.append(point_of_numbers(p, numbers))
    return points


def has_line(p, n, v, members):
    # A line that lies in the set begins in it too, so other points needn't be tried.
    for x in members:
        if all([point in members for point in points_of_line(p, n, x, v)]):
            return True
    return False
