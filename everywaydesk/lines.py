"""Directions, lines and polynomials among the points of n numbers, each below a prime p."""

PRIMES = (2, 3, 5, 7)
MOST_NUMBERS = 3
MOST_TIMES = 12

WRONG_FORM = -22
NOT_THERE = -2
NOT_REACHED = -28
NONE_TOLD = -33


def directions(p, n):
    """Answer how many directions there are, then these, rising."""
    if not is_space(p, n):
        return [WRONG_FORM]
    found = all_directions(p, n)
    return [len(found)] + found


def line(p, n, x, v):
    """Answer p, then the points of the line from x in direction v, in that order."""
    if not is_space(p, n):
        return [WRONG_FORM]
    if not is_point(p, n, x) or not is_direction(p, n, v):
        return [NOT_THERE]
    return [p] + points_of_line(p, n, x, v)


def has(p, n, v, s):
    """Answer 1 if the set s has all of some line in direction v, else 0."""
    if not is_space(p, n) or not is_set(p, n, s):
        return [WRONG_FORM]
    if not is_direction(p, n, v):
        return [NOT_THERE]
    return [1 if has_line(p, n, v, members_of_set(s)) else 0]


def lacks(p, n, s):
    """Answer in how many directions the set s has no line, then these, rising."""
    if not is_space(p, n) or not is_set(p, n, s):
        return [WRONG_FORM]
    members = members_of_set(s)
    found = [v for v in all_directions(p, n) if not has_line(p, n, v, members)]
    return [len(found)] + found


def told(p, n, s):
    """Answer the direction told of the set s, then its least degree."""
    if not is_space(p, n) or not is_set(p, n, s):
        return [WRONG_FORM]
    # If s has all points, no term comes from those before it: nothing is found then either.
    highest = highest_terms(polynomial_of_set(p, n, s))
    if len(highest) == 0:
        return [NONE_TOLD]
    return [first_direction_not_0(p, n, highest), degree_of_term(highest[0])]


def top(p, n, f):
    """Answer how many highest terms the polynomial f has, then these."""
    if not is_space(p, n) or not is_polynomial(p, n, f):
        return [WRONG_FORM]
    highest = highest_terms(terms_of_row(n, f))
    answer = [len(highest)]
    for term in highest:
        answer.extend(term)
    return answer


def fewest(p, n):
    """Answer how many points the least sets have that have a line in each direction."""
    if not is_space(p, n):
        return [WRONG_FORM]
    if (n == 2 and p == 7) or (n == 3 and p != 2):
        return [NOT_REACHED]
    # A least set is one line in each direction: any point beside these could be left out.
    return [min([count_of_bits(bits) for bits in sets_of_lines(p, n)])]


def bound(p, n):
    """Answer how many terms have each unknown less than p times and a degree of p - 1 at most."""
    if not is_space(p, n):
        return [WRONG_FORM]
    return [len(low_terms(p, n))]


def is_space(p, n):
    return p in PRIMES and 1 <= n <= MOST_NUMBERS


def count_points(p, n):
    count = 1
    for place in range(n):
        count = count * p
    return count


def is_point(p, n, x):
    return 0 <= x < count_points(p, n)


def numbers_of_point(p, n, point):
    """Give the numbers x1, x2, x3 of a point, as many as n."""
    numbers = []
    rest = point
    for place in range(n):
        numbers.append(rest % p)
        rest = rest // p
    return numbers


def point_of_numbers(p, numbers):
    # x1 counts least, so the last number is taken first and raised by each one after it.
    point = 0
    for number in reversed(numbers):
        point = point * p + number
    return point


def is_set(p, n, s):
    """Tell whether s is a row of points' numbers, rising."""
    count = count_points(p, n)
    last = -1
    for point in s:
        if not last < point < count:
            return False
        last = point
    return True


def members_of_set(s):
    # Asked for each point of many lines: a dict finds one without a walk through s.
    members = {}
    for point in s:
        members[point] = True
    return members


def is_direction(p, n, v):
    # Beyond the last point the lower numbers alone could look like a direction.
    if not is_point(p, n, v):
        return False
    for number in numbers_of_point(p, n, v):
        if number != 0:
            return number == 1
    return False


def all_directions(p, n):
    return [point for point in range(count_points(p, n)) if is_direction(p, n, point)]


def points_of_line(p, n, x, v):
    start = numbers_of_point(p, n, x)
    way = numbers_of_point(p, n, v)
    points = []
    for times in range(p):
        numbers = [(start[place] + times * way[place]) % p for place in range(n)]
        points.append(point_of_numbers(p, numbers))
    return points


def has_line(p, n, v, members):
    # A line that lies in the set begins in it too, so other points needn't be tried.
    for x in members:
        if all([point in members for point in points_of_line(p, n, x, v)]):
            return True
    return False


def terms_of_row(n, f):
    """Part the row f into its terms: a factor, then how often each unknown stands in it."""
    return [f[start:start + n + 1] for start in range(0, len(f), n + 1)]


def degree_of_term(term):
    return sum(term[1:])


def rank_of_term(term):
    """Give what terms are ordered by: the degree, then how often each unknown stands there."""
    return [degree_of_term(term)] + term[1:]


def is_term(p, term):
    return 1 <= term[0] < p and all([times <= MOST_TIMES for times in term[1:]])


def is_polynomial(p, n, f):
    """Tell whether f is a row of whole terms in their order, no two alike but for the factor."""
    if len(f) % (n + 1) != 0:
        return False
    # The empty list comes before each rank.
    last = []
    for term in terms_of_row(n, f):
        rank = rank_of_term(term)
        if not is_term(p, term) or not last < rank:
            return False
        last = rank
    return True


def highest_terms(terms):
    degree = max([degree_of_term(term) for term in terms], default=0)
    return [term for term in terms if degree_of_term(term) == degree]


def value_of_term(p, term, numbers):
    value = term[0]
    for times, number in zip(term[1:], numbers):
        for turn in range(times):
            value = value * number % p
    return value


def value_of_terms(p, terms, numbers):
    return sum([value_of_term(p, term, numbers) for term in terms]) % p


def low_terms(p, n):
    """Give all terms of degree p - 1 at most, with factor 1, in their order."""
    # How often each unknown stands there is n numbers below p, as a point's are.
    terms = [[1] + numbers_of_point(p, n, point) for point in range(count_points(p, n))]
    return sorted([term for term in terms if degree_of_term(term) < p], key=rank_of_term)


def polynomial_of_set(p, n, s):
    """Give the terms of the polynomial of s; none, if its least degree is p or more."""
    points = [numbers_of_point(p, n, point) for point in s]
    terms = low_terms(p, n)
    kept = []
    for place in range(len(terms)):
        row = without_kept(p, row_of_term(p, terms, place, points), kept)
        pivot = first_place_not_0(row)
        # Behind the values stand the factors: here all values are 0.
        if pivot >= len(s):
            return terms_with_factors(terms, row[len(s):])
        kept.append((pivot, scaled_row(p, row, pivot)))
    return []


def row_of_term(p, terms, place, points):
    """Give a term's values at the points, then the factor each of the terms has in it."""
    values = [value_of_term(p, terms[place], numbers) for numbers in points]
    return values + [1 if other == place else 0 for other in range(len(terms))]


def without_kept(p, row, kept):
    """Take from the row what makes it 0 at the pivot of each row kept."""
    # A row kept is 0 at the pivots of those before it, so what is cleared stays so.
    rest = row
    for pivot, other in kept:
        times = rest[pivot]
        if times != 0:
            rest = [(mine - times * its) % p for mine, its in zip(rest, other)]
    return rest


def first_place_not_0(row):
    # There is one: a row keeps the factor of its own term.
    return [place for place, number in enumerate(row) if number != 0][0]


def scaled_row(p, row, pivot):
    """Give the row times the number that makes it 1 at the pivot."""
    times = [number for number in range(1, p) if number * row[pivot] % p == 1][0]
    return [times * number % p for number in row]


def terms_with_factors(terms, factors):
    return [[factor] + term[1:] for factor, term in zip(factors, terms) if factor != 0]


def first_direction_not_0(p, n, highest):
    # There is one: of a degree below p they aren't 0 everywhere, and if they are 0 at a
    # direction, then, being of one degree, at its multiples too.
    ways = all_directions(p, n)
    return [v for v in ways if value_of_terms(p, highest, numbers_of_point(p, n, v)) != 0][0]


def sets_of_lines(p, n):
    """Give the sets that one line in each direction makes up, as bits, one for each point."""
    ways = all_directions(p, n)
    # Where a set is moved its lines go along, so one line of the first direction will do.
    sets = [bits_of_points(points_of_line(p, n, 0, ways[0]))]
    for v in ways[1:]:
        sets = each_with_each(sets, lines_as_bits(p, n, v))
    return sets


def each_with_each(sets, others):
    both = []
    for bits in sets:
        both.extend([bits | more for more in others])
    return both


def lines_as_bits(p, n, v):
    """Give the lines in direction v, as bits, each line once."""
    found = {}
    for x in range(count_points(p, n)):
        found[bits_of_points(points_of_line(p, n, x, v))] = True
    return list(found)


def bits_of_points(points):
    return sum([1 << point for point in points])


def count_of_bits(bits):
    count = 0
    rest = bits
    while rest > 0:
        count = count + rest % 2
        rest = rest // 2
    return count
