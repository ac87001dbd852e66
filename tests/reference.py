"""A slow second reading of trees, written from the document in another way.

It keeps no numbers that it changes from part to part: it keeps the parts
taken and told, and works out anew, each time, what may yet come of them.
"""

from fractions import Fraction
from functools import lru_cache
from math import isqrt

# So many parts of each leaf can be told, and the roots' are sure so far.
MANY = 500
ROOT_SCALE = 10 ** 3500


class Divided(Exception):
    """Something is divided by nought."""


def chain_of(value, many=None):
    parts = []
    top, below = value.numerator, value.denominator
    while below != 0 and len(parts) != many:
        part, left = divmod(top, below)
        parts.append(part)
        top, below = below, left
    return parts


@lru_cache(None)
def root_parts(top, square, below):
    root = isqrt(square)
    if root * root == square:
        return chain_of(Fraction(top + root, below)), True
    low = isqrt(square * ROOT_SCALE ** 2)
    ends = [chain_of((top + Fraction(at, ROOT_SCALE)) / below, MANY) for at in (low, low + 1)]
    parts = []
    for one, other in zip(*ends):
        if one != other:
            break
        parts.append(one)
    return parts, False


def ruled_parts(parts, ring, steps):
    told = list(parts)
    turn = 0
    while ring and len(told) < MANY:
        told += [part + turn * step for part, step in zip(ring, steps)]
        turn += 1
    return told, not ring


class SlowLeaf:
    def __init__(self, parts, ends):
        self.parts = parts
        self.ends = ends
        self.at = 0

    def ask(self, budget):
        if self.ends and self.at == len(self.parts):
            return ("end",)
        if budget[0] == 0:
            return ("waits",)
        budget[0] -= 1
        self.at += 1
        return ("part", self.parts[self.at - 1])


def convergents(parts):
    """((X, W) where what is left is without bound, and where it is 1)."""
    p, q, p0, q0 = 1, 0, 0, 1
    for part in parts:
        p, p0 = part * p + p0, p
        q, q0 = part * q + q0, q
    return (p, q), (p + p0, q + q0)


def behind(pair, told):
    top, below = pair
    for part in told:
        top, below = below, top - part * below
    return top, below


def four_value(numbers, x):
    a, b, c, d = numbers
    return a * x[0] + b * x[1], c * x[0] + d * x[1]


def eight_value(numbers, x, y):
    terms = (x[0] * y[0], x[0] * y[1], x[1] * y[0], x[1] * y[1])
    return (sum(n * t for n, t in zip(numbers[:4], terms)),
            sum(n * t for n, t in zip(numbers[4:], terms)))


def four_sure(numbers, taken, told):
    """The first part that all of it has, x going from one end, not with it, to the other."""
    ends = convergents(taken)
    values = [behind(four_value(numbers, x), told) for x in ends]
    if any(below == 0 for top, below in values):
        return None
    c, d = numbers[2:]
    if c != 0:
        pole = Fraction(-d, c)
        low, high = sorted(Fraction(*x) for x in ends)
        if low <= pole <= high:
            return None
    own, beside = [Fraction(*value) for value in values]
    part = own.numerator // own.denominator
    return part if part <= beside <= part + 1 else None


def eight_sure(numbers, taken, told):
    xs, ys = [convergents(parts) for parts in taken]
    corners = [behind(eight_value(numbers, x, y), told) for x in xs for y in ys]
    signs = {(below > 0) - (below < 0) for top, below in corners}
    if signs not in ({1}, {-1}):
        return None
    own = Fraction(*corners[0])
    part = own.numerator // own.denominator
    fits = all(part <= Fraction(*corner) <= part + 1 for corner in corners)
    return part if fits else None


class SlowBox:
    """A four (one tree) or an eight (two trees)."""

    def __init__(self, numbers, trees):
        self.numbers = numbers
        self.trees = trees
        self.taken = [[] for tree in trees]
        self.told = []
        self.whole = None

    def ask(self, budget):
        while self.whole is None:
            part = self.sure()
            if part is not None:
                self.told.append(part)
                return ("part", part)
            which = min(range(len(self.trees)), key=lambda at: len(self.taken[at]))
            answer = self.trees[which].ask(budget)
            if answer == ("waits",):
                return answer
            if answer == ("end",):
                self.lose(which)
            else:
                self.taken[which].append(answer[1])
        return self.from_whole()

    def sure(self):
        if not all(self.taken):
            return None
        if len(self.trees) == 1:
            return four_sure(self.numbers, self.taken[0], self.told)
        return eight_sure(self.numbers, self.taken, self.told)

    def lose(self, which):
        x = convergents(self.taken[which])[0]
        if len(self.trees) == 1:
            self.whole = four_value(self.numbers, x)
            return
        other = 1 - which
        columns = []
        for y in ((1, 0), (0, 1)):
            pair = (x, y) if which == 0 else (y, x)
            columns.append(eight_value(self.numbers, *pair))
        (a, c), (b, d) = columns
        self.trees = [self.trees[other]]
        self.taken = [self.taken[other]]
        self.numbers = (a, b, c, d)
        if a * d == b * c:
            self.whole = (a, c) if c != 0 else (b, d)

    def from_whole(self):
        if self.whole[1] == 0:
            raise Divided()
        parts = chain_of(Fraction(*self.whole))
        assert parts[:len(self.told)] == self.told
        if len(self.told) == len(parts):
            return ("end",)
        self.told.append(parts[len(self.told)])
        return ("part", self.told[-1])


def slow_box(tree):
    word = tree[0]
    if word == "fraction":
        return SlowLeaf(chain_of(Fraction(tree[1], tree[2])), True)
    if word == "root":
        return SlowLeaf(*root_parts(*tree[1:]))
    if word == "ruled":
        return SlowLeaf(*ruled_parts(*tree[1:]))
    if word == "power":
        if tree[2] == 1:
            return slow_box(tree[1])
        less = ("power", tree[1], tree[2] - 1)
        return slow_box(("eight", (1, 0, 0, 0, 0, 0, 0, 1), tree[1], less))
    return SlowBox(tree[1], [slow_box(inner) for inner in tree[2:]])


class SlowReading:
    def __init__(self, tree):
        self.box = slow_box(tree)
        self.spent = 0

    def part(self, most):
        budget = [most]
        try:
            return self.box.ask(budget)
        except Divided:
            return ("none",)
        finally:
            self.spent += most - budget[0]

    def took(self):
        return self.spent


def joined(parts):
    (top, below), beside = convergents(parts)
    return Fraction(top, below)


def slow_parts(reading, spare):
    """One part more, [] where there is none; None where it wants more than is left of spare."""
    before = reading.took()
    answer = reading.part(spare[0])
    spare[0] -= reading.took() - before
    if answer == ("none",):
        raise Divided()
    if answer == ("waits",):
        return None
    return list(answer[1:])


def slow_order(one, other, most):
    """Two readings compared by the fractions that their parts come to."""
    spare = [most]
    rows = [[], []]
    while True:
        ended = True
        for row, reading in zip(rows, (one, other)):
            more = slow_parts(reading, spare)
            if more is None:
                return "waits"
            ended = ended and not more
            row += more
        if rows[0] != rows[1]:
            return "less" if joined(rows[0]) < joined(rows[1]) else "more"
        if ended:
            return "same"


def slow_compared(one, other, most):
    return slow_order(SlowReading(one), SlowReading(other), most)


class FreeReading:
    """The parts of a fraction, which cost nothing."""

    def __init__(self, value):
        self.parts = chain_of(value)

    def part(self, most):
        return ("part", self.parts.pop(0)) if self.parts else ("end",)

    def took(self):
        return 0


def beside(value, size):
    """The fractions of the size on either side of a value, found by a walk through all."""
    belows = range(1, size + 1)
    return (max(Fraction(value * below // 1, below) for below in belows),
            min(Fraction(-(-value * below // 1), below) for below in belows))


def slow_nearest(tree, size, most):
    reading, spare, parts = SlowReading(tree), [most], []
    while not parts or joined(parts).denominator <= size:
        more = slow_parts(reading, spare)
        if more is None:
            return None
        if not more:
            return joined(parts).as_integer_ratio()
        parts += more
    sides = beside(joined(parts), size)
    order = slow_order(SlowReading(tree), FreeReading(sum(sides) / 2), most)
    if order == "waits":
        return None
    chosen = {"less": sides[0], "more": sides[1], "same": min(sides, key=lambda side: (side.denominator, side))}
    return chosen[order].as_integer_ratio()
