"""Boxes: they take parts of one chain or of two and tell those of what comes of them."""

from chainparts.errors import NoValue
from chainparts.leaves import END, WAITS


class FractionBox:
    """A fraction that is left where no chain is wanted any more: its parts cost nothing."""

    def __init__(self, top, below, told):
        self.top = top
        self.below = below
        self.told = told

    def ask(self, meter):
        if self.below == 0:
            return self.nothing_left()
        part = self.top // self.below
        self.top, self.below = turned_over((self.top, self.below), part)
        self.told = True
        return ("part", part)

    def nothing_left(self):
        # Behind a part told, one over nought is only what is left of a whole
        # number, turned over: there the chain ends.
        if self.told:
            return END
        raise NoValue("something is divided by nought")


class FourBox:
    """(a x + b) / (c x + d), x being what is left of its tree's number."""

    def __init__(self, numbers, tree, started, told):
        self.numbers = numbers
        self.tree = tree
        self.started = started
        self.told = told
        self.rest = None

    def ask(self, meter):
        while self.rest is None:
            part = sure_part(four_corners(self.numbers)) if self.started else None
            if part is not None:
                return self.tell(part)
            answer = self.tree.ask(meter)
            if answer == WAITS:
                return answer
            self.take(answer)
        return self.rest.ask(meter)

    def tell(self, part):
        self.numbers = turned_over(self.numbers, part)
        self.told = True
        return ("part", part)

    def take(self, answer):
        a, b, c, d = self.numbers
        if answer == END:
            self.rest = FractionBox(a, c, self.told)
            return
        part = answer[1]
        self.numbers = (a * part + b, a, c * part + d, c)
        self.started = True


class EightBox:
    """(a x y + b x + c y + d) / (e x y + f x + g y + h), likewise of two trees."""

    def __init__(self, numbers, one, other):
        self.numbers = numbers
        self.trees = (one, other)
        self.taken = [0, 0]
        self.told = False
        self.rest = None

    def ask(self, meter):
        while self.rest is None:
            part = sure_part(eight_corners(self.numbers)) if min(self.taken) > 0 else None
            if part is not None:
                return self.tell(part)
            which = 0 if self.taken[0] <= self.taken[1] else 1
            answer = self.trees[which].ask(meter)
            if answer == WAITS:
                return answer
            self.take(which, answer)
        return self.rest.ask(meter)

    def tell(self, part):
        self.numbers = turned_over(self.numbers, part)
        self.told = True
        return ("part", part)

    def take(self, which, answer):
        if answer == END:
            self.rest = self.left_without(which)
            return
        if which == 0:
            self.numbers = with_first_part(self.numbers, answer[1])
        else:
            self.numbers = with_second_part(self.numbers, answer[1])
        self.taken[which] += 1

    def left_without(self, which):
        """The box of the other tree alone, where one is without bound."""
        a, b, c, d, e, f, g, h = self.numbers
        if which == 0:
            return box_of_one((a, b, e, f), self.trees[1], self.told)
        return box_of_one((a, c, e, g), self.trees[0], self.told)


def box_of_one(numbers, tree, told):
    a, b, c, d = numbers
    if a * d != b * c:
        return FourBox(numbers, tree, True, told)
    # The value hangs on the tree no more: either column tells it, but for
    # one that has nought below.
    if c != 0:
        return FractionBox(a, c, told)
    return FractionBox(b, d, told)


def with_first_part(numbers, part):
    a, b, c, d, e, f, g, h = numbers
    return (a * part + c, b * part + d, a, b, e * part + g, f * part + h, e, f)


def with_second_part(numbers, part):
    a, b, c, d, e, f, g, h = numbers
    return (a * part + b, a, c * part + d, c, e * part + f, e, g * part + h, g)


def turned_over(numbers, part):
    """One over what is left when the part is taken away."""
    half = len(numbers) // 2
    above, below = numbers[:half], numbers[half:]
    left = [top - part * under for top, under in zip(above, below)]
    return below + tuple(left)


def four_corners(numbers):
    a, b, c, d = numbers
    return [(a, c), (a + b, c + d)]


def eight_corners(numbers):
    a, b, c, d, e, f, g, h = numbers
    return [(a, e), (a + b, e + f), (a + c, e + g), (a + b + c + d, e + f + g + h)]


def sure_part(corners):
    """The one first part of all that may yet come, or None.

    The corners are told as (top, below), where each number left is 1 or
    without bound; where all are without bound comes first. Only there the
    corner's own value may come: so the others may lie at the next whole
    number, and that one not.
    """
    if corners[0][1] < 0:
        corners = [(-top, -below) for top, below in corners]
    if min([below for top, below in corners]) <= 0:
        return None
    part = corners[0][0] // corners[0][1]
    for top, below in corners:
        if not part * below <= top <= (part + 1) * below:
            return None
    return part
