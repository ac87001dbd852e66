"""Nearness: the nearest fraction to a number, of those with a small number below."""

from chainparts.boxes import FractionBox
from chainparts.leaves import END, WAITS
from chainparts.order import order_of
from chainparts.readers import Reading, reader


def nearest(tree, size, most):
    """The nearest fraction (top, below), below being 1 to size; or None."""
    sides = read_sides(reader(tree), size, most)
    if sides is None:
        return None
    low, high = sides
    if low == high:
        return low
    order = order_of(reader(tree), middle_reading(low, high), most)
    return nearer_side(order, low, high)


def read_sides(reading, size, most):
    """The fractions on either side of the number, the lesser one first.

    Both are the number itself where it is one of them; None where the
    reading wants more parts of leaves.
    """
    # What stands ahead of the first part, so that it is put together as all others are.
    before, last = (0, 1), (1, 0)
    while True:
        answer = reading.part(most - reading.took())
        if answer == WAITS:
            return None
        if answer == END:
            return last, last
        following = stepped(before, last, answer[1])
        if following[1] > size:
            return sides_within(before, last, size)
        before, last = last, following


def stepped(before, last, times):
    return before[0] + times * last[0], before[1] + times * last[1]


def sides_within(before, last, size):
    # The number lies between last and every step from before towards it that
    # stays within the size: the farthest of these is its other neighbour.
    other = stepped(before, last, (size - before[1]) // last[1])
    if last[0] * other[1] < other[0] * last[1]:
        return last, other
    return other, last


def middle_reading(low, high):
    """A reading of the middle of two fractions, whose parts cost nothing."""
    top = low[0] * high[1] + high[0] * low[1]
    return Reading(FractionBox(top, 2 * low[1] * high[1], False))


def nearer_side(order, low, high):
    if order == "waits":
        return None
    if order == "less":
        return low
    if order == "more":
        return high
    return high if high[1] < low[1] else low
