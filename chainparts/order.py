"""Order: two numbers compared by their parts."""

from chainparts.leaves import END, WAITS
from chainparts.readers import reader


def compared(one, other, most):
    """Less, same or more, of the first tree's number; or waits."""
    return order_of(reader(one), reader(other), most)


def order_of(one, other, most):
    """The same of two readings that were not asked yet."""
    at = 0
    while True:
        first = one.part(most - one.took() - other.took())
        if first == WAITS:
            return "waits"
        second = other.part(most - one.took() - other.took())
        if second == WAITS:
            return "waits"
        if first != second:
            return order_at(at, first, second)
        if first == END:
            return "same"
        at += 1


def order_at(at, first, second):
    """The order of two numbers whose parts, or ends, are not alike here."""
    # Each part but the first stands below a line, so that at every second
    # place the greater part makes the lesser number.
    turned = at % 2 == 1
    return "more" if is_greater(first, second) != turned else "less"


def is_greater(first, second):
    # Where a chain has ended, what is left is without bound.
    if first == END or second == END:
        return first == END
    return first[1] > second[1]
