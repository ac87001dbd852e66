"""Rings: the parts of a root that come again and again."""

from chainparts.errors import BadTree, TooLong
from chainparts.leaves import FractionChain, root_chain
from chainparts.trees import check_tree


def ring_of(top, square, below, most):
    """The parts ahead of the ring, and the ring, as two lists."""
    check_tree(("root", top, square, below))
    chain = root_chain(top, square, below)
    if isinstance(chain, FractionChain):
        raise BadTree("the chain of the root of a square ends")
    parts, start = read_round(chain, most)
    return parts[:start], parts[start:]


def read_round(chain, most):
    """The parts until what is left has been left before, and where that was."""
    parts = []
    places = {}
    # What is left tells all parts that follow, and they tell it: so its first
    # return ends the shortest ring, behind the fewest parts.
    while chain.what_is_left() not in places:
        if len(parts) >= most:
            raise TooLong("more parts than are allowed")
        places[chain.what_is_left()] = len(parts)
        parts.append(chain.next_part())
    return parts, places[chain.what_is_left()]
