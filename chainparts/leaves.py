"""The leaves of trees: chains that tell their parts one by one, at a cost."""

from chainparts.numbers import root_below

END = ("end",)
WAITS = ("waits",)


class Meter:
    """How many parts of leaves may yet be taken, and how many were."""

    def __init__(self):
        self.left = 0
        self.spent = 0

    def allow(self, most):
        self.left = most

    def pay(self):
        self.left -= 1
        self.spent += 1


class FractionChain:
    def __init__(self, top, below):
        self.top = top
        self.below = below

    def has_ended(self):
        return self.below == 0

    def next_part(self):
        part = self.top // self.below
        self.top, self.below = self.below, self.top - part * self.below
        return part


class RootChain:
    """The chain of a root whose square is no square of a whole number."""

    def __init__(self, top, square, below):
        # Widened so that below divides square - top * top: then it does so
        # behind each part, and all numbers stay whole.
        wide = abs(below)
        self.top = top * wide
        self.square = square * wide * wide
        self.below = below * wide
        self.root = root_below(self.square)

    def has_ended(self):
        return False

    def next_part(self):
        # The root lies between self.root and the next whole number; divided
        # by a number below nought, the upper one of them is what rounds down.
        upward = 1 if self.below < 0 else 0
        part = (self.top + self.root + upward) // self.below
        self.top = part * self.below - self.top
        self.below = (self.square - self.top * self.top) // self.below
        return part

    def what_is_left(self):
        return (self.top, self.below)


class RuledChain:
    def __init__(self, parts, ring, steps):
        self.parts = parts
        self.ring = ring
        self.steps = steps
        self.at = 0

    def has_ended(self):
        return len(self.ring) == 0 and self.at >= len(self.parts)

    def next_part(self):
        at = self.at
        self.at += 1
        if at < len(self.parts):
            return self.parts[at]
        turn, place = divmod(at - len(self.parts), len(self.ring))
        return self.ring[place] + turn * self.steps[place]


class Leaf:
    """A chain whose parts cost one each; that it has ended costs nothing."""

    def __init__(self, chain):
        self.chain = chain

    def ask(self, meter):
        if self.chain.has_ended():
            return END
        if meter.left < 1:
            return WAITS
        meter.pay()
        return ("part", self.chain.next_part())


def leaf_of(tree):
    """The leaf of a tree that has no trees in it."""
    if tree[0] == "fraction":
        return Leaf(FractionChain(tree[1], tree[2]))
    if tree[0] == "root":
        return Leaf(root_chain(tree[1], tree[2], tree[3]))
    return Leaf(RuledChain(tree[1], tree[2], tree[3]))


def root_chain(top, square, below):
    root = root_below(square)
    if root * root == square:
        return FractionChain(top + root, below)
    return RootChain(top, square, below)
