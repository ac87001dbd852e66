"""Readings: a tree's parts, one after the other."""

from chainparts.boxes import EightBox, FourBox
from chainparts.leaves import Meter, leaf_of
from chainparts.trees import check_tree

TIMES = (1, 0, 0, 0, 0, 0, 0, 1)


class Reading:
    def __init__(self, box):
        self.box = box
        self.meter = Meter()

    def part(self, most):
        """("part", n), ("end",) or ("waits",), for at most so many parts of leaves."""
        self.meter.allow(most)
        return self.box.ask(self.meter)

    def took(self):
        """How many parts of leaves were taken so far, in all."""
        return self.meter.spent


def reader(tree):
    """A reading of a tree."""
    check_tree(tree)
    return Reading(box_of(tree))


def box_of(tree):
    word = tree[0]
    if word == "four":
        return FourBox(tree[1], box_of(tree[2]), False, False)
    if word == "eight":
        return EightBox(tree[1], box_of(tree[2]), box_of(tree[3]))
    if word == "power":
        return power_box(tree[1], tree[2])
    return leaf_of(tree)


def power_box(tree, times):
    if times == 1:
        return box_of(tree)
    return EightBox(TIMES, box_of(tree), power_box(tree, times - 1))


def first_parts(tree, many, most):
    """The first parts of a tree, and how it stopped: parts, end or waits."""
    reading = reader(tree)
    parts = []
    while len(parts) < many:
        answer = reading.part(most - reading.took())
        if answer[0] != "part":
            return parts, answer[0]
        parts.append(answer[1])
    return parts, "parts"
