"""Many trees, read by the program and by the slow reading, asked alike."""

import unittest

from chainparts.errors import BadTree, NoValue
from chainparts.near import nearest
from chainparts.order import compared
from chainparts.readers import reader
from reference import Divided, SlowReading, slow_compared, slow_nearest

FAR = 10 ** 12
LEAVES = [
    ("fraction", 0, 1), ("fraction", 1, 1), ("fraction", -1, 1), ("fraction", 7, 3), ("fraction", -13, 8),
    ("fraction", FAR, 999999999989), ("root", 0, 2, 1), ("root", 1, 5, 2), ("root", -3, 7, -5), ("root", 2, 9, 4),
    ("root", -1, 0, 3), ("root", 0, FAR - 1, 1), ("ruled", (2,), (1, 2, 1), (0, 2, 0)), ("ruled", (0, 1, 4), (), ()),
    ("ruled", (-2, 3), (1, 5), (0, 0)), ("ruled", (0,), (1,), (1,)), ("ruled", (-FAR,), (FAR,), (FAR,)),
]
BUDGETS = [(0, 1), (0, 0, 3, 1, 8), (30,)]


class Dice:
    """Numbers that look thrown and are the same in each run."""

    def __init__(self, seed):
        self.state = seed

    def below(self, bound):
        self.state = (self.state * 6364136223846793005 + 1442695040888963407) % 2 ** 64
        return (self.state >> 33) % bound

    def number(self):
        kind = self.below(10)
        if kind < 7:
            return self.below(7) - 3
        if kind < 9:
            return self.below(101) - 50
        return self.below(2 ** 31) * 465 - 5 * 10 ** 11

    def leaf(self):
        return LEAVES[self.below(len(LEAVES))]

    def numbers(self, many):
        half = many // 2
        while True:
            row = [self.number() if self.below(3) else 0 for place in range(many)]
            if any(row[i] * row[half + k] != row[k] * row[half + i] for i in range(half) for k in range(i)):
                return tuple(row)

    def tree(self, depth):
        kind = self.below(6)
        if depth == 1 or kind == 0:
            return self.leaf()
        if kind < 3:
            return ("four", self.numbers(4), self.tree(depth - 1))
        if kind < 5:
            return ("eight", self.numbers(8), self.tree(depth - 1), self.tree(depth - 1))
        return ("power", self.tree(depth - 1), 1 + self.below(4 if depth < 4 else 2))


def asked(reading, most):
    try:
        return reading.part(most)
    except NoValue:
        return ("none",)


def answered(function, *arguments):
    try:
        return function(*arguments)
    except (NoValue, Divided):
        return "none"


class AgainstReference(unittest.TestCase):
    def alike(self, tree, budgets, many=15):
        told, slow = reader(tree), SlowReading(tree)
        for turn in range(many):
            most = budgets[turn % len(budgets)]
            answers = (asked(told, most), told.took()), (slow.part(most), slow.took())
            self.assertEqual(answers[0], answers[1], (tree, budgets, turn))

    def test_leaves(self):
        for leaf in LEAVES:
            for budgets in BUDGETS:
                self.alike(leaf, budgets)

    def test_fours_of_each_leaf(self):
        dice = Dice(6)
        for leaf in LEAVES:
            for turn in range(20):
                self.alike(("four", dice.numbers(4), leaf), BUDGETS[turn % 3])

    def test_eights_of_each_two_leaves(self):
        dice = Dice(7)
        for one in LEAVES:
            for other in LEAVES:
                for turn in range(3):
                    self.alike(("eight", dice.numbers(8), one, other), BUDGETS[turn])

    def test_powers_of_each_leaf(self):
        for leaf in LEAVES:
            for times in (1, 2, 3, 4):
                for budgets in BUDGETS:
                    self.alike(("power", leaf, times), budgets)

    def test_trees_of_all_kinds(self):
        dice = Dice(8)
        for turn in range(900):
            self.alike(dice.tree(2 + turn % 4), BUDGETS[turn % 3])

    def compared_alike(self, one, other, most):
        told = answered(compared, one, other, most)
        self.assertEqual(told, answered(slow_compared, one, other, most), (one, other, most))
        return told

    def test_each_two_leaves_compared(self):
        for one in LEAVES:
            for other in LEAVES:
                for most in (0, 1, 2, 3, 4, 7, 40):
                    self.compared_alike(one, other, most)

    def test_trees_of_all_kinds_compared(self):
        dice, answers = Dice(10), set()
        for turn in range(700):
            one = dice.tree(1 + turn % 4)
            # Often the same number told otherwise, so that they are alike for long.
            other = [dice.tree(1 + turn % 3), ("power", one, 1), ("four", (1, 0, 0, 1), one)][turn % 3]
            if turn % 8 < 4:
                one, other = other, one
            for most in (3, 12, 60):
                answers.add(self.compared_alike(one, other, most))
        self.assertEqual(answers, {"less", "same", "more", "waits", "none"})

    def nearest_alike(self, tree, size, most):
        told = answered(nearest, tree, size, most)
        self.assertEqual(told, answered(slow_nearest, tree, size, most), (tree, size, most))

    def test_fractions_nearest_to_leaves(self):
        for leaf in LEAVES:
            for size in (1, 2, 3, 8, 30):
                for most in range(12):
                    self.nearest_alike(leaf, size, most)

    def test_fractions_nearest_to_trees_of_all_kinds(self):
        dice = Dice(11)
        for turn in range(500):
            tree = dice.tree(1 + turn % 4)
            for most in (2, 5, 9, 60):
                self.nearest_alike(tree, 1 + dice.below(20), most)

    def test_the_trees_are_no_bad_ones(self):
        dice = Dice(9)
        for turn in range(300):
            try:
                reader(dice.tree(5))
            except BadTree:
                self.fail("a good tree was refused")


if __name__ == "__main__":
    unittest.main()
