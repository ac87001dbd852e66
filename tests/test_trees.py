import unittest

from chainparts.errors import BadTree
from chainparts.near import nearest
from chainparts.order import compared
from chainparts.readers import first_parts, reader

FAR = 10 ** 12
HALF = ("fraction", 1, 2)
ROOT = ("root", 0, 2, 1)
RULED = ("ruled", (1,), (2,), (0,))
SAME = (1, 0, 0, 1)
TIMES = (1, 0, 0, 0, 0, 0, 0, 1)
BROKEN = ("four", (0, 1, 1, 0), ("fraction", 0, 1))


def nested(times, word, leaf=HALF):
    tree = leaf
    for turn in range(times):
        if word == "four":
            tree = ("four", SAME, tree)
        elif word == "power":
            tree = ("power", tree, 1)
        elif word == "first":
            tree = ("eight", TIMES, tree, HALF)
        else:
            tree = ("eight", TIMES, HALF, tree)
    return tree


BAD_FRACTIONS = [
    ("fraction", 1, 0), ("fraction", 0, 0), ("fraction", FAR + 1, 1), ("fraction", -FAR - 1, 1),
    ("fraction", 1, FAR + 1), ("fraction", 1, -FAR - 1),
]
BAD_ROOTS = [
    ("root", 1, 2, 0), ("root", 1, -1, 1), ("root", 1, -4, 1), ("root", FAR + 1, 2, 1),
    ("root", -FAR - 1, 2, 1), ("root", 0, FAR + 1, 1), ("root", 0, 2, FAR + 1), ("root", 0, 2, -FAR - 1),
]
BAD_RULED = [
    ("ruled", (), (), ()), ("ruled", (), (1,), (0,)),
    ("ruled", (2,) * 13, (), ()), ("ruled", (2,) * 13, (1,), (0,)), ("ruled", (1,), (1,) * 13, (0,) * 13),
    ("ruled", (1,), (1, 2), (0,)), ("ruled", (1,), (1,), (0, 0)), ("ruled", (1,), (1,), ()),
    ("ruled", (1,), (), (0,)),
    ("ruled", (1, 0, 2), (), ()), ("ruled", (1, -1, 2), (), ()), ("ruled", (1, 0), (1,), (0,)),
    ("ruled", (1, 2, -3), (1,), (0,)),
    ("ruled", (1,), (0,), (0,)), ("ruled", (1,), (1, 0), (0, 1)), ("ruled", (1,), (-1,), (2,)),
    ("ruled", (1,), (1,), (-1,)), ("ruled", (1,), (1, 9), (0, -1)),
    ("ruled", (1, 1), (), ()), ("ruled", (0, 5, 1), (), ()), ("ruled", (1, 0), (), ()),
    ("ruled", (FAR + 1,), (), ()), ("ruled", (-FAR - 1,), (), ()), ("ruled", (0, FAR + 1), (), ()),
    ("ruled", (0,), (FAR + 1,), (0,)), ("ruled", (0,), (1,), (FAR + 1,)),
]
BAD_FOURS = [
    ("four", (0, 0, 0, 0), HALF), ("four", (1, 2, 2, 4), HALF), ("four", (1, 2, 0, 0), HALF),
    ("four", (0, 0, 1, 2), HALF), ("four", (1, 0, 1, 0), HALF), ("four", (0, -3, 0, 5), HALF),
    ("four", (-2, 3, 4, -6), HALF),
    ("four", (FAR + 1, 0, 0, 1), HALF), ("four", (1, FAR + 1, 0, 1), HALF),
    ("four", (0, 1, -FAR - 1, 1), HALF), ("four", (1, 0, 0, -FAR - 1), HALF),
    ("four", (1, 0, 1), HALF), ("four", (1, 0, 0, 1, 1), HALF),
]
BAD_EIGHTS = [
    ("eight", (0,) * 8, HALF, ROOT), ("eight", (1, 2, 3, 4, 0, 0, 0, 0), HALF, ROOT),
    ("eight", (0, 0, 0, 0, 1, 2, 3, 4), HALF, ROOT), ("eight", (1, 2, 3, 4, 2, 4, 6, 8), HALF, ROOT),
    ("eight", (1, -2, 0, 4, -3, 6, 0, -12), HALF, ROOT), ("eight", (0, 0, 0, 5, 0, 0, 0, 1), HALF, ROOT),
    ("eight", (FAR + 1, 0, 0, 0, 0, 0, 0, 1), HALF, ROOT), ("eight", (1, 0, 0, 0, 0, 0, 0, -FAR - 1), HALF, ROOT),
    ("eight", (1, 0, 0, 0, 0, 0, 1), HALF, ROOT), ("eight", (1, 0, 0, 0, 0, 0, 0, 1, 0), HALF, ROOT),
]
BAD_POWERS = [("power", ROOT, 0), ("power", ROOT, 5), ("power", ROOT, -1), ("power", ROOT, FAR)]
TOO_DEEP = [nested(5, word) for word in ("four", "power", "first", "second")] + [
    nested(5, "four", RULED), nested(3, "first", nested(2, "power", ROOT)), nested(9, "second"),
]
BAD = BAD_FRACTIONS + BAD_ROOTS + BAD_RULED + BAD_FOURS + BAD_EIGHTS + BAD_POWERS + TOO_DEEP

GOOD = [
    ("fraction", FAR, -FAR), ("fraction", -FAR, FAR), ("fraction", 0, 1), ("fraction", 6, 4),
    ("root", FAR, FAR, FAR), ("root", -FAR, 0, -FAR), ("root", 0, 0, 1),
    ("ruled", (0,), (), ()), ("ruled", (1,), (), ()), ("ruled", (-FAR,), (), ()), ("ruled", (FAR,), (FAR,), (FAR,)),
    ("ruled", (2,) * 12, (), ()), ("ruled", (1,) * 12, (1,) * 12, (0,) * 12), ("ruled", (-3, 1), (1,), (0,)),
    ("ruled", (0, 2), (), ()), ("ruled", (1, 1, 2), (), ()),
    ("four", (FAR, -FAR, FAR, FAR), HALF), ("four", (0, 1, 1, 0), HALF), ("four", (FAR, FAR - 1, 1, 1), HALF),
    ("eight", (FAR, 0, 0, 0, 0, 0, 0, -FAR), HALF, ROOT),
    ("power", ROOT, 1), ("power", ROOT, 2), ("power", ROOT, 3), ("power", ROOT, 4),
    nested(4, "four"), nested(4, "power"), nested(4, "first"), nested(4, "second"), nested(4, "four", RULED),
    ("power", nested(3, "four"), 4), nested(2, "first", ("power", ("power", ROOT, 4), 4)),
]


def within_good_trees(tree):
    return [
        ("four", (2, 1, 0, 1), tree), ("power", tree, 3), ("power", tree, 1), ("eight", TIMES, tree, ROOT),
        ("eight", TIMES, HALF, tree), ("four", SAME, ("eight", TIMES, RULED, ("power", tree, 2))),
        ("four", SAME, ("four", SAME, ("four", SAME, ("four", SAME, tree)))),
    ]


class Trees(unittest.TestCase):
    def refuses(self, tree, name=None):
        name = name or repr(tree)
        with self.assertRaises(BadTree, msg=name):
            reader(tree)
        for many, most in ((0, 0), (1, 0), (3, 10)):
            with self.assertRaises(BadTree, msg=name):
                first_parts(tree, many, most)
        for most in (0, 10):
            for one, other in ((tree, HALF), (ROOT, tree), (BROKEN, tree), (tree, BROKEN)):
                with self.assertRaises(BadTree, msg=name):
                    compared(one, other, most)
            with self.assertRaises(BadTree, msg=name):
                nearest(tree, 3, most)

    def test_refused_at_the_top(self):
        for tree in BAD:
            self.refuses(tree)

    def test_refused_within_good_trees(self):
        for tree in BAD:
            for around in within_good_trees(tree):
                self.refuses(around)

    def test_within_the_limits(self):
        for tree in GOOD:
            reader(tree)
            self.assertEqual(first_parts(tree, 0, 0), ([], "parts"))
            self.assertEqual(compared(tree, HALF, 0), "waits")
            self.assertEqual(compared(HALF, tree, 0), "waits")
            self.assertIsNone(nearest(tree, 3, 0))
            self.assertIn(compared(tree, tree, 50), ("same", "waits"))
            nearest(tree, 3, 50)

    def test_each_crossing_of_an_eight_is_enough(self):
        for one in range(4):
            for other in range(4):
                above, below = [0] * 4, [0] * 4
                above[one], below[other] = 3, -2
                tree = ("eight", tuple(above + below), HALF, ROOT)
                if one == other:
                    self.refuses(tree)
                else:
                    reader(tree)

    def test_far_too_deep(self):
        self.refuses(nested(5000, "four"), "fours")
        self.refuses(nested(5000, "second"), "eights")

    def test_a_good_tree_in_a_good_tree(self):
        for tree in GOOD[:20]:
            for around in within_good_trees(tree)[:5]:
                reader(around)

    def test_refused_even_where_nobody_would_look(self):
        self.refuses(("eight", TIMES, ("power", ("root", 0, 2, 1), 2), ("fraction", 1, 0)))
        self.refuses(("eight", TIMES, ("four", (0, 1, 1, 0), ("fraction", 0, 1)), ("power", ROOT, 5)))


if __name__ == "__main__":
    unittest.main()
