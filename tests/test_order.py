import unittest
from fractions import Fraction

from chainparts.errors import NoValue
from chainparts.order import compared
from chainparts.readers import reader

FAR = 10 ** 12
ROOT2 = ("root", 0, 2, 1)
ROOT3 = ("root", 0, 3, 1)
EULER = ("ruled", (2,), (1, 2, 1), (0, 2, 0))
PI = ("fraction", 355, 113)
TIMES = (1, 0, 0, 0, 0, 0, 0, 1)
OTHER_WAY = {"less": "more", "more": "less", "same": "same", "waits": "waits"}


def ended(*parts):
    return ("ruled", parts, (), ())


class Order(unittest.TestCase):
    def stands(self, one, other, order, cost):
        """Told so with just enough parts of leaves and with more; it waits with less."""
        for most in range(cost):
            self.assertEqual(compared(one, other, most), "waits", (one, other, most))
        for most in (cost, cost + 1, cost + 50):
            self.assertEqual(compared(one, other, most), order, (one, other, most))

    def both_ways(self, one, other, order, cost):
        self.stands(one, other, order, cost)
        self.stands(other, one, OTHER_WAY[order], cost)

    def test_fractions(self):
        self.both_ways(("fraction", 1, 2), ("fraction", 2, 3), "less", 4)
        self.both_ways(("fraction", 7, 2), ("fraction", 5, 2), "more", 2)
        self.both_ways(("fraction", -1, 2), ("fraction", 1, 2), "less", 2)
        self.both_ways(PI, ("fraction", 22, 7), "less", 5)
        self.both_ways(("fraction", 1, FAR), ("fraction", 1, FAR - 1), "less", 4)

    def test_the_same_told_otherwise(self):
        self.both_ways(PI, PI, "same", 6)
        self.both_ways(PI, ("fraction", -710, -226), "same", 6)
        self.both_ways(("fraction", 0, 5), ("fraction", 0, -1), "same", 2)
        self.both_ways(("fraction", 5, 4), ("root", 2, 9, 4), "same", 4)
        self.both_ways(ended(3, 7, 16), PI, "same", 6)
        self.both_ways(("fraction", 4, 1), ("power", ("fraction", 2, 1), 2), "same", 3)

    def test_all_fractions_of_a_field(self):
        values = sorted({Fraction(top, below) for top in range(-9, 10) for below in range(1, 8)})
        trees = [("fraction", *value.as_integer_ratio()) for value in values]
        for at, one in enumerate(trees):
            for there, other in enumerate(trees):
                order = "less" if at < there else "more" if at > there else "same"
                self.assertEqual(compared(one, other, 99), order, (one, other))

    def test_one_chain_begins_the_other(self):
        # An odd count of parts comes to less than what goes on behind it, an even one to more.
        self.both_ways(ended(2), ended(2, 5), "less", 3)
        self.both_ways(ended(2, 5), ended(2, 5, 3), "more", 5)
        self.both_ways(ended(2, 5, 3), ended(2, 5, 3, 4, 2), "less", 7)
        self.both_ways(ended(-1), ended(-1, FAR), "less", 3)
        self.both_ways(ended(-4, 2), ended(-4, 2, 7), "more", 5)
        self.both_ways(ended(1), ROOT2, "less", 3)
        self.both_ways(ended(1, 2), ROOT2, "more", 5)
        self.both_ways(ended(1, 2, 2), ROOT2, "less", 7)
        self.both_ways(ended(1, 2, 2, 2), ROOT2, "more", 9)

    def test_the_first_parts_that_are_not_alike(self):
        self.both_ways(ended(1, 4), ended(2, 4), "less", 2)
        self.both_ways(ended(1, 4), ended(1, 5), "more", 4)
        self.both_ways(ended(1, 4, 2), ended(1, 4, 3), "less", 6)
        self.both_ways(ended(1, 4, 2, 2), ended(1, 4, 2, 3), "more", 8)
        # An end stands for more than any part.
        self.both_ways(ended(1, 4, FAR), ended(1, 4), "less", 5)

    def test_roots(self):
        self.both_ways(ROOT2, ROOT3, "less", 4)
        self.both_ways(("root", 0, FAR - 1, 1), ("fraction", 10 ** 6, 1), "less", 2)
        self.both_ways(("root", 0, 2, -1), ("root", 0, 3, -1), "more", 4)
        # 999999; 1, 1999998 and 999999; 1, 999998.
        self.both_ways(("root", 0, FAR - 1, 1), ("root", 0, FAR - 2, 1), "more", 6)

    def test_the_first_one_is_asked_first(self):
        twice = ("four", (2, 0, 0, 1), ROOT2)
        # Three parts for the first part of twice; then one of the other number.
        self.stands(twice, ("fraction", 9, 1), "less", 4)
        self.stands(("fraction", 9, 1), twice, "more", 4)
        # Nothing is left for a second number that would have no value.
        broken = ("four", (0, 1, 1, 0), ("fraction", 0, 1))
        self.assertEqual(compared(twice, broken, 3), "waits")
        with self.assertRaises(NoValue):
            compared(twice, broken, 4)
        with self.assertRaises(NoValue):
            compared(broken, twice, 1)
        self.assertEqual(compared(broken, twice, 0), "waits")

    def test_parts_that_are_not_alike_end_the_asking(self):
        # The second part of the second number would take more.
        self.stands(("fraction", 7, 2), ("four", (2, 0, 0, 1), ROOT2), "more", 4)

    def test_parts_without_cost(self):
        tree = ("four", (1, 0, 0, 97), ("fraction", 31, 1))
        self.both_ways(tree, tree, "same", 2)
        self.both_ways(tree, ("fraction", 31, 97), "same", 6)
        self.both_ways(tree, ("fraction", 31, 98), "more", 4)
        # The last part of the second number was paid for; its end comes free.
        self.stands(("fraction", 31, 97), tree, "same", 6)

    def test_ruled_chains_that_are_alike_for_long(self):
        long = ("ruled", (1,), (2,), (0,))
        for many in range(12):
            # Alike for so many parts and the first one; then comes 2 against 3.
            other = ("ruled", (1,) + (2,) * many, (3,), (0,))
            self.both_ways(long, other, "more" if many % 2 == 0 else "less", 2 * (many + 2))
        # The ring's last part, at the place 24, is greater by one at the second turn.
        self.both_ways(long, ("ruled", (1,), (2,) * 12, (0,) * 11 + (1,)), "less", 50)
        self.both_ways(long, ("ruled", (1,), (2,) * 11, (0,) * 10 + (1,)), "less", 46)
        self.both_ways(long, ("ruled", (1, 2), (2,) * 12, (0,) * 11 + (1,)), "more", 52)

    def test_without_end_and_the_same(self):
        ring = ("ruled", (1,), (2,) * 12, (0,) * 12)
        for one, other in [(ROOT2, ROOT2), (ROOT2, ring), (EULER, EULER), (ROOT2, ("root", 0, 8, 2)),
                           (("power", ROOT2, 2), ("fraction", 2, 1)), (("eight", TIMES, ROOT2, ROOT3), ("root", 0, 6, 1)),
                           (("four", (0, 1, 1, 0), ("four", (0, 1, 1, 0), EULER)), EULER)]:
            for most in (0, 1, 2, 7, 100, 801):
                self.assertEqual(compared(one, other, most), "waits", (one, other))
                self.assertEqual(compared(other, one, most), "waits", (one, other))

    def test_most_holds_for_both_together(self):
        self.stands(("fraction", 3, 1), ("fraction", 3, 1), "same", 2)
        # 3; 6 and more against 3: two parts of a costly number, and one of a cheap one.
        costly = ("eight", (0, 1, 1, 0, 0, 0, 0, 1), ROOT2, ROOT3)
        reading = reader(costly)
        self.assertEqual([reading.part(99), reading.part(99)], [("part", 3), ("part", 6)])
        self.both_ways(costly, ("fraction", 3, 1), "more", reading.took() + 1)

    def test_the_trees_stay_as_they_were(self):
        one, other = ("ruled", (1, 2), (3,), (1,)), ("four", (2, 1, 1, 1), ("root", 0, 2, 1))
        kept = repr((one, other))
        told = [compared(one, other, most) for most in range(20)]
        self.assertEqual([compared(one, other, most) for most in range(20)], told)
        self.assertEqual(repr((one, other)), kept)


if __name__ == "__main__":
    unittest.main()
