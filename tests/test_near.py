import unittest
from fractions import Fraction

from chainparts.errors import NoValue
from chainparts.near import nearest
from chainparts.readers import reader
from reference import chain_of

FAR = 10 ** 12
ROOT2 = ("root", 0, 2, 1)
ROOT3 = ("root", 0, 3, 1)
EULER = ("ruled", (2,), (1, 2, 1), (0, 2, 0))
PI = ("fraction", 355, 113)
SUM = (0, 1, 1, 0, 0, 0, 0, 1)
TIMES = (1, 0, 0, 0, 0, 0, 0, 1)


def walked(value, size):
    """The nearest of all fractions of the size, by a walk through them."""
    beside = [Fraction(value * below // 1 + more, below) for below in range(1, size + 1) for more in (0, 1)]
    found = min(beside, key=lambda fraction: (abs(value - fraction), fraction.denominator, fraction))
    return found.as_integer_ratio()


class Near(unittest.TestCase):
    def lies(self, tree, size, told, cost):
        """Told so with just enough parts of leaves for each reading and with more; None with less."""
        for most in range(cost):
            self.assertIsNone(nearest(tree, size, most), (tree, size, most))
        for most in (cost, cost + 1, cost + 50):
            self.assertEqual(nearest(tree, size, most), told, (tree, size, most))

    def test_whole_numbers(self):
        for number in (0, 1, -1, 7, -12, FAR, -FAR):
            for size in (1, 2, 9, 10 ** 20):
                self.lies(("fraction", number, 1), size, (number, 1), 1)
        self.lies(("fraction", 12, -4), 5, (-3, 1), 1)
        self.lies(("root", 1, 9, 2), 1, (2, 1), 1)

    def test_fractions_within_the_size(self):
        for size in (113, 114, 500, FAR, 10 ** 40):
            self.lies(PI, size, (355, 113), 3)
        self.lies(("fraction", 6, -4), 2, (-3, 2), 2)
        self.lies(("fraction", FAR - 1, FAR), FAR, (FAR - 1, FAR), 3)
        self.lies(("fraction", 1, FAR), FAR, (1, FAR), 2)

    def test_fractions_beyond_the_size(self):
        self.lies(PI, 112, (333, 106), 3)
        self.lies(PI, 7, (22, 7), 3)
        self.lies(PI, 6, (19, 6), 2)
        self.lies(PI, 1, (3, 1), 2)
        self.lies(("fraction", 1, FAR), FAR - 1, (1, FAR - 1), 2)
        self.lies(("fraction", 1, FAR), 3, (0, 1), 2)

    def test_below_nought(self):
        self.lies(("fraction", -355, 113), 7, (-22, 7), 4)
        self.lies(("fraction", -1, 3), 1, (0, 1), 3)
        self.lies(("fraction", -2, 3), 1, (-1, 1), 2)
        self.lies(("root", 0, 2, -1), 12, (-17, 12), 6)

    def test_just_in_the_middle(self):
        # The numbers below are the same: the lesser one.
        self.lies(("fraction", 1, 2), 1, (0, 1), 2)
        self.lies(("fraction", -1, 2), 1, (-1, 1), 2)
        self.lies(("fraction", FAR - 1, 2), 1, (FAR // 2 - 1, 1), 2)
        # The lesser number below, on either side.
        self.lies(("fraction", 7, 12), 3, (1, 2), 5)
        self.lies(("fraction", 5, 12), 3, (1, 2), 4)
        self.lies(("fraction", 1, 4), 2, (0, 1), 2)
        self.lies(("fraction", 3, 4), 2, (1, 1), 3)
        self.lies(("fraction", -1, 4), 2, (0, 1), 3)
        self.lies(("fraction", -3, 4), 2, (-1, 1), 2)
        self.lies(("fraction", 1, 2 * 10 ** 6), 10 ** 6, (0, 1), 2)

    def test_beside_the_middle(self):
        for low, high, size in (((0, 1), (1, 1), 1), ((-1, 1), (0, 1), 1), ((1, 3), (1, 2), 3), ((1, 2), (2, 3), 4)):
            middle = (Fraction(*low) + Fraction(*high)) / 2
            for far in (100, 10 ** 6, 10 ** 10):
                under, above = middle - Fraction(1, far), middle + Fraction(1, far)
                self.assertEqual(nearest(("fraction", *under.as_integer_ratio()), size, 99), low)
                self.assertEqual(nearest(("fraction", *above.as_integer_ratio()), size, 99), high)

    def test_against_a_walk(self):
        for below in list(range(1, 26)) + [60, 97, 120]:
            for top in range(-2 * below, 2 * below + 1):
                value = Fraction(top, below)
                for size in (1, 2, 3, 4, 7, 12):
                    self.assertEqual(nearest(("fraction", top, below), size, 99), walked(value, size), (value, size))

    def test_many_sizes_against_a_walk(self):
        for top, below in ((355, 113), (-271, 99), (13, 610), (233, 377), (1, 90), (89, 90), (-1, 64)):
            for size in range(1, below + 3):
                told = nearest(("fraction", top, below), size, 99)
                self.assertEqual(told, walked(Fraction(top, below), size), (top, below, size))

    def test_roots_fours_and_eights(self):
        thirty = 10 ** 30
        roots = {
            ROOT2: Fraction(1414213562373095048801688724210, thirty),
            ("root", -1, 5, -2): Fraction(-618033988749894848204586834366, thirty),
            ("four", (2, 0, 0, 1), ROOT2): Fraction(2828427124746190097603377448419, thirty),
            ("four", (0, 1, -1, 0), ROOT3): Fraction(-577350269189625764509148780502, thirty),
            ("eight", TIMES, ROOT2, ROOT3): Fraction(2449489742783178098197284074706, thirty),
            ("eight", SUM, ROOT2, ROOT3): Fraction(3146264369941972342329135065716, thirty),
            EULER: Fraction(2718281828459045235360287471353, thirty),
            ("power", EULER, 2): Fraction(7389056098930650227230427460575, thirty),
        }
        for tree, value in roots.items():
            for size in list(range(1, 60)) + [99, 250, 1000]:
                self.assertEqual(nearest(tree, size, 999), walked(value, size), (tree, size))

    def test_how_far_either_reading_goes(self):
        # 1; 2, 2 come to a number below of 5. The middle of 1 and 3/2 is 1; 4.
        self.lies(ROOT2, 2, (3, 2), 3)
        # The middle of 1 and 2 is 1; 2: the second reading goes on to its end, beyond the first one.
        self.lies(ROOT2, 1, (1, 1), 3)
        # The middle of 4/3 and 3/2 is 1; 2, 2, 2.
        self.lies(ROOT2, 3, (4, 3), 5)
        # The first reading stops where a number below is beyond the size; the middle of 0 and 1/2 is 0; 4.
        self.lies(("ruled", (0, 3), (7,), (0,)), 2, (1, 2), 2)
        self.lies(("ruled", (0, 4), (), ()), 2, (0, 1), 2)
        self.lies(("ruled", (0, 4), (9,), (0,)), 2, (0, 1), 3)
        # A number below that is just the size is not beyond it.
        self.lies(("ruled", (0, 3), (7,), (0,)), 3, (1, 3), 3)
        self.lies(("fraction", 1, 3), 3, (1, 3), 2)

    def test_parts_without_cost(self):
        tree = ("four", (1, 0, 0, 97), ("fraction", 31, 1))
        self.assertEqual(chain_of(Fraction(31, 97)), [0, 3, 7, 1, 3])
        for size in range(1, 99):
            self.lies(tree, size, walked(Fraction(31, 97), size), 1)

    def test_each_reading_has_all_of_most(self):
        # 3; 6 comes to a number below of 6, and the middle is 3; 2: both readings take the same.
        tree = ("eight", SUM, ROOT2, ROOT3)
        reading = reader(tree)
        self.assertEqual([reading.part(99), reading.part(99)], [("part", 3), ("part", 6)])
        self.assertGreater(reading.took(), 6)
        self.lies(tree, 1, (3, 1), reading.took())

    def test_what_is_never_sure(self):
        for most in (0, 1, 50, 300):
            self.assertIsNone(nearest(("power", ROOT2, 2), 5, most))
        # The middle of 0 and 1 without end: half of the root of 2, times itself.
        half = ("power", ("root", 0, 2, 2), 2)
        self.assertIsNone(nearest(half, 1, 300))

    def test_the_answer(self):
        answer = nearest(ROOT2, 5, 50)
        self.assertEqual(answer, (7, 5))
        self.assertIs(type(answer), tuple)

    def test_no_value_ahead_of_none(self):
        broken = ("four", (0, 1, 1, 0), ("fraction", 0, 1))
        self.assertIsNone(nearest(broken, 3, 0))
        with self.assertRaises(NoValue):
            nearest(broken, 3, 1)


if __name__ == "__main__":
    unittest.main()
