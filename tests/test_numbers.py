import unittest
from fractions import Fraction
from math import gcd, isqrt

from chainparts.numbers import put_together, root_below
from chainparts.readers import first_parts


class RootBelow(unittest.TestCase):
    def test_small_numbers(self):
        self.assertEqual([root_below(n) for n in range(11)], [0, 1, 1, 1, 2, 2, 2, 2, 2, 3, 3])
        for number in range(5000):
            self.assertEqual(root_below(number), isqrt(number), number)

    def test_at_and_beside_squares(self):
        for root in (1, 2, 3, 9, 10, 99999, 2 ** 16, 10 ** 10, 10 ** 10 + 1, 12345678901234567890,
                     2 ** 64 - 1, 2 ** 64, 3 ** 100, 10 ** 200 + 7):
            self.assertEqual(root_below(root * root - 1), root - 1)
            self.assertEqual(root_below(root * root), root)
            self.assertEqual(root_below(root * root + 1), root)
            self.assertEqual(root_below(root * root + 2 * root), root)

    def test_of_many_figures(self):
        self.assertEqual(root_below(20000000000000000000), 4472135954)
        self.assertEqual(root_below(99999999999999999999), 9999999999)
        self.assertEqual(root_below(2 * 10 ** 1000), isqrt(2 * 10 ** 1000))
        for bits in range(200):
            for number in (2 ** bits - 1, 2 ** bits, 2 ** bits + 1):
                self.assertEqual(root_below(number), isqrt(number))


class PutTogether(unittest.TestCase):
    def test_one_part(self):
        for part in (0, 1, 7, -1, -12, 10 ** 30):
            self.assertEqual(put_together([part]), (part, 1))

    def test_several_parts(self):
        self.assertEqual(put_together([3, 7, 16]), (355, 113))
        self.assertEqual(put_together([0, 2]), (1, 2))
        self.assertEqual(put_together([1, 1]), (2, 1))
        self.assertEqual(put_together([1, 1, 1, 1, 1, 1]), (13, 8))
        self.assertEqual(put_together([0, 10 ** 12]), (1, 10 ** 12))

    def test_first_part_below_nought(self):
        self.assertEqual(put_together([-3, 1, 2]), (-7, 3))
        self.assertEqual(put_together([-1, 1, 1]), (-1, 2))
        self.assertEqual(put_together([-1, 2]), (-1, 2))
        self.assertEqual(put_together([-1, 1]), (0, 1))

    def test_in_lowest_terms(self):
        for first in range(-3, 4):
            for second in range(1, 8):
                for third in range(1, 8):
                    top, below = put_together([first, second, third])
                    self.assertGreaterEqual(below, 1)
                    self.assertEqual(gcd(top, below), 1)
                    worth = first + 1 / (second + Fraction(1, third))
                    self.assertEqual((top, below), (worth.numerator, worth.denominator))

    def test_parts_of_a_fraction_put_together_again(self):
        for top in range(-40, 41, 3):
            for below in (-31, -7, -6, -1, 1, 2, 4, 9, 30, 10 ** 12):
                parts, how = first_parts(("fraction", top, below), 100, 100)
                self.assertEqual(how, "end")
                worth = Fraction(top, below)
                self.assertEqual(put_together(parts), (worth.numerator, worth.denominator))

    def test_the_list_stays_as_it_was(self):
        parts = [-2, 5, 1, 3]
        put_together(parts)
        self.assertEqual(parts, [-2, 5, 1, 3])

    def test_a_long_row(self):
        top, below = put_together([1] * 3000)
        self.assertEqual(top * top - top * below - below * below, 1)


if __name__ == "__main__":
    unittest.main()
