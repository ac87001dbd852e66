import unittest
from fractions import Fraction

from chainparts.readers import first_parts, reader
from reference import chain_of, root_parts, ruled_parts

FAR = 10 ** 12
EULER = ("ruled", (2,), (1, 2, 1), (0, 2, 0))


class Leaves(unittest.TestCase):
    def ends(self, tree, parts):
        """The leaf has these parts, each at a cost of one, and then ends again and again."""
        self.goes(tree, parts)
        reading = reader(tree)
        for part in parts:
            reading.part(1)
        for most in (0, 0, 1, 5, 0):
            self.assertEqual(reading.part(most), ("end",), tree)
            self.assertEqual(reading.took(), len(parts))

    def goes(self, tree, parts):
        reading = reader(tree)
        self.assertEqual(reading.took(), 0)
        for at, part in enumerate(parts):
            self.assertEqual(reading.part(0), ("waits",), tree)
            self.assertEqual(reading.part(0), ("waits",), tree)
            self.assertEqual(reading.took(), at)
            self.assertEqual(reading.part(1 + at), ("part", part), tree)
            self.assertEqual(reading.took(), at + 1)

    def test_fractions(self):
        self.ends(("fraction", 355, 113), [3, 7, 16])
        self.ends(("fraction", 710, 226), [3, 7, 16])
        self.ends(("fraction", -7, 3), [-3, 1, 2])
        self.ends(("fraction", 7, -3), [-3, 1, 2])
        self.ends(("fraction", -7, -3), [2, 3])
        self.ends(("fraction", 0, -5), [0])
        self.ends(("fraction", 3, 2), [1, 2])
        self.ends(("fraction", -4, 2), [-2])
        self.ends(("fraction", 1, FAR), [0, FAR])
        self.ends(("fraction", -1, FAR), [-1, 1, FAR - 1])
        self.ends(("fraction", FAR, FAR - 1), [1, FAR - 1])
        self.ends(("fraction", FAR, -1), [-FAR])

    def test_all_fractions_of_a_field(self):
        for top in range(-30, 31):
            for below in range(-12, 13):
                if below != 0:
                    parts = chain_of(Fraction(top, below))
                    self.assertEqual(first_parts(("fraction", top, below), 99, 99), (parts, "end"))
                    self.assertTrue(all(part >= 1 for part in parts[1:]))
                    self.assertTrue(len(parts) == 1 or parts[-1] >= 2)

    def test_roots(self):
        self.goes(("root", 0, 2, 1), [1, 2, 2, 2, 2, 2])
        self.goes(("root", 1, 5, 2), [1, 1, 1, 1, 1, 1])
        self.goes(("root", 0, 2, -1), [-2, 1, 1, 2, 2, 2])
        self.goes(("root", 0, 7, 1), [2, 1, 1, 1, 4, 1, 1, 1, 4])
        self.goes(("root", 0, FAR - 1, 1), [999999, 1, 1999998, 1, 1999998])
        self.goes(("root", 0, FAR - 1, -1), [-1000000, 1999999, 1, 1999998])
        self.goes(("root", -1, 2, 1), [0, 2, 2, 2])

    def test_roots_of_a_field(self):
        numbers = [(t, s, b) for t in (-9, -2, 0, 1, 5, FAR) for s in range(30) for b in (-FAR, -7, -3, -1, 1, 2, 6)]
        numbers += [(-FAR, FAR - 1, FAR), (1, FAR - 1, -FAR + 1), (FAR - 1, 999999999989, -999999999961)]
        for top, square, below in numbers:
            parts, ends = root_parts(top, square, below)
            told, how = first_parts(("root", top, square, below), 60, 60)
            self.assertEqual(told, parts[:60])
            self.assertEqual(how, "end" if ends else "parts")

    def test_roots_of_squares_end(self):
        self.ends(("root", 0, 9, 1), [3])
        self.ends(("root", 0, 0, 1), [0])
        self.ends(("root", 0, 1, 3), [0, 3])
        self.ends(("root", 1, 4, 2), [1, 2])
        self.ends(("root", -3, 9, 5), [0])
        self.ends(("root", 5, 0, -2), [-3, 2])
        self.ends(("root", 1, FAR, 1), [1000001])

    def test_ruled_chains_that_end(self):
        self.ends(("ruled", (5,), (), ()), [5])
        self.ends(("ruled", (-5,), (), ()), [-5])
        self.ends(("ruled", (1,), (), ()), [1])
        self.ends(("ruled", (0, 1, 1, 2), (), ()), [0, 1, 1, 2])
        self.ends(("ruled", tuple(range(-1, 0)) + (3,) * 11, (), ()), [-1] + [3] * 11)

    def test_ruled_chains_with_a_ring(self):
        self.goes(EULER, [2, 1, 2, 1, 1, 4, 1, 1, 6, 1, 1, 8, 1])
        self.goes(("ruled", (1,), (2,), (0,)), [1, 2, 2, 2, 2])
        self.goes(("ruled", (-3, 1, 4), (1, 2), (5, 0)), [-3, 1, 4, 1, 2, 6, 2, 11, 2, 16, 2])
        self.goes(("ruled", (0,), (FAR,), (FAR,)), [0, FAR, 2 * FAR, 3 * FAR, 4 * FAR])
        self.goes(("ruled", (0,) + (1,) * 11, (7,) * 12, tuple(range(12))),
                  ruled_parts((0,) + (1,) * 11, (7,) * 12, tuple(range(12)))[0][:80])

    def test_a_leaf_takes_no_more_than_its_part(self):
        reading = reader(EULER)
        self.assertEqual(reading.part(1000), ("part", 2))
        self.assertEqual(reading.took(), 1)

    def test_two_readings_beside_one_another(self):
        for tree in (EULER, ("fraction", 355, 113), ("root", 1, 7, 3)):
            one, other = reader(tree), reader(tree)
            first = [one.part(1), one.part(1)]
            self.assertEqual(other.took(), 0)
            self.assertEqual([other.part(1), other.part(1)], first)
            self.assertEqual(one.part(1), other.part(1))


if __name__ == "__main__":
    unittest.main()
