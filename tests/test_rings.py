import unittest

from chainparts.errors import BadTree, PartError, TooLong
from chainparts.readers import first_parts
from chainparts.rings import ring_of
from reference import root_parts

FAR = 10 ** 12
KNOWN = {
    (1, 5, 2): ([], [1]),
    (1, 2, 1): ([], [2]),
    (1, 3, 1): ([], [2, 1]),
    (2, 7, 1): ([], [4, 1, 1, 1]),
    (0, 2, 1): ([1], [2]),
    (0, 7, 1): ([2], [1, 1, 1, 4]),
    (5, 2, 1): ([6], [2]),
    (0, 12, 2): ([1], [1, 2]),
    (0, 2, -1): ([-2, 1, 1], [2]),
    (0, 3, 3): ([0, 1], [1, 2]),
    (0, 2, 3): ([0, 2], [8, 4]),
    (-3, 5, -2): ([0, 2], [1]),
    (-7, 2, 5): ([-2, 1, 7], [1, 1, 6]),
    (0, FAR - 1, 1): ([999999], [1, 1999998]),
    (0, FAR - 1, -1): ([-1000000, 1999999], [1, 1999998]),
    (0, 61, 1): ([7], [1, 4, 3, 1, 2, 2, 1, 3, 4, 1, 14]),
}
FIELD = [(top, square, below) for top in (-9, -2, 0, 1, 6) for square in range(2, 40)
         for below in (-7, -4, -1, 1, 2, 3, 10) if int(square ** 0.5) ** 2 != square]


class Rings(unittest.TestCase):
    def refuses(self, kind, *numbers):
        for refusal in (kind, PartError):
            with self.assertRaises(refusal, msg=repr(numbers)):
                ring_of(*numbers)

    def test_known_rings(self):
        for numbers, (first, ring) in KNOWN.items():
            self.assertEqual(ring_of(*numbers, 99), (first, ring), numbers)

    def test_just_as_many_and_one_less(self):
        for numbers, (first, ring) in KNOWN.items():
            many = len(first) + len(ring)
            for most in (many, many + 1, 10 ** 6, 10 ** 30):
                self.assertEqual(ring_of(*numbers, most), (first, ring), numbers)
            for most in range(many):
                self.refuses(TooLong, *numbers, most)

    def test_against_a_reading(self):
        for numbers in FIELD:
            first, ring = ring_of(*numbers, 400)
            told = first + ring + ring
            self.assertEqual(first_parts(("root", *numbers), len(told), len(told)), (told, "parts"), numbers)

    def test_against_the_slow_parts(self):
        for numbers in FIELD[::3]:
            first, ring = ring_of(*numbers, 400)
            parts, ends = root_parts(*numbers)
            told = first + ring * (1 + len(parts) // len(ring))
            self.assertEqual(told[:len(parts)], parts, numbers)

    def test_as_few_and_as_short_as_can_be(self):
        for numbers in FIELD:
            first, ring = ring_of(*numbers, 400)
            self.assertGreater(len(ring), 0)
            # Else the last of the first parts could stand in the ring.
            self.assertTrue(not first or first[-1] != ring[-1], numbers)
            for less in range(1, len(ring)):
                self.assertNotEqual(ring, ring[less:] + ring[:less], numbers)

    def test_below_does_not_divide(self):
        for numbers in [(1, 2, 3), (-1, 2, 3), (4, 13, -5), (3, 999983, 7), (FAR, 2, 9), (-FAR, 3, -8)]:
            top, square, below = numbers
            self.assertNotEqual((square - top * top) % below, 0)
            first, ring = ring_of(*numbers, 9999)
            told = first + ring + ring
            self.assertEqual(first_parts(("root", *numbers), len(told), len(told)), (told, "parts"), numbers)

    def test_the_same_number_told_otherwise(self):
        for top, square, below in FIELD[::5]:
            told = ring_of(top, square, below, 400)
            self.assertEqual(ring_of(3 * top, 9 * square, 3 * below, 400), told)

    def test_too_long_by_far(self):
        for numbers in [(0, 999999999989, 1), (1, 999999999989, 999999999961), (FAR, FAR - 11, -FAR)]:
            for most in (0, 1, 2000):
                self.refuses(TooLong, *numbers, most)

    def test_a_long_ring(self):
        first, ring = ring_of(0, 999999999989, 1, 10 ** 7)
        self.assertEqual(first, [999999])
        # The ring of the root of a whole number ends so, and reads the same back ahead of that.
        self.assertEqual(ring[-1], 2 * 999999)
        self.assertEqual(ring[:-1], ring[-2::-1])
        self.assertEqual(first_parts(("root", 0, 999999999989, 1), 3000, 3000)[0], (first + ring)[:3000])

    def test_squares_of_whole_numbers(self):
        for square in (0, 1, 4, 9, 10 ** 10, 999999 ** 2, FAR):
            for top, below in ((0, 1), (1, 2), (-5, -3), (FAR, FAR)):
                for most in (0, 1, 99):
                    self.refuses(BadTree, top, square, below, most)
        for square in (2, 3, 5, 8, 10, 999999 ** 2 - 1, 999999 ** 2 + 1, FAR - 1):
            ring_of(0, square, 1, 9999)

    def test_no_roots(self):
        for numbers in [(1, 2, 0), (0, 0, 0), (1, -1, 1), (1, -2, 1), (0, -4, 1), (FAR + 1, 2, 1), (-FAR - 1, 2, 1),
                        (0, FAR + 1, 1), (0, 2, FAR + 1), (0, 2, -FAR - 1)]:
            for most in (0, 99):
                self.refuses(BadTree, *numbers, most)

    def test_just_within_the_limits(self):
        for numbers in [(FAR, 2, 1), (-FAR, 2, 1), (0, 2, FAR), (0, 2, -FAR)]:
            self.refuses(TooLong, *numbers, 0)
        self.assertEqual(ring_of(FAR, 2, 1, 2), ([FAR + 1], [2]))
        self.assertEqual(ring_of(-FAR, 2, 1, 2), ([1 - FAR], [2]))

    def test_the_answer_is_a_tuple_of_two_lists(self):
        answer = ring_of(1, 5, 2, 1)
        self.assertIs(type(answer), tuple)
        self.assertEqual([type(told) for told in answer], [list, list])

    def test_the_lists_are_the_callers_own(self):
        first, ring = ring_of(0, 7, 1, 9)
        first.append(5)
        ring.clear()
        self.assertEqual(ring_of(0, 7, 1, 9), ([2], [1, 1, 1, 4]))
        first, ring = ring_of(1, 5, 2, 9)
        first.append(5)
        self.assertEqual((ring, ring_of(1, 5, 2, 9)), ([1], ([], [1])))


if __name__ == "__main__":
    unittest.main()
