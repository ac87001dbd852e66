import unittest
from fractions import Fraction

from chainparts.errors import NoValue
from chainparts.near import nearest
from chainparts.order import compared
from chainparts.readers import first_parts, reader
from reference import chain_of

FAR = 10 ** 12
ROOT2 = ("root", 0, 2, 1)
ROOT3 = ("root", 0, 3, 1)
EULER = ("ruled", (2,), (1, 2, 1), (0, 2, 0))
PI = ("fraction", 355, 113)
SAME = (1, 0, 0, 1)
OVER = (0, 1, 1, 0)
SUM = (0, 1, 1, 0, 0, 0, 0, 1)
TIMES = (1, 0, 0, 0, 0, 0, 0, 1)
QUOTIENT = (0, 1, 0, 0, 0, 0, 1, 0)
NOUGHT = ("fraction", 0, 1)
BROKEN = ("four", OVER, NOUGHT)


class Told(unittest.TestCase):
    def tells(self, tree, rows):
        """Asked with the first number, it tells the second; then it took the third in all."""
        reading = reader(tree)
        for at, (most, told, took) in enumerate(rows):
            answer = ("part", told) if isinstance(told, int) else (told,)
            self.assertEqual((reading.part(most), reading.took()), (answer, took), (tree, at))

    def divides(self, tree, cost):
        """No value, but only once so many parts of leaves are taken; then again and again."""
        reading = reader(tree)
        for took in range(cost):
            self.assertEqual(reading.part(0), ("waits",), tree)
            self.assertEqual(reading.took(), took)
            if took < cost - 1:
                self.assertEqual(reading.part(1), ("waits",), tree)
        for most in (1, 0, 5, 0):
            with self.assertRaises(NoValue, msg=repr(tree)):
                reading.part(most)
            self.assertEqual(reading.took(), cost)
        with self.assertRaises(NoValue):
            first_parts(tree, 1, cost)
        self.assertEqual(first_parts(tree, 1, cost - 1), ([], "waits"))
        self.assertEqual(first_parts(tree, 0, cost), ([], "parts"))
        self.divides_in_order_and_nearness(tree, cost)

    def divides_in_order_and_nearness(self, tree, cost):
        for most in (cost, cost + 9):
            with self.assertRaises(NoValue, msg=repr(tree)):
                compared(tree, PI, most)
            with self.assertRaises(NoValue, msg=repr(tree)):
                compared(tree, tree, most)
            # One part goes to the other number, which is asked ahead of it.
            with self.assertRaises(NoValue, msg=repr(tree)):
                compared(PI, tree, most + 1)
            with self.assertRaises(NoValue, msg=repr(tree)):
                nearest(tree, 5, most)
        self.assertEqual(compared(tree, PI, cost - 1), "waits")
        self.assertEqual(compared(tree, tree, cost - 1), "waits")
        self.assertEqual(compared(PI, tree, cost), "waits")
        self.assertIsNone(nearest(tree, 5, cost - 1))


class Fours(Told):
    def test_first_a_part_is_taken(self):
        self.tells(("four", SAME, ROOT2), [(0, "waits", 0), (1, 1, 1), (0, "waits", 1), (9, 2, 2), (1, 2, 3)])
        # Whatever x is this lies between 0 and 1 - but no part is told ahead of the first one taken.
        self.tells(("four", (1, 0, 1, 1), ("fraction", 3, 1)), [(0, "waits", 0), (1, 0, 1), (0, 1, 1), (0, 3, 1)])

    def test_sure_parts_are_told_ahead_of_taking(self):
        self.tells(("four", (2, 0, 0, 1), ROOT2),
                   [(2, "waits", 2), (1, 2, 3), (0, 1, 3), (0, "waits", 3), (9, 4, 5), (9, 1, 5), (9, 4, 7)])
        self.tells(("four", OVER, PI),
                   [(1, 0, 1), (0, 3, 1), (0, "waits", 1), (1, 7, 2), (0, "waits", 2), (1, 16, 3), (0, "end", 3)])

    def test_a_whole_number_at_an_end_of_what_may_come(self):
        # -x comes to the whole number itself only where the chain has ended.
        self.tells(("four", (-1, 0, 0, 1), ROOT2),
                   [(1, "waits", 1), (1, -2, 2), (0, "waits", 2), (1, 1, 3), (0, 1, 3), (0, 2, 3), (0, "waits", 3)])
        self.tells(("four", (-1, 0, 0, 1), ("fraction", 5, 1)), [(1, -5, 1), (0, "end", 1)])
        # x + 1 comes to the next whole number nowhere.
        self.tells(("four", (1, 1, 0, 1), ROOT2), [(1, 2, 1), (1, 2, 2), (1, 2, 3)])

    def test_where_below_the_line_may_be_nought(self):
        self.tells(("four", OVER, ("fraction", 1, 5)), [(1, "waits", 1), (1, 5, 2), (0, "end", 2)])
        # 1 / (x - 1), of a number between 1 and 2.
        self.tells(("four", (0, 1, 1, -1), ROOT2), [(1, "waits", 1), (1, 2, 2), (1, 2, 3)])
        # 1 / (2 x - 3) goes both ways beyond all bounds between 1 and 2.
        self.tells(("four", (0, 1, 2, -3), ROOT2), [(9, -6, 4), (0, "waits", 4), (2, "waits", 6), (1, 5, 7)])

    def test_behind_an_end_parts_cost_nothing(self):
        self.tells(("four", (2, 0, 0, 1), ("fraction", 3, 2)), [(2, 3, 2), (0, "end", 2), (5, "end", 2)])
        tree = ("four", (1, 0, 0, 97), ("fraction", 31, 1))
        parts = chain_of(Fraction(31, 97))
        self.assertEqual(parts, [0, 3, 7, 1, 3])
        self.tells(tree, [(1, 0, 1)] + [(0, part, 1) for part in parts[1:]] + [(0, "end", 1)] * 3)

    def test_fours_of_fractions(self):
        numbers = [(2, 1, 1, 3), (-1, 4, 2, -5), (0, 7, -3, 1), (5, 0, 0, -7), (FAR, 1, -1, FAR)]
        for a, b, c, d in numbers:
            for top in range(-12, 13):
                for below in (-5, 1, 2, 7):
                    x = Fraction(top, below)
                    tree = ("four", (a, b, c, d), ("fraction", top, below))
                    if c * x + d == 0:
                        with self.assertRaises(NoValue):
                            first_parts(tree, 1, 99)
                    else:
                        parts = chain_of((a * x + b) / (c * x + d))
                        self.assertEqual(first_parts(tree, 99, 99), (parts, "end"))

    def test_fours_of_roots(self):
        for a, b, c, d in [(3, 1, 0, 2), (0, 1, 1, 0), (1, -7, 0, -3), (0, 4, -6, 0)]:
            for square in (2, 3, 7, 61, FAR - 1):
                # a x + b over d, or b over c x, are roots by themselves.
                same = ("root", b, a * a * square, d) if c == 0 else ("root", 0, b * b * square, c * square)
                if max(map(abs, same[1:])) <= FAR:
                    told = first_parts(("four", (a, b, c, d), ("root", 0, square, 1)), 30, 900)
                    self.assertEqual(told, first_parts(same, 30, 30), (a, b, c, d, square))

    def test_no_value(self):
        self.divides(BROKEN, 1)
        self.divides(("four", (1, 0, 1, -2), ("fraction", 2, 1)), 1)
        self.divides(("four", (1, 0, 2, -3), ("fraction", 3, 2)), 2)
        self.divides(("four", (5, 1, 113, -355), PI), 3)
        self.divides(("four", (0, 1, 1, 1), ("root", 0, 1, -1)), 1)
        self.divides(("four", (1, 1, 1, 2), ("ruled", (-2,), (), ())), 1)

    def test_no_value_deeper_in_a_tree(self):
        self.divides(("four", SAME, BROKEN), 1)
        self.divides(("four", (2, 1, 1, 1), ("four", SAME, ("four", (1, 0, 2, -3), ("fraction", 3, 2)))), 2)
        self.divides(("four", SAME, ("power", BROKEN, 3)), 1)

    def test_a_box_divided_by_a_nought_that_is_found_late(self):
        # 2 x - 3 is nought, by a four that has to take both parts to see it.
        self.divides(("four", OVER, ("four", (2, -3, 0, 1), ("fraction", 3, 2))), 2)


class Eights(Told):
    def test_a_part_of_each_and_then_as_few_as_can_be(self):
        self.tells(("eight", SUM, ROOT2, ROOT3), [(0, "waits", 0), (5, "waits", 5), (1, 3, 6)])
        self.tells(("eight", SUM, ROOT2, ROOT3), [(1, "waits", 1), (1, "waits", 2), (9, 3, 6)])
        # x alone, and y alone: the other one is taken of as well.
        self.tells(("eight", (0, 1, 0, 0, 0, 0, 0, 1), ROOT2, ROOT3), [(1, "waits", 1), (1, 1, 2), (1, 2, 3)])
        self.tells(("eight", (0, 0, 1, 0, 0, 0, 0, 1), ROOT2, ROOT3),
                   [(2, 1, 2), (1, "waits", 3), (1, 1, 4), (2, 2, 6)])

    def test_one_tree_ends(self):
        tree = ("eight", SUM, ("fraction", 1, 2), ROOT2)
        rows = [(4, "waits", 4), (1, 1, 5), (0, 1, 5), (1, "waits", 6), (1, 10, 7), (0, 1, 7), (9, 1, 9), (0, 1, 9)]
        self.tells(tree, rows)
        worth = ("root", 1, 8, 2)
        self.assertEqual(first_parts(tree, 40, 999), first_parts(worth, 40, 40))
        self.assertEqual(first_parts(("eight", SUM, ROOT2, ("fraction", 1, 2)), 40, 999), first_parts(worth, 40, 40))

    def test_both_trees_end(self):
        self.tells(("eight", SUM, ("fraction", 1, 2), ("fraction", 1, 3)),
                   [(3, "waits", 3), (1, 0, 4), (0, 1, 4), (0, 5, 4), (0, "end", 4), (3, "end", 4)])
        self.tells(("eight", TIMES, ("fraction", 4, 1), ("fraction", 5, 1)), [(2, 20, 2), (0, "end", 2)])

    def test_eights_of_fractions(self):
        numbers = [SUM, TIMES, QUOTIENT, (1, 2, 3, 4, 4, -3, 2, -1), (0, 0, 0, 1, 1, 1, 1, 1), (-1, 0, 2, 5, 0, 3, 0, 1)]
        fractions = [(0, 1), (1, 2), (-7, 3), (5, 1), (-1, 1), (13, 5), (2, -3)]
        for eight in numbers:
            for one in fractions:
                for other in fractions:
                    self.check_fractions(eight, one, other)

    def check_fractions(self, eight, one, other):
        x, y = Fraction(*one), Fraction(*other)
        terms = (x * y, x, y, 1)
        top = sum(n * t for n, t in zip(eight[:4], terms))
        below = sum(n * t for n, t in zip(eight[4:], terms))
        tree = ("eight", eight, ("fraction", *one), ("fraction", *other))
        if below != 0:
            self.assertEqual(first_parts(tree, 99, 99), (chain_of(top / below), "end"))
        elif top != 0:
            with self.assertRaises(NoValue):
                first_parts(tree, 1, 99)

    def test_eights_of_roots(self):
        same = {("eight", TIMES, ROOT2, ROOT3): ("root", 0, 6, 1),
                ("eight", QUOTIENT, ROOT3, ROOT2): ("root", 0, 6, 2),
                ("eight", SUM, ROOT2, ("root", 1, 2, 1)): ("root", 1, 8, 1),
                ("eight", TIMES, ("root", 0, 2, -1), ("root", 1, 9, 4)): ("root", 0, 2, -1),
                ("eight", (0, 1, -1, 0, 0, 0, 0, 1), ("root", 0, 12, 1), ROOT3): ROOT3}
        for tree, root in same.items():
            self.assertEqual(first_parts(tree, 50, 9999), first_parts(root, 50, 50), tree)

    def test_what_is_never_sure_waits(self):
        self.tells(("eight", TIMES, ROOT2, ROOT2), [(0, "waits", 0), (100, "waits", 100), (1, "waits", 101)])
        self.tells(("eight", (0, 1, -1, 0, 0, 0, 0, 1), EULER, EULER), [(200, "waits", 200), (7, "waits", 207)])

    def test_its_value_hangs_on_the_other_tree_no_more(self):
        # (x y - y - 1) / (y - 1) is 1 where x is 2.
        numbers = (1, 0, -1, -1, 0, 0, 1, -1)
        two = ("fraction", 2, 1)
        self.tells(("eight", numbers, two, ROOT2), [(1, "waits", 1), (1, 1, 2), (0, "end", 2)])
        self.tells(("eight", numbers, two, ("fraction", 1, 1)), [(2, 1, 2), (0, "end", 2)])
        # The other way round: x is wanted first, and then y.
        turned = (1, -1, 0, -1, 0, 1, 0, -1)
        self.tells(("eight", turned, ROOT2, two), [(2, "waits", 2), (1, 1, 3), (0, "end", 3)])
        self.divides(("eight", turned, ("fraction", 1, 1), two), 2)
        # 3 y over 5 y, and 3 over 5, where x is 0.
        self.tells(("eight", (1, 0, 3, 0, 0, 1, 5, 0), NOUGHT, ROOT2), [(2, 0, 2), (0, 1, 2), (0, 1, 2), (0, 2, 2)])
        self.tells(("eight", (1, 0, 0, 3, 0, 1, 0, 5), NOUGHT, ROOT2), [(2, 0, 2), (0, 1, 2), (0, 1, 2), (0, 2, 2)])
        self.tells(("eight", (1, 0, 0, 3, 0, 0, 1, 5), ROOT2, NOUGHT),
                   [(2, 0, 2), (0, 1, 2), (0, "waits", 2), (1, 1, 3), (0, 2, 3), (0, "end", 3)])

    def test_no_value(self):
        self.divides(("eight", QUOTIENT, ROOT2, NOUGHT), 3)
        self.divides(("eight", QUOTIENT, ("fraction", 5, 1), NOUGHT), 2)
        self.divides(("eight", (0, 0, 1, 0, 0, 1, 0, 0), NOUGHT, ROOT2), 2)
        # Nought over nought: (x y - 2 y) / (x - 2) where x is 2.
        self.divides(("eight", (1, 0, -2, 0, 0, 1, 0, -2), ("fraction", 2, 1), ROOT2), 2)
        # x less y below the line.
        self.divides(("eight", (0, 0, 0, 1, 0, 1, -1, 0), ("fraction", 3, 2), ("fraction", 6, 4)), 4)

    def test_no_value_deeper_in_a_tree(self):
        self.divides(("eight", SUM, BROKEN, ROOT2), 1)
        self.divides(("eight", SUM, ROOT2, BROKEN), 2)
        self.divides(("eight", (0, 1, 0, 0, 0, 0, 0, 1), ROOT2, BROKEN), 2)
        self.divides(("power", BROKEN, 2), 1)
        self.divides(("eight", TIMES, ROOT2, ("eight", QUOTIENT, ROOT2, NOUGHT)), 4)
        self.divides(("eight", SUM, NOUGHT, ("four", SAME, ("power", BROKEN, 4))), 2)

    def test_trees_that_nobody_wants_parts_of(self):
        never = ("eight", TIMES, ROOT2, ROOT2)
        self.tells(("eight", SUM, never, BROKEN), [(50, "waits", 50), (50, "waits", 100)])
        self.tells(("eight", SUM, ROOT2, BROKEN), [(0, "waits", 0), (1, "waits", 1), (0, "waits", 1)])
        self.assertEqual(compared(never, BROKEN, 100), "waits")
        self.assertEqual(compared(("eight", SUM, never, BROKEN), BROKEN, 100), "waits")
        self.assertIsNone(nearest(("eight", SUM, never, BROKEN), 5, 100))


class Powers(Told):
    def test_of_one_is_the_tree(self):
        self.tells(("power", ROOT2, 1), [(0, "waits", 0), (9, 1, 1), (9, 2, 2), (0, "waits", 2)])
        self.tells(("power", PI, 1), [(1, 3, 1), (1, 7, 2), (1, 16, 3), (0, "end", 3)])

    def test_of_fractions(self):
        for top in range(-9, 10, 2):
            for below in (1, 2, 5):
                for times in (1, 2, 3, 4):
                    parts = chain_of(Fraction(top, below) ** times)
                    self.assertEqual(first_parts(("power", ("fraction", top, below), times), 99, 99), (parts, "end"))

    def test_of_roots(self):
        golden = ("root", 1, 5, 2)
        roots = {1: golden, 2: ("root", 3, 5, 2), 3: ("root", 2, 5, 1), 4: ("root", 7, 45, 2)}
        for times, root in roots.items():
            self.assertEqual(first_parts(("power", golden, times), 40, 9999), first_parts(root, 40, 40))

    def test_as_eights(self):
        for tree in (EULER, PI, ("root", -3, 7, 2), ("four", (2, 1, 1, 1), EULER)):
            second = ("eight", TIMES, tree, tree)
            third = ("eight", TIMES, tree, second)
            for times, same in ((2, second), (3, third), (4, ("eight", TIMES, tree, third))):
                one, other = reader(("power", tree, times)), reader(same)
                for most in [0, 1, 2, 30] * 8:
                    self.assertEqual((one.part(most), one.took()), (other.part(most), other.took()))

    def test_each_has_a_reading_of_its_own(self):
        self.tells(("power", ("fraction", 3, 1), 2), [(1, "waits", 1), (1, 9, 2), (0, "end", 2)])
        self.tells(("power", ("fraction", 3, 1), 4), [(3, "waits", 3), (1, 81, 4), (0, "end", 4)])


class Trees(Told):
    def test_boxes_of_boxes(self):
        # 1 / (1 / x) is x.
        self.assertEqual(first_parts(("four", OVER, ("four", OVER, EULER)), 30, 99), first_parts(EULER, 30, 30))
        self.tells(("four", OVER, ("four", OVER, ("fraction", 7, 2))), [(1, 3, 1), (1, 2, 2), (0, "end", 2)])
        # (root 2 + root 3) squared, less 5, is the root of 24.
        tree = ("four", (1, -5, 0, 1), ("power", ("eight", SUM, ROOT2, ROOT3), 2))
        self.assertEqual(first_parts(tree, 30, 9999), first_parts(("root", 0, 24, 1), 30, 30))

    def test_five_deep(self):
        tree = ("fraction", 3, 2)
        for k in range(4):
            tree = ("four", (1, 1, 0, 2), tree)
        self.tells(tree, [(0, "waits", 0), (1, 1, 1), (0, "waits", 1), (1, 32, 2), (0, "end", 2)])
        tree = ROOT2
        for k in range(4):
            tree = ("eight", SUM, ("fraction", 1, 1), tree)
        self.assertEqual(first_parts(tree, 20, 999), first_parts(("root", 4, 2, 1), 20, 20))

    def test_going_on_where_it_waited(self):
        trees = [("eight", SUM, ROOT2, ("power", EULER, 2)), ("four", (3, 1, 7, 2), ("eight", QUOTIENT, PI, EULER))]
        for tree in trees:
            whole, told = reader(tree), reader(tree)
            for turn in range(20):
                answer = whole.part(1000)
                before = told.took()
                small = told.part(0)
                while small == ("waits",):
                    small = told.part(1)
                self.assertEqual((small, told.took()), (answer, whole.took()))
                self.assertLessEqual(before, told.took())

    def test_two_readings_of_one_tree(self):
        tree = ("power", ("eight", SUM, ROOT2, EULER), 2)
        one, other = reader(tree), reader(tree)
        ahead = [(one.part(100), one.took()) for turn in range(10)]
        self.assertEqual(other.took(), 0)
        self.assertEqual([(other.part(100), other.took()) for turn in range(10)], ahead)


if __name__ == "__main__":
    unittest.main()
