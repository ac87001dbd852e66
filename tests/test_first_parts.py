import unittest

from chainparts.readers import first_parts

ROOT2 = ("root", 0, 2, 1)
PI = ("fraction", 355, 113)
TWICE = ("four", (2, 0, 0, 1), ROOT2)
OVER = ("four", (0, 1, 1, 0), PI)


class FirstParts(unittest.TestCase):
    def test_none_wanted(self):
        for tree in (ROOT2, PI, TWICE, ("four", (0, 1, 1, 0), ("fraction", 0, 1))):
            for most in (0, 1, 50):
                self.assertEqual(first_parts(tree, 0, most), ([], "parts"))

    def test_none_allowed(self):
        for tree in (ROOT2, PI, TWICE):
            self.assertEqual(first_parts(tree, 1, 0), ([], "waits"))

    def test_many_are_told(self):
        self.assertEqual(first_parts(ROOT2, 4, 4), ([1, 2, 2, 2], "parts"))
        self.assertEqual(first_parts(ROOT2, 4, 99), ([1, 2, 2, 2], "parts"))
        self.assertEqual(first_parts(PI, 2, 99), ([3, 7], "parts"))
        self.assertEqual(first_parts(PI, 3, 3), ([3, 7, 16], "parts"))

    def test_the_chain_ends(self):
        self.assertEqual(first_parts(PI, 4, 99), ([3, 7, 16], "end"))
        self.assertEqual(first_parts(PI, 4, 3), ([3, 7, 16], "end"))
        self.assertEqual(first_parts(("ruled", (-4,), (), ()), 2, 1), ([-4], "end"))

    def test_most_holds_for_all_together(self):
        self.assertEqual(first_parts(ROOT2, 4, 3), ([1, 2, 2], "waits"))
        self.assertEqual(first_parts(PI, 4, 2), ([3, 7], "waits"))
        self.assertEqual(first_parts(TWICE, 9, 2), ([], "waits"))
        self.assertEqual(first_parts(TWICE, 9, 3), ([2, 1], "waits"))
        self.assertEqual(first_parts(TWICE, 9, 4), ([2, 1], "waits"))
        self.assertEqual(first_parts(TWICE, 9, 5), ([2, 1, 4, 1], "waits"))
        self.assertEqual(first_parts(TWICE, 2, 3), ([2, 1], "parts"))

    def test_parts_without_cost_come_when_nothing_is_left(self):
        self.assertEqual(first_parts(OVER, 9, 1), ([0, 3], "waits"))
        self.assertEqual(first_parts(OVER, 9, 3), ([0, 3, 7, 16], "end"))
        tree = ("four", (1, 0, 0, 97), ("fraction", 31, 1))
        self.assertEqual(first_parts(tree, 9, 1), ([0, 3, 7, 1, 3], "end"))
        self.assertEqual(first_parts(tree, 4, 1), ([0, 3, 7, 1], "parts"))

    def test_the_answer_is_a_tuple_of_a_list_and_a_text(self):
        answer = first_parts(PI, 4, 4)
        self.assertIs(type(answer), tuple)
        self.assertIs(type(answer[0]), list)

    def test_the_list_is_the_callers_own(self):
        tree = ("ruled", (1, 2, 3), (4,), (1,))
        parts = first_parts(tree, 5, 5)[0]
        parts.clear()
        parts.append(77)
        self.assertEqual(first_parts(tree, 5, 5), ([1, 2, 3, 4, 5], "parts"))
        self.assertEqual(tree, ("ruled", (1, 2, 3), (4,), (1,)))


if __name__ == "__main__":
    unittest.main()
