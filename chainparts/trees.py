"""Which tuples tell a tree. All others are refused."""

from chainparts.errors import BadTree

MOST_NUMBER = 1000000000000
MOST_DEPTH = 5
MOST_PARTS = 12
MOST_POWER = 4


def check_tree(tree):
    """Refuses what is no tree, wherever in it the fault stands."""
    check_at_depth(tree, 1)


def check_at_depth(tree, depth):
    # Asked first, so that a tree of any depth is refused without going down it.
    require(depth <= MOST_DEPTH, "a tree is too deep")
    require(isinstance(tree, tuple) and len(tree) > 0, "a tree is a tuple")
    word = tree[0]
    require(isinstance(word, str) and word in LENGTHS, "no such word")
    require(len(tree) == LENGTHS[word], "too few things, or too many")
    check = CHECKS[word]
    check(tree, depth)


def require(holds, why):
    if not holds:
        raise BadTree(why)


def check_row(row, fewest, most):
    require(isinstance(row, tuple), "a row of numbers is a tuple")
    require(fewest <= len(row) <= most, "too few numbers in a row, or too many")
    for number in row:
        require(is_whole(number), "not a whole number")
        require(-MOST_NUMBER <= number <= MOST_NUMBER, "a number is too far from nought")


def is_whole(number):
    return isinstance(number, int) and not isinstance(number, bool)


def check_fraction(tree, depth):
    check_row(tree[1:], 2, 2)
    require(tree[2] != 0, "below is nought")


def check_root(tree, depth):
    check_row(tree[1:], 3, 3)
    require(tree[2] >= 0, "a square is below nought")
    require(tree[3] != 0, "below is nought")


def check_ruled(tree, depth):
    parts, ring, steps = tree[1:]
    check_row(parts, 1, MOST_PARTS)
    check_row(ring, 0, MOST_PARTS)
    check_row(steps, len(ring), len(ring))
    require(all([part >= 1 for part in parts[1:] + ring]), "a part is below 1")
    require(all([step >= 0 for step in steps]), "a step is below nought")
    ends = len(ring) == 0
    require(not ends or len(parts) == 1 or parts[-1] >= 2, "a last part is below 2")


def check_four(tree, depth):
    check_row(tree[1], 4, 4)
    check_line(tree[1])
    check_at_depth(tree[2], depth + 1)


def check_eight(tree, depth):
    check_row(tree[1], 8, 8)
    check_line(tree[1])
    check_at_depth(tree[2], depth + 1)
    check_at_depth(tree[3], depth + 1)


def check_line(numbers):
    half = len(numbers) // 2
    above, below = numbers[:half], numbers[half:]
    crossed = [above[i] * below[k] != above[k] * below[i] for i in range(half) for k in range(i)]
    require(any(crossed), "the numbers above and below the line are told by one another")


def check_power(tree, depth):
    check_row(tree[2:], 1, 1)
    require(1 <= tree[2] <= MOST_POWER, "a power is not from 1 to 4")
    check_at_depth(tree[1], depth + 1)


LENGTHS = {"fraction": 3, "root": 4, "ruled": 4, "four": 3, "eight": 4, "power": 3}

CHECKS = {
    "fraction": check_fraction,
    "root": check_root,
    "ruled": check_ruled,
    "four": check_four,
    "eight": check_eight,
    "power": check_power,
}
