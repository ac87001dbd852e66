"""Whole numbers: roots, and fractions put together of parts."""


def root_below(number):
    """The greatest whole number whose square is no greater than number."""
    if number == 0:
        return 0
    # A first guess that is not below the root, so that the guesses only fall.
    guess = 1 << ((number.bit_length() + 1) // 2)
    while True:
        better = (guess + number // guess) // 2
        if better >= guess:
            return guess
        guess = better


def put_together(parts):
    """The fraction (top, below) that a row of parts comes to."""
    top, below = parts[-1], 1
    for part in parts[-2::-1]:
        top, below = part * top + below, top
    return top, below
