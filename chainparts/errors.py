"""The refusals of the package."""


class PartError(ValueError):
    """Any refusal."""


class BadTree(PartError):
    """A tuple that tells no tree."""


class NoValue(PartError):
    """Something is divided by nought."""


class TooLong(PartError):
    """More parts than are allowed."""
