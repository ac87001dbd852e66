"""Chainparts: numbers as chains of whole parts."""
