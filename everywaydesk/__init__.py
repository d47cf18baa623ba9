"""A line in each direction."""
