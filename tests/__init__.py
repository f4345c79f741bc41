"""The tests of Sureplay."""
