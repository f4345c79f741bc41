"""Sureplay: exact values of two-player games with chance moves and hidden information."""
