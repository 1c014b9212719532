package split_test

import (
	"slices"
	"testing"
)

// lined is a script, and what is told behind the line that ends it. Hand 0 is the one that it speaks of.
type lined struct{ name, script, want string }

// checkLines in each order of the hands: whichever of them is called 0, 1, .., the same comes of it.
func checkLines(t *testing.T, n int, cases []lined) {
	t.Helper()
	for _, c := range cases {
		for _, order := range orders(n) {
			g := after(t, n, renamed(script(c.script), order))
			if got := shownBy(g, order); got != c.want {
				t.Errorf("%s: after %s, hands %v, got %s, want %s", c.name, c.script, order, got, c.want)
			}
		}
	}
}

// orders of n hands, all of them.
func orders(n int) [][]int {
	if n == 0 {
		return [][]int{nil}
	}
	var out [][]int
	for _, less := range orders(n - 1) {
		for i := range n {
			out = append(out, slices.Insert(slices.Clone(less), i, n-1))
		}
	}
	return out
}

// renamed is a script in which hand i is the one that stands at i in an order.
func renamed(script, order []int) []int {
	out := make([]int, len(script))
	for i, p := range script {
		out[i] = order[p]
	}
	return out
}

// TestLinesOf1: a hand that is the only one has its name behind four lines, and keeps it.
func TestLinesOf1(t *testing.T) {
	checkLines(t, 1, []lined{
		{"line 1, X is 0", "0", "2 [-1]"},
		{"line 2, Y is 0", "00", "3 [-1]"},
		{"line 3, Y is 0", "000", "4 [-1]"},
		{"line 4, X is 1", "0x4", "5 [0]"},
		{"line 5", "0x5", "5 [0]"},
		{"line 5 again and again", "0x50", "5 [0]"},
	})
}

// TestLinesOf2: each line of either of two hands, both ways where it asks, and each line at the two places beyond the first one.
func TestLinesOf2(t *testing.T) {
	checkLines(t, 2, []lined{
		{"line 1, X is 0", "0", "2 1 [-1 -1]"},
		{"line 1, X is 2", "10", "2 2 [-1 -1]"},
		{"line 1, X is 2, the other one stands at line 3", "11 0", "2 3 [-1 -1]"},
		{"line 1, X is 2, the other one stands at line 4", "111 0", "2 4 [-1 -1]"},
		{"line 1, X is 2, the other one has its name", "1x4 0", "2 5 [-1 0]"},
		{"line 2, Y is 0", "00", "3 1 [-1 -1]"},
		{"line 2, Y is 0, X is 2, the other one has come before", "100", "3 2 [-1 -1]"},
		{"line 2, Y is 0, X is 2, the other one has come since", "010", "3 2 [-1 -1]"},
		{"line 2, Y is 0, the other one stands at line 3", "11 00", "3 3 [-1 -1]"},
		{"line 2, Y is 0, the other one stands at line 3 by now", "0 11 0", "3 3 [-1 -1]"},
		{"line 2, Y is 1, X is 1, the other one stands at line 4", "111 00", "1 4 [-1 -1]"},
		{"line 2, Y is 1, X is 2, the other one stands at line 4", "0 111 0", "1 4 [-1 -1]"},
		{"line 2, Y is 1, the other one has its name", "1x4 00", "1 5 [-1 0]"},
		{"line 2, Y is 1, X is 2, the other one has its name", "0 1x4 0", "1 5 [-1 0]"},
		{"line 2, Y is 1, the other one has gone a row on", "111 0 1 0", "1 1 [-1 -1]"},
		{"line 3, Y is 0", "000", "4 1 [-1 -1]"},
		{"line 3, Y is 0, the other one stands at line 2", "00 1 0", "4 2 [-1 -1]"},
		{"line 3, Y is 0, the other one stands at line 3", "11 000", "4 3 [-1 -1]"},
		{"line 3, Y is 1, the other one stands at line 4", "11 00 1 0", "4 4 [-1 -1]"},
		{"line 3, Y is 1, X is 2, the other one stands at line 4", "00 111 0", "4 4 [-1 -1]"},
		{"line 3, Y is 1, the other one has gone a row on", "11 00 11 0", "4 1 [-1 -1]"},
		{"line 3, Y is 1, the other one has its name", "00 1x4 0", "4 5 [-1 0]"},
		{"line 4, X is 1, the other one stands at line 1", "0x4", "5 1 [0 -1]"},
		{"line 4, X is 1, the other one stands at line 2", "1 0x4", "5 2 [0 -1]"},
		{"line 4, X is 1, the other one stands at line 3", "11 0x4", "5 3 [0 -1]"},
		{"line 4, X is 1, the other one stands at line 4", "11 000 1 0", "5 4 [0 -1]"},
		{"line 4, X is 1, the other one has gone a column on", "1 000 1 0", "5 1 [0 -1]"},
		{"line 4, X is 1, the other one has gone a column on, and X is 2 there", "1 000 11 0", "5 2 [0 -1]"},
		{"line 4, X is 1, the other one has gone a row on", "11 000 11 0", "5 1 [0 -1]"},
		{"line 4, X is 1, the other one has gone a row on, and X is 2 there", "11 000 111 0", "5 2 [0 -1]"},
		{"line 4, X is 2, the other one stands at line 2", "000 1 0", "1 2 [-1 -1]"},
		{"line 4, X is 2, the other one stands at line 3", "00 11 00", "1 3 [-1 -1]"},
		{"line 4, X is 2, the other one stands at line 4", "00 111 00", "1 4 [-1 -1]"},
		{"line 4, X is 2, the other one has gone a column on", "000 11 0", "1 1 [-1 -1]"},
		{"line 4, X is 2, the other one has its name", "00 1x4 00", "1 5 [-1 0]"},
		{"line 5, the other one stands at line 1", "0x5", "5 1 [0 -1]"},
		{"line 5, X is 2", "0x4 1 0", "5 2 [0 -1]"},
		{"line 5, the other one stands at line 3", "11 0x4 0", "5 3 [0 -1]"},
		{"line 5, the other one stands at line 4", "11 000 1 00", "5 4 [0 -1]"},
		{"line 5, the other one has gone a column on", "0x4 11 0", "5 1 [0 -1]"},
		{"line 5, the other one has its name, a column on", "0x4 1x6 0", "5 5 [0 1]"},
		{"line 5, the other one has its name, a row on", "11 0x4 1x6 0", "5 5 [0 2]"},
		{"line 5 again and again, both hands", "0x4 1x6 0x30 1x30", "5 5 [0 1]"},
		{"a column on, line 1, X is 0", "1x4 00 0", "2 5 [-1 0]"},
		{"a column on, line 2, Y is 0", "1x4 00 00", "3 5 [-1 0]"},
		{"a column on, line 3", "1x4 00 000", "4 5 [-1 0]"},
		{"a column on, line 4, X is 1", "1x4 00 0x4", "5 5 [1 0]"},
		{"a column on, line 5", "1x4 00 0x5", "5 5 [1 0]"},
		{"a column on, line 4, X is 1, the other one waits with its line 4", "111 00 0x4", "5 4 [1 -1]"},
		{"a row on, line 1, X is 0", "00 1x4 00 0", "2 5 [-1 0]"},
		{"a row on, line 2, Y is 0", "00 1x4 00 00", "3 5 [-1 0]"},
		{"a row on, line 3", "00 1x4 00 000", "4 5 [-1 0]"},
		{"a row on, line 4, X is 1", "00 1x4 00 0x4", "5 5 [2 0]"},
		{"a row on, line 5", "00 1x4 00 0x5", "5 5 [2 0]"},
		{"a row on, line 4, X is 1, the other one waits with its line 2", "000 1 0 0x4", "5 2 [2 -1]"},
		{"a row on, line 4, X is 1, the other one, behind it, goes a column on", "000 1 0 0x4 1", "5 1 [2 -1]"},
		{"a row on and a column on, turn by turn", "000 11 0 01010101", "5 5 [2 1]"},
		{"a row on and a column on, one behind the other", "000 11 0 0x4 1x4", "5 5 [2 1]"},
	})
}

// TestLinesOf3: what two hands do at a place that is not the first one, and one at each place beyond; each place has words of its own.
func TestLinesOf3(t *testing.T) {
	checkLines(t, 3, []lined{
		{"line 1, X is 3", "2 1 2 0", "2 2 3 [-1 -1 -1]"},
		{"line 2, Y is 0, X is 3", "0 1 2 0", "3 2 2 [-1 -1 -1]"},
		{"line 2, Y is 1, both others have their names", "1x4 2x6 00", "1 5 5 [-1 0 1]"},
		{"line 4, X is 1, both others have come before", "12 0x4", "5 2 2 [0 -1 -1]"},
		{"line 4, X is 2, one has come since, and one before", "2 000 1 0", "1 2 2 [-1 -1 -1]"},
		{"line 4, X is 3, both others have come since", "000 1 2 0", "1 2 2 [-1 -1 -1]"},
		{"line 4, X is 3, both others have gone a column on", "000 11 22 0", "1 1 1 [-1 -1 -1]"},
		{"line 5, both others have gone a column on", "0x4 11 22 0", "5 1 1 [0 -1 -1]"},
		{"the first column on, line 1, X is 0", "2x4 00 0", "2 1 5 [-1 -1 0]"},
		{"the first column on, line 1, X is 2", "2x4 00 11 1 0", "2 2 5 [-1 -1 0]"},
		{"the first column on, line 2, Y is 0, X is 2", "2x4 00 11 0 1 0", "3 2 5 [-1 -1 0]"},
		{"the first column on, line 2, Y is 1, X is 2", "2x4 00 11 0 111 0", "1 4 5 [-1 -1 0]"},
		{"the first column on, line 2, Y is 1, the other one has its name there", "2x4 00 1x6 00", "1 5 5 [-1 1 0]"},
		{"the first column on, line 3, Y is 0", "2x4 00 11 000", "4 1 5 [-1 -1 0]"},
		{"the first column on, line 3, Y is 1", "2x4 00 11 00 111 0", "4 4 5 [-1 -1 0]"},
		{"the first column on, line 4, X is 1", "2x4 00 11 11 0x4", "5 3 5 [1 -1 0]"},
		{"the first column on, line 4, X is 2", "2x4 00 11 00 11 00", "1 3 5 [-1 -1 0]"},
		{"the first column on, line 4, X is 1, and 3 at the first place", "1x4 00 000 2 0", "5 5 2 [1 0 -1]"},
		{"the first column on, line 4, X is 1, the other one is at line 1 there", "2x4 00 000 11 0", "5 1 5 [1 -1 0]"},
		{"the first column on, line 5, the other one goes a column on", "2x4 00 0x4 11 11 0", "5 1 5 [1 -1 0]"},
		{"the first row on, line 1, X is 0", "00 2x4 00 0", "2 1 5 [-1 -1 0]"},
		{"the first row on, line 1, X is 2", "00 11 2x4 00 11 1 0", "2 2 5 [-1 -1 0]"},
		{"the first row on, line 2, Y is 0, X is 2", "00 11 2x4 00 11 0 1 0", "3 2 5 [-1 -1 0]"},
		{"the first row on, line 2, Y is 1, X is 2", "00 11 2x4 00 11 0 111 0", "1 4 5 [-1 -1 0]"},
		{"the first row on, line 2, Y is 1, the other one has its name there", "00 11 2x4 00 1x6 00", "1 5 5 [-1 2 0]"},
		{"the first row on, line 3, Y is 0", "00 11 2x4 00 11 000", "4 1 5 [-1 -1 0]"},
		{"the first row on, line 3, Y is 1", "00 11 2x4 00 11 00 111 0", "4 4 5 [-1 -1 0]"},
		{"the first row on, line 4, X is 1", "00 11 2x4 00 11 11 0x4", "5 3 5 [2 -1 0]"},
		{"the first row on, line 4, X is 2", "00 11 2x4 00 11 00 11 00", "1 3 5 [-1 -1 0]"},
		{"the first row on, line 4, X is 1, and 3 at the first place", "00 1x4 00 000 2 0", "5 5 2 [2 0 -1]"},
		{"the first row on, line 4, X is 1, the other one is at line 1 there", "00 11 2x4 00 000 11 0", "5 1 5 [2 -1 0]"},
		{"the first row on, line 5, the other one goes a column on", "00 11 2x4 00 0x4 11 11 0", "5 1 5 [2 -1 0]"},
		{"two columns on, line 5", "1x4 2x6 0x8", "5 5 5 [3 0 1]"},
		{"two rows on, line 5", "00 11 2x4 00 11 00 1x4 00 0x4", "5 5 5 [5 2 0]"},
		{"a column on and a row on, line 5", "2x4 00 11 00 1x4 00 0x4", "5 5 5 [4 1 0]"},
		{"a row on and a column on, line 5", "00 11 2x4 00 11 1x4 00 0x4", "5 5 5 [4 2 0]"},
		{"one a column on, one a row on: line 2, Y is 0, and 1 at the other place", "000 11 0 111 00", "3 4 1 [-1 -1 -1]"},
		{"one a column on, one a row on: line 4, X is 1, and 2 at the other place", "000 11 0 000 1 0", "5 2 1 [2 -1 -1]"},
	})
}

// TestLinesOf4: all hands at the first place; the farthest column, and the farthest row; and two hands that meet at a place to which they came by different ways.
func TestLinesOf4(t *testing.T) {
	const apart = "11 33 1 3 00 22 1 3 00 2x4 00 3x4 11"
	checkLines(t, 4, []lined{
		{"line 4, X is 4, all others have come since", "000 1 2 3 0", "1 2 2 2 [-1 -1 -1 -1]"},
		{"line 4, X is 1, all others have come before", "3 2 1 0x4", "5 2 2 2 [0 -1 -1 -1]"},
		{"all columns, one behind the other", "0x4 1x6 2x8 3x10", "5 5 5 5 [0 1 3 6]"},
		{"all rows", "00 11 22 3x4 00 11 22 00 11 2x4 00 11 00 1x4 00 0x4", "5 5 5 5 [9 5 2 0]"},
		{"who came by a column and a row is at line 1, as is who came by a row and a column", apart, "1 1 5 5 [-1 -1 1 2]"},
		{"there, line 1, X is 2", apart + " 1 0", "2 2 5 5 [-1 -1 1 2]"},
		{"there, line 2, Y is 0, X is 2", apart + " 0 1 0", "3 2 5 5 [-1 -1 1 2]"},
		{"there, line 2, Y is 1", apart + " 111 00", "1 4 5 5 [-1 -1 1 2]"},
		{"there, line 3, Y is 1", apart + " 00 111 0", "4 4 5 5 [-1 -1 1 2]"},
		{"there, line 4, X is 1", apart + " 11 0x4", "5 3 5 5 [4 -1 1 2]"},
		{"there, line 4, X is 2", apart + " 000 1 0", "1 2 5 5 [-1 -1 1 2]"},
		{"one stays there, one goes a column on", apart + " 0x4 1x6", "5 5 5 5 [4 7 1 2]"},
		{"one stays there, one goes a row on", apart + " 00 1x4 00 0x4", "5 5 5 5 [8 4 1 2]"},
		{"one goes a row on, one a column on", apart + " 000 11 0 0x4 1x4", "5 5 5 5 [8 7 1 2]"},
	})
}

// TestSteps: ordinary scripts, and what is told behind each step.
func TestSteps(t *testing.T) {
	for _, c := range []struct {
		name   string
		n      int
		script string
		want   []string
	}{
		{"one hand", 1, "0x6", []string{
			"2 [-1]", "3 [-1]", "4 [-1]", "5 [0]", "5 [0]", "5 [0]",
		}},
		{"two hands, turn by turn", 2, "01 01 01 01 01 01 01 01 01", []string{
			"2 1 [-1 -1]", "2 2 [-1 -1]", "3 2 [-1 -1]", "3 3 [-1 -1]", "4 3 [-1 -1]", "4 4 [-1 -1]",
			"1 4 [-1 -1]", "1 5 [-1 0]", "2 5 [-1 0]", "2 5 [-1 0]", "3 5 [-1 0]", "3 5 [-1 0]",
			"4 5 [-1 0]", "4 5 [-1 0]", "5 5 [2 0]", "5 5 [2 0]", "5 5 [2 0]", "5 5 [2 0]",
		}},
		{"two hands, two lines at a time", 2, "0011001100110011", []string{
			"2 1 [-1 -1]", "3 1 [-1 -1]", "3 2 [-1 -1]", "3 3 [-1 -1]",
			"4 3 [-1 -1]", "1 3 [-1 -1]", "1 4 [-1 -1]", "1 5 [-1 0]",
			"2 5 [-1 0]", "3 5 [-1 0]", "3 5 [-1 0]", "3 5 [-1 0]",
			"4 5 [-1 0]", "5 5 [2 0]", "5 5 [2 0]", "5 5 [2 0]",
		}},
		{"three hands, turn by turn", 3, "012 012 012 012 012 012 012 012 012 012 012 012 012", []string{
			"2 1 1 [-1 -1 -1]", "2 2 1 [-1 -1 -1]", "2 2 2 [-1 -1 -1]", "3 2 2 [-1 -1 -1]", "3 3 2 [-1 -1 -1]", "3 3 3 [-1 -1 -1]",
			"4 3 3 [-1 -1 -1]", "4 4 3 [-1 -1 -1]", "4 4 4 [-1 -1 -1]", "1 4 4 [-1 -1 -1]", "1 1 4 [-1 -1 -1]", "1 1 5 [-1 -1 0]",
			"2 1 5 [-1 -1 0]", "2 2 5 [-1 -1 0]", "2 2 5 [-1 -1 0]", "3 2 5 [-1 -1 0]", "3 3 5 [-1 -1 0]", "3 3 5 [-1 -1 0]",
			"4 3 5 [-1 -1 0]", "4 4 5 [-1 -1 0]", "4 4 5 [-1 -1 0]", "1 4 5 [-1 -1 0]", "1 5 5 [-1 2 0]", "1 5 5 [-1 2 0]",
			"2 5 5 [-1 2 0]", "2 5 5 [-1 2 0]", "2 5 5 [-1 2 0]", "3 5 5 [-1 2 0]", "3 5 5 [-1 2 0]", "3 5 5 [-1 2 0]",
			"4 5 5 [-1 2 0]", "4 5 5 [-1 2 0]", "4 5 5 [-1 2 0]", "5 5 5 [5 2 0]", "5 5 5 [5 2 0]", "5 5 5 [5 2 0]",
			"5 5 5 [5 2 0]", "5 5 5 [5 2 0]", "5 5 5 [5 2 0]",
		}},
		{"three hands, two lines at a time", 3, "001122 001122 001122 001122 001122", []string{
			"2 1 1 [-1 -1 -1]", "3 1 1 [-1 -1 -1]", "3 2 1 [-1 -1 -1]", "3 3 1 [-1 -1 -1]", "3 3 2 [-1 -1 -1]", "3 3 3 [-1 -1 -1]",
			"4 3 3 [-1 -1 -1]", "1 3 3 [-1 -1 -1]", "1 4 3 [-1 -1 -1]", "1 1 3 [-1 -1 -1]", "1 1 4 [-1 -1 -1]", "1 1 5 [-1 -1 0]",
			"2 1 5 [-1 -1 0]", "3 1 5 [-1 -1 0]", "3 2 5 [-1 -1 0]", "3 3 5 [-1 -1 0]", "3 3 5 [-1 -1 0]", "3 3 5 [-1 -1 0]",
			"4 3 5 [-1 -1 0]", "1 3 5 [-1 -1 0]", "1 4 5 [-1 -1 0]", "1 5 5 [-1 2 0]", "1 5 5 [-1 2 0]", "1 5 5 [-1 2 0]",
			"2 5 5 [-1 2 0]", "3 5 5 [-1 2 0]", "3 5 5 [-1 2 0]", "3 5 5 [-1 2 0]", "3 5 5 [-1 2 0]", "3 5 5 [-1 2 0]",
		}},
		{"four hands, turn by turn", 4, "0123 0123 0123 0123 0123 0123 0123 0123 0123 0123 0123 0123 0123 0123 0123 0123 0123", []string{
			"2 1 1 1 [-1 -1 -1 -1]", "2 2 1 1 [-1 -1 -1 -1]", "2 2 2 1 [-1 -1 -1 -1]", "2 2 2 2 [-1 -1 -1 -1]",
			"3 2 2 2 [-1 -1 -1 -1]", "3 3 2 2 [-1 -1 -1 -1]", "3 3 3 2 [-1 -1 -1 -1]", "3 3 3 3 [-1 -1 -1 -1]",
			"4 3 3 3 [-1 -1 -1 -1]", "4 4 3 3 [-1 -1 -1 -1]", "4 4 4 3 [-1 -1 -1 -1]", "4 4 4 4 [-1 -1 -1 -1]",
			"1 4 4 4 [-1 -1 -1 -1]", "1 1 4 4 [-1 -1 -1 -1]", "1 1 1 4 [-1 -1 -1 -1]", "1 1 1 5 [-1 -1 -1 0]",
			"2 1 1 5 [-1 -1 -1 0]", "2 2 1 5 [-1 -1 -1 0]", "2 2 2 5 [-1 -1 -1 0]", "2 2 2 5 [-1 -1 -1 0]",
			"3 2 2 5 [-1 -1 -1 0]", "3 3 2 5 [-1 -1 -1 0]", "3 3 3 5 [-1 -1 -1 0]", "3 3 3 5 [-1 -1 -1 0]",
			"4 3 3 5 [-1 -1 -1 0]", "4 4 3 5 [-1 -1 -1 0]", "4 4 4 5 [-1 -1 -1 0]", "4 4 4 5 [-1 -1 -1 0]",
			"1 4 4 5 [-1 -1 -1 0]", "1 1 4 5 [-1 -1 -1 0]", "1 1 5 5 [-1 -1 2 0]", "1 1 5 5 [-1 -1 2 0]",
			"2 1 5 5 [-1 -1 2 0]", "2 2 5 5 [-1 -1 2 0]", "2 2 5 5 [-1 -1 2 0]", "2 2 5 5 [-1 -1 2 0]",
			"3 2 5 5 [-1 -1 2 0]", "3 3 5 5 [-1 -1 2 0]", "3 3 5 5 [-1 -1 2 0]", "3 3 5 5 [-1 -1 2 0]",
			"4 3 5 5 [-1 -1 2 0]", "4 4 5 5 [-1 -1 2 0]", "4 4 5 5 [-1 -1 2 0]", "4 4 5 5 [-1 -1 2 0]",
			"1 4 5 5 [-1 -1 2 0]", "1 5 5 5 [-1 5 2 0]", "1 5 5 5 [-1 5 2 0]", "1 5 5 5 [-1 5 2 0]",
			"2 5 5 5 [-1 5 2 0]", "2 5 5 5 [-1 5 2 0]", "2 5 5 5 [-1 5 2 0]", "2 5 5 5 [-1 5 2 0]",
			"3 5 5 5 [-1 5 2 0]", "3 5 5 5 [-1 5 2 0]", "3 5 5 5 [-1 5 2 0]", "3 5 5 5 [-1 5 2 0]",
			"4 5 5 5 [-1 5 2 0]", "4 5 5 5 [-1 5 2 0]", "4 5 5 5 [-1 5 2 0]", "4 5 5 5 [-1 5 2 0]",
			"5 5 5 5 [9 5 2 0]", "5 5 5 5 [9 5 2 0]", "5 5 5 5 [9 5 2 0]", "5 5 5 5 [9 5 2 0]",
			"5 5 5 5 [9 5 2 0]", "5 5 5 5 [9 5 2 0]", "5 5 5 5 [9 5 2 0]", "5 5 5 5 [9 5 2 0]",
		}},
		{"four hands, three lines at a time", 4, "000111222333 000111222333 000111222333 000111222333 000111222333", []string{
			"2 1 1 1 [-1 -1 -1 -1]", "3 1 1 1 [-1 -1 -1 -1]", "4 1 1 1 [-1 -1 -1 -1]", "4 2 1 1 [-1 -1 -1 -1]", "4 1 1 1 [-1 -1 -1 -1]", "4 2 1 1 [-1 -1 -1 -1]",
			"4 2 2 1 [-1 -1 -1 -1]", "4 2 1 1 [-1 -1 -1 -1]", "4 2 2 1 [-1 -1 -1 -1]", "4 2 2 2 [-1 -1 -1 -1]", "4 2 2 1 [-1 -1 -1 -1]", "4 2 2 2 [-1 -1 -1 -1]",
			"1 2 2 2 [-1 -1 -1 -1]", "2 2 2 2 [-1 -1 -1 -1]", "3 2 2 2 [-1 -1 -1 -1]", "3 3 2 2 [-1 -1 -1 -1]", "3 4 2 2 [-1 -1 -1 -1]", "3 1 2 2 [-1 -1 -1 -1]",
			"3 1 1 2 [-1 -1 -1 -1]", "3 1 2 2 [-1 -1 -1 -1]", "3 1 3 2 [-1 -1 -1 -1]", "3 1 3 1 [-1 -1 -1 -1]", "3 1 3 2 [-1 -1 -1 -1]", "3 1 3 3 [-1 -1 -1 -1]",
			"4 1 3 3 [-1 -1 -1 -1]", "5 1 3 3 [2 -1 -1 -1]", "5 1 3 3 [2 -1 -1 -1]", "5 2 3 3 [2 -1 -1 -1]", "5 3 3 3 [2 -1 -1 -1]", "5 4 3 3 [2 -1 -1 -1]",
			"5 4 4 3 [2 -1 -1 -1]", "5 4 1 3 [2 -1 -1 -1]", "5 4 2 3 [2 -1 -1 -1]", "5 4 2 4 [2 -1 -1 -1]", "5 4 2 5 [2 -1 -1 3]", "5 4 2 5 [2 -1 -1 3]",
			"5 4 2 5 [2 -1 -1 3]", "5 4 2 5 [2 -1 -1 3]", "5 4 2 5 [2 -1 -1 3]", "5 5 2 5 [2 4 -1 3]", "5 5 2 5 [2 4 -1 3]", "5 5 2 5 [2 4 -1 3]",
			"5 5 3 5 [2 4 -1 3]", "5 5 4 5 [2 4 -1 3]", "5 5 5 5 [2 4 7 3]", "5 5 5 5 [2 4 7 3]", "5 5 5 5 [2 4 7 3]", "5 5 5 5 [2 4 7 3]",
			"5 5 5 5 [2 4 7 3]", "5 5 5 5 [2 4 7 3]", "5 5 5 5 [2 4 7 3]", "5 5 5 5 [2 4 7 3]", "5 5 5 5 [2 4 7 3]", "5 5 5 5 [2 4 7 3]",
			"5 5 5 5 [2 4 7 3]", "5 5 5 5 [2 4 7 3]", "5 5 5 5 [2 4 7 3]", "5 5 5 5 [2 4 7 3]", "5 5 5 5 [2 4 7 3]", "5 5 5 5 [2 4 7 3]",
		}},
	} {
		g := fresh(t, c.n)
		steps := script(c.script)
		if len(steps) != len(c.want) {
			t.Fatalf("%s: %d steps, and %d wanted", c.name, len(steps), len(c.want))
		}
		for i, p := range steps {
			if err := g.Step(p); err != nil || shown(g, c.n) != c.want[i] {
				t.Errorf("%s, step %d: got %s %v, want %s", c.name, i, shown(g, c.n), err, c.want[i])
			}
		}
	}
}
