package bakery_test

import (
	"fmt"
	"math"
	"slices"
	"strconv"
	"strings"
	"testing"

	"latchgarth/api"
	"latchgarth/bakery"
	"latchgarth/plain"
)

// noHands are numbers that are no hands of a lock for n.
func noHands(n int) []int {
	return []int{
		-1, n, n + 1, 4, 5, 7, 8, -2, -n, -n - 1, 256, 257, 1 << 32, 1<<32 + 1,
		math.MinInt, math.MinInt + 1, math.MaxInt - 1, math.MaxInt,
	}
}

// fresh is a new lock for n hands, of which there may be so many.
func fresh(t *testing.T, n int) *bakery.Lock {
	t.Helper()
	l, err := bakery.New(n)
	if err != nil {
		t.Fatalf("new lock for %d: got %v", n, err)
	}
	return l
}

// shown is all that a lock for n hands tells: where they stand, and its words.
func shown(l *bakery.Lock, n int) string {
	out := ""
	for p := range n {
		out += fmt.Sprint(l.At(p), " ")
	}
	return out + fmt.Sprint(l.Words())
}

// step of a hand that is one.
func step(t *testing.T, l *bakery.Lock, p int) {
	t.Helper()
	if err := l.Step(p); err != nil {
		t.Fatalf("step of hand %d, words %v: got %v", p, l.Words(), err)
	}
}

// script of hands, a digit each, or 0x7: hand 0 seven times; spaces are for the eye.
func script(text string) []int {
	var out []int
	for _, part := range strings.Fields(text) {
		hand, times, many := strings.Cut(part, "x")
		if many {
			count, err := strconv.Atoi(times)
			if err != nil {
				panic(err)
			}
			hand = strings.Repeat(hand, count)
		}
		for _, c := range hand {
			out = append(out, int(c-'0'))
		}
	}
	return out
}

// after is a new lock for n hands after a script of them.
func after(t *testing.T, n int, script []int) *bakery.Lock {
	t.Helper()
	l := fresh(t, n)
	for _, p := range script {
		step(t, l, p)
	}
	return l
}

// TestNew: for each number of hands that may be, all stand at line 1, and all words, two for each hand, are 0.
func TestNew(t *testing.T) {
	for i, want := range []string{"1 [0 0]", "1 1 [0 0 0 0]", "1 1 1 [0 0 0 0 0 0]", "1 1 1 1 [0 0 0 0 0 0 0 0]"} {
		n := i + 1
		l, err := bakery.New(n)
		if err != nil || l == nil {
			t.Fatalf("for %d hands: got %v %v", n, l, err)
		}
		if got := shown(l, n); got != want {
			t.Errorf("for %d hands: got %s, want %s", n, got, want)
		}
	}
}

// TestNewNone: for any other number there is no lock, and ErrRange is told.
func TestNewNone(t *testing.T) {
	for _, n := range []int{
		0, -1, -2, -4, 5, 6, 8, 255, 256, 257, 1 << 32, 1<<32 + 1, -1 << 32, 1 - 1<<32,
		math.MinInt, math.MinInt + 1, math.MaxInt - 1, math.MaxInt,
	} {
		if l, err := bakery.New(n); plain.Told(err) != api.ErrRange || l != nil {
			t.Errorf("for %d hands: got %v %v", n, l, err)
		}
	}
}

// lined is a script, and what is told behind the line that ends it.
type lined struct{ name, script, want string }

func checkLines(t *testing.T, n int, cases []lined) {
	t.Helper()
	for _, c := range cases {
		if got := shown(after(t, n, script(c.script)), n); got != c.want {
			t.Errorf("%s: after %s got %s, want %s", c.name, c.script, got, c.want)
		}
	}
}

// TestLinesOf1: a hand that is the only one looks at itself.
func TestLinesOf1(t *testing.T) {
	checkLines(t, 1, []lined{
		{"line 1", "0", "2 [1 0]"},
		{"line 2, it has looked at all", "00", "3 [1 0]"},
		{"line 3", "000", "4 [1 1]"},
		{"line 4", "0000", "5 [0 1]"},
		{"line 5, C0 is 0", "0x5", "6 [0 1]"},
		{"line 6, it has looked at all", "0x6", "7 [0 1]"},
		{"line 7", "0x7", "8 [0 1]"},
		{"line 8", "0x8", "1 [0 0]"},
		{"line 1 once more", "0x9", "2 [1 0]"},
		{"line 2 once more, k was 0", "0x10", "3 [1 0]"},
		{"line 3 once more, m was 0", "0x11", "4 [1 1]"},
		{"in once more", "0x14", "7 [0 1]"},
	})
}

// TestLinesOf2: each line of either of two hands, both ways where it asks.
func TestLinesOf2(t *testing.T) {
	checkLines(t, 2, []lined{
		{"hand 0, line 1", "0", "2 1 [1 0 0 0]"},
		{"hand 0, line 1, other words stay", "1 0", "2 2 [1 1 0 0]"},
		{"hand 0, line 2, one is left", "00", "2 1 [1 0 0 0]"},
		{"hand 0, line 2, all are looked at", "000", "3 1 [1 0 0 0]"},
		{"hand 0, line 2, N1 is 1", "1x5 000", "3 5 [1 0 0 1]"},
		{"hand 0, line 3, m is 0", "0x4", "4 1 [1 0 1 0]"},
		{"hand 0, line 3, m is 0, since N1 came behind its look", "000 1x5 0", "4 5 [1 0 1 1]"},
		{"hand 0, line 3, m is N1, which is more than N0", "1x5 0x4", "4 5 [1 0 2 1]"},
		{"hand 0, line 4", "0x5", "5 1 [0 0 1 0]"},
		{"hand 0, line 4, other words stay", "1 0x5", "5 2 [0 1 1 0]"},
		{"hand 0, line 5, k is 0, C0 is 0", "0x6", "6 1 [0 0 1 0]"},
		{"hand 0, line 5, k is 0, C1 is 1", "1 0x6", "6 2 [0 1 1 0]"},
		{"hand 0, line 5, k is 1, C1 is 0", "0x8", "6 1 [0 0 1 0]"},
		{"hand 0, line 5, k is 1, C1 is 1", "1 0x8", "5 2 [0 1 1 0]"},
		{"hand 0, line 5, k is 1, C1 is still 1", "1 0x9", "5 2 [0 1 1 0]"},
		{"hand 0, line 5, k is 1, C1 is 0 again", "1 0x8 1111 0", "6 5 [0 0 1 2]"},
		{"hand 0, line 6, the same, and k is p", "0x7", "5 1 [0 0 1 0]"},
		{"hand 0, line 6, N1 is 0: all are looked at", "0x9", "7 1 [0 0 1 0]"},
		{"hand 0, line 6, N1 is 0, C1 is 1", "0x8 1 0", "7 2 [0 1 1 0]"},
		{"hand 0, line 6, N1 is above N0", "0x8 1x5 0", "7 5 [0 0 1 2]"},
		{"hand 0, line 6, N1 is the same, and k is above p", "0 1 00 11 0 1 0 1 000 0", "7 5 [0 0 1 1]"},
		{"hand 0, line 6, N1 is below N0", "1x5 0x8 0", "6 5 [0 0 2 1]"},
		{"hand 0, line 6, N1 is still below N0", "1x5 0x8 00", "6 5 [0 0 2 1]"},
		{"hand 0, line 6, N1 is 0 again", "1x5 0x8 0 1x6 0", "7 1 [0 0 2 0]"},
		{"hand 0, line 6, N1 is above N0 by now", "1x5 0x8 0 1x6 1x5 0", "7 5 [0 0 2 3]"},
		{"hand 0, line 7", "0x10", "8 1 [0 0 1 0]"},
		{"hand 0, line 7, the other one waits", "0x5 1x7 0x5", "8 6 [0 0 1 2]"},
		{"hand 0, line 8", "0x11", "1 1 [0 0 0 0]"},
		{"hand 0, line 8, other words stay", "0x5 1x5 0x6", "1 5 [0 0 0 2]"},
		{"hand 0, line 8, C1 stays", "0x8 1 000", "1 2 [0 1 0 0]"},
		{"hand 0, line 1 once more", "0x12", "2 1 [1 0 0 0]"},

		{"hand 1, line 1", "1", "1 2 [0 1 0 0]"},
		{"hand 1, line 1, other words stay", "0x5 1", "5 2 [0 1 1 0]"},
		{"hand 1, line 2, one is left", "11", "1 2 [0 1 0 0]"},
		{"hand 1, line 2, all are looked at", "111", "1 3 [0 1 0 0]"},
		{"hand 1, line 3, m is 0", "1x4", "1 4 [0 1 0 1]"},
		{"hand 1, line 3, m is N0, which N1 is not more than", "0x5 1x4", "5 4 [0 1 1 2]"},
		{"hand 1, line 3, m is what N0 was", "0x8 11 000 11", "1 4 [0 1 0 2]"},
		{"hand 1, line 4", "1x5", "1 5 [0 0 0 1]"},
		{"hand 1, line 4, C0 stays", "0 1x5", "2 5 [1 0 0 1]"},
		{"hand 1, line 5, k is 0, C0 is 0", "1x6", "1 6 [0 0 0 1]"},
		{"hand 1, line 5, k is 0, C0 is 1", "0 1x6", "2 5 [1 0 0 1]"},
		{"hand 1, line 5, k is 0, C0 is 0 again", "0 1x6 0x4 1", "5 6 [0 0 2 1]"},
		{"hand 1, line 5, k is 1, C0 is 1", "1x7 0 1", "2 6 [1 0 0 1]"},
		{"hand 1, line 6, N0 is 0", "1x7", "1 5 [0 0 0 1]"},
		{"hand 1, line 6, N0 is above N1", "1x5 0x5 11", "5 5 [0 0 2 1]"},
		{"hand 1, line 6, N0 is the same, and k is below p", "0 1 00 11 0 1 0 1 11", "5 6 [0 0 1 1]"},
		{"hand 1, line 6, N0 is below N1", "0x5 1x5 11", "5 6 [0 0 1 2]"},
		{"hand 1, line 6, N0 is 0 again", "0x5 1x5 11 0x6 1", "1 5 [0 0 0 2]"},
		{"hand 1, line 6, the same, and k is p: all are looked at", "1x9", "1 7 [0 0 0 1]"},
		{"hand 1, line 7", "1x10", "1 8 [0 0 0 1]"},
		{"hand 1, line 8", "1x11", "1 1 [0 0 0 0]"},
		{"hand 1, line 8, other words stay", "1x5 0x5 1x6", "5 1 [0 0 2 0]"},
		{"hand 1, line 1 once more", "1x12", "1 2 [0 1 0 0]"},
	})
}

// TestOwnAgain: a hand's k and m are 0 when it is at line 1 again: it looks at all once more, and numbers that it saw before are forgotten.
func TestOwnAgain(t *testing.T) {
	checkLines(t, 2, []lined{
		{"hand 0, k was 0: one is left", "0x11 00", "2 1 [1 0 0 0]"},
		{"hand 0, k was 0: all are looked at", "0x11 000", "3 1 [1 0 0 0]"},
		{"hand 0, k was 0 at line 2: it sees N1, the last one", "0x11 1x5 0x4", "4 5 [1 0 2 1]"},
		{"hand 0, m was 0, and not 1", "1x5 0x5 1x6 0x6 0x4", "4 1 [1 0 1 0]"},
		{"hand 1, m was 0, and not 1", "0x5 1x5 0x6 1x6 1x4", "1 4 [0 1 0 1]"},
		{"hand 1, m was 0, and not 1: it is 1 anew", "0x5 1x5 0x6 1x6 0x5 1x4", "5 4 [0 1 1 2]"},
		{"hand 1, its third time", "0x5 1x5 0x6 1x6 1x11 1x4", "1 4 [0 1 0 1]"},
		{"hand 1, all of its second time", "1x22", "1 1 [0 0 0 0]"},
	})
	for n := 1; n <= api.MaxHands; n++ {
		for p := range n {
			round := slices.Repeat([]int{p}, 3*n+5)
			l, again := fresh(t, n), after(t, n, round)
			for i := range round {
				if got, want := shown(again, n), shown(l, n); got != want {
					t.Errorf("of %d, hand %d, step %d of its second time: got %s, want %s", n, p, i, got, want)
				}
				step(t, l, p)
				step(t, again, p)
			}
		}
	}
}

// TestLinesOf3: what lines 2, 5 and 6 ask where there are two others.
func TestLinesOf3(t *testing.T) {
	checkLines(t, 3, []lined{
		{"line 2, two are looked at", "1x3", "1 2 1 [0 1 0 0 0 0]"},
		{"line 2, all are looked at", "1x4", "1 3 1 [0 1 0 0 0 0]"},
		{"line 3, m is 0", "1x5", "1 4 1 [0 1 0 0 1 0]"},
		{"line 3, the first one is the greatest", "2x6 0x6 1x5", "5 4 5 [0 1 0 2 3 1]"},
		{"line 3, the last one is the greatest", "0x6 2x6 1x5", "5 4 5 [0 1 0 1 3 2]"},
		{"line 3, the one in the middle is the greatest", "0x6 1x6 2x5", "5 5 4 [0 0 1 1 2 3]"},
		{"line 3, two have the same", "0x4 1x4 00 11 2x5", "5 5 4 [0 0 1 1 1 2]"},
		{"line 4", "1x6", "1 5 1 [0 0 0 0 1 0]"},
		{"line 5, k is 0, C0 is 1", "0 1x6 1", "2 5 1 [1 0 0 0 1 0]"},
		{"line 5, k is 0, C2 is 1", "2 1x6 1", "1 6 2 [0 0 1 0 1 0]"},
		{"line 6, N0 is 0", "1x8", "1 5 1 [0 0 0 0 1 0]"},
		{"line 6, the same, and k is p", "1x10", "1 5 1 [0 0 0 0 1 0]"},
		{"line 5, k is 2, C2 is 0", "1x11", "1 6 1 [0 0 0 0 1 0]"},
		{"line 5, k is 2, C2 is 1", "2 1x11", "1 5 2 [0 0 1 0 1 0]"},
		{"line 6, N2 is 0: all are looked at", "1x12", "1 7 1 [0 0 0 0 1 0]"},
		{"line 6, N2 is above N1", "1x11 2x6 1", "1 7 5 [0 0 0 0 1 2]"},
		{"line 6, N2 is the same, and k is above p", "1x4 2x4 11 22 1x6", "1 7 5 [0 0 0 0 1 1]"},
		{"line 6, N2 is below N1", "2x6 1x11 1", "1 6 5 [0 0 0 0 2 1]"},
		{"line 6, N0 is above N1", "1x6 0x6 11", "5 5 1 [0 0 0 2 1 0]"},
		{"line 6, N0 is the same, and k is below p", "0x4 1x4 00 11 11", "5 6 1 [0 0 0 1 1 0]"},
		{"line 6, N0 is below N1", "0x6 1x6 11", "5 6 1 [0 0 0 1 2 0]"},
		{"line 6, two are below", "0x6 1x6 2x6 22", "5 5 6 [0 0 0 1 2 3]"},
		{"line 6, one is below still", "0x6 1x6 2x6 22 0x8 2 22", "1 5 6 [0 0 0 0 2 3]"},
		{"line 6, none is below any more", "0x6 1x6 2x6 22 0x8 2 22 1x8 2", "1 1 5 [0 0 0 0 0 3]"},
		{"line 7", "1x13", "1 8 1 [0 0 0 0 1 0]"},
		{"line 8", "1x14", "1 1 1 [0 0 0 0 0 0]"},
		{"line 8, other words stay", "1x6 0x6 2x6 1x8", "5 1 5 [0 0 0 2 0 3]"},
	})
}

// TestLinesOf4: one hand alone, and four that came one by one, or all at once.
func TestLinesOf4(t *testing.T) {
	checkLines(t, 4, []lined{
		{"hand 3, three are looked at", "3x4", "1 1 1 2 [0 0 0 1 0 0 0 0]"},
		{"hand 3, all are looked at", "3x5", "1 1 1 3 [0 0 0 1 0 0 0 0]"},
		{"hand 3, line 3", "3x6", "1 1 1 4 [0 0 0 1 0 0 0 1]"},
		{"hand 3, line 4", "3x7", "1 1 1 5 [0 0 0 0 0 0 0 1]"},
		{"hand 3, three are looked at again", "3x13", "1 1 1 5 [0 0 0 0 0 0 0 1]"},
		{"hand 3, the last line 6", "3x14", "1 1 1 6 [0 0 0 0 0 0 0 1]"},
		{"hand 3, in", "3x15", "1 1 1 7 [0 0 0 0 0 0 0 1]"},
		{"hand 3, line 7", "3x16", "1 1 1 8 [0 0 0 0 0 0 0 1]"},
		{"hand 3, line 8", "3x17", "1 1 1 1 [0 0 0 0 0 0 0 0]"},
		{"hand 3, in once more", "3x32", "1 1 1 7 [0 0 0 0 0 0 0 1]"},
		{"one by one, the first of them is in", "3x7 2x7 1x7 0x7 0x8 1x8 2x8 3x8", "6 6 6 7 [0 0 0 0 4 3 2 1]"},
		{"one by one, the first of them is out", "3x7 2x7 1x7 0x7 0x8 1x8 2x8 3x10 0x8 1x8 2", "6 6 7 1 [0 0 0 0 4 3 2 0]"},
		{"all at once, hand 0 is in", "0x5 1x5 2x5 3x5 00 11 22 33 3x8 2x8 1x8 0x8", "7 6 6 6 [0 0 0 0 1 1 1 1]"},
		{"all at once, hand 0 is out", "0x5 1x5 2x5 3x5 00 11 22 33 3x8 2x8 1x8 0x10 3x8 2x8 1x7", "1 7 6 6 [0 0 0 0 0 1 1 1]"},
		{"all at once, hands 0 and 1 are out", "0x5 1x5 2x5 3x5 00 11 22 33 3x8 2x8 1x8 0x10 1x9 3x8 2x7", "1 1 7 6 [0 0 0 0 0 0 1 1]"},
	})
}

// TestScripts: what is told step by step.
func TestScripts(t *testing.T) {
	for _, c := range []struct {
		name   string
		n      int
		script string
		want   []string
	}{
		{"one hand, twice round", 1, "0x16", []string{
			"2 [1 0]", "3 [1 0]", "4 [1 1]", "5 [0 1]", "6 [0 1]", "7 [0 1]", "8 [0 1]", "1 [0 0]",
			"2 [1 0]", "3 [1 0]", "4 [1 1]", "5 [0 1]", "6 [0 1]", "7 [0 1]", "8 [0 1]", "1 [0 0]",
		}},
		{"two hands, turn by turn", 2, "01 01 01 01 01 01 01 01 01 01 01 01 01 01", []string{
			"2 1 [1 0 0 0]", "2 2 [1 1 0 0]", "2 2 [1 1 0 0]", "2 2 [1 1 0 0]", "3 2 [1 1 0 0]", "3 3 [1 1 0 0]",
			"4 3 [1 1 1 0]", "4 4 [1 1 1 1]", "5 4 [0 1 1 1]", "5 5 [0 0 1 1]", "6 5 [0 0 1 1]", "6 6 [0 0 1 1]",
			"5 6 [0 0 1 1]", "5 6 [0 0 1 1]", "6 6 [0 0 1 1]", "6 6 [0 0 1 1]", "7 6 [0 0 1 1]", "7 6 [0 0 1 1]",
			"8 6 [0 0 1 1]", "8 6 [0 0 1 1]", "1 6 [0 0 0 1]", "1 5 [0 0 0 1]", "2 5 [1 0 0 1]", "2 6 [1 0 0 1]",
			"2 6 [1 0 0 1]", "2 7 [1 0 0 1]", "3 7 [1 0 0 1]", "3 8 [1 0 0 1]",
		}},
		{"three hands, one behind the other", 3, "0 1 2 0x4 1x4 0 2x4 1 2 0 0 1 1 2 2 0x5 1 0", []string{
			"2 1 1 [1 0 0 0 0 0]", "2 2 1 [1 1 0 0 0 0]", "2 2 2 [1 1 1 0 0 0]",
			"2 2 2 [1 1 1 0 0 0]", "2 2 2 [1 1 1 0 0 0]", "3 2 2 [1 1 1 0 0 0]", "4 2 2 [1 1 1 1 0 0]",
			"4 2 2 [1 1 1 1 0 0]", "4 2 2 [1 1 1 1 0 0]", "4 3 2 [1 1 1 1 0 0]", "4 4 2 [1 1 1 1 2 0]",
			"5 4 2 [0 1 1 1 2 0]",
			"5 4 2 [0 1 1 1 2 0]", "5 4 2 [0 1 1 1 2 0]", "5 4 3 [0 1 1 1 2 0]", "5 4 4 [0 1 1 1 2 3]",
			"5 5 4 [0 0 1 1 2 3]", "5 5 5 [0 0 0 1 2 3]",
			"6 5 5 [0 0 0 1 2 3]", "5 5 5 [0 0 0 1 2 3]", "5 6 5 [0 0 0 1 2 3]", "5 6 5 [0 0 0 1 2 3]",
			"5 6 6 [0 0 0 1 2 3]", "5 6 6 [0 0 0 1 2 3]",
			"6 6 6 [0 0 0 1 2 3]", "5 6 6 [0 0 0 1 2 3]", "6 6 6 [0 0 0 1 2 3]", "7 6 6 [0 0 0 1 2 3]", "8 6 6 [0 0 0 1 2 3]",
			"8 6 6 [0 0 0 1 2 3]", "1 6 6 [0 0 0 0 2 3]",
		}},
		{"four hands", 4, "3 0 2 1 3333 000000 33 222 33 1", []string{
			"1 1 1 2 [0 0 0 1 0 0 0 0]", "2 1 1 2 [1 0 0 1 0 0 0 0]", "2 1 2 2 [1 0 1 1 0 0 0 0]", "2 2 2 2 [1 1 1 1 0 0 0 0]",
			"2 2 2 2 [1 1 1 1 0 0 0 0]", "2 2 2 2 [1 1 1 1 0 0 0 0]", "2 2 2 2 [1 1 1 1 0 0 0 0]", "2 2 2 3 [1 1 1 1 0 0 0 0]",
			"2 2 2 3 [1 1 1 1 0 0 0 0]", "2 2 2 3 [1 1 1 1 0 0 0 0]", "2 2 2 3 [1 1 1 1 0 0 0 0]", "3 2 2 3 [1 1 1 1 0 0 0 0]",
			"4 2 2 3 [1 1 1 1 1 0 0 0]", "5 2 2 3 [0 1 1 1 1 0 0 0]",
			"5 2 2 4 [0 1 1 1 1 0 0 1]", "5 2 2 5 [0 1 1 0 1 0 0 1]",
			"5 2 2 5 [0 1 1 0 1 0 0 1]", "5 2 2 5 [0 1 1 0 1 0 0 1]", "5 2 2 5 [0 1 1 0 1 0 0 1]",
			"5 2 2 6 [0 1 1 0 1 0 0 1]", "5 2 2 6 [0 1 1 0 1 0 0 1]",
			"5 2 2 6 [0 1 1 0 1 0 0 1]",
		}},
	} {
		l := fresh(t, c.n)
		steps := script(c.script)
		if len(steps) != len(c.want) {
			t.Fatalf("%s: %d steps, and %d wanted", c.name, len(steps), len(c.want))
		}
		for i, p := range steps {
			if err := l.Step(p); err != nil || shown(l, c.n) != c.want[i] {
				t.Errorf("%s, step %d: got %s %v, want %s", c.name, i, shown(l, c.n), err, c.want[i])
			}
		}
	}
}

// TestNumbersGrow: while there is always one that waits, each new number is one more.
func TestNumbersGrow(t *testing.T) {
	l := after(t, 2, script("0x5"))
	for number := 2; number < 500; number++ {
		p := 1 - number%2
		for range 5 {
			step(t, l, p)
		}
		for range 6 {
			step(t, l, 1-p)
		}
		want := []int{0, 0, 0, 0}
		want[2+p] = number
		if got := l.Words(); !slices.Equal(got, want) {
			t.Fatalf("got %v, want %v", got, want)
		}
	}
}

// TestNoHand: wherever the hands stand, Step of a hand that is none tells ErrRange and changes nothing, then or later, and it stands at 0.
func TestNoHand(t *testing.T) {
	for n := 1; n <= api.MaxHands; n++ {
		steps := drawn(n, 120)
		l := fresh(t, n)
		for i := range len(steps) + 1 {
			for _, p := range noHands(n) {
				if err := l.Step(p); plain.Told(err) != api.ErrRange {
					t.Errorf("of %d, after %v: step of %d: got %v", n, steps[:i], p, err)
				}
				if got := l.At(p); got != 0 {
					t.Errorf("of %d, after %v: %d stands at %d", n, steps[:i], p, got)
				}
			}
			if got, want := shown(l, n), shown(after(t, n, steps[:i]), n); got != want {
				t.Errorf("of %d, after %v, and those that are no hands: got %s, want %s", n, steps[:i], got, want)
			}
			if i < len(steps) {
				step(t, l, steps[i])
			}
		}
	}
}

// TestAsked: to ask changes nothing.
func TestAsked(t *testing.T) {
	for n := 1; n <= api.MaxHands; n++ {
		steps := drawn(n, 120)
		l := fresh(t, n)
		for i, p := range steps {
			for range 3 {
				for q := -1; q <= n; q++ {
					l.At(q)
				}
				l.Words()
			}
			step(t, l, p)
			if got, want := shown(l, n), shown(after(t, n, steps[:i+1]), n); got != want {
				t.Errorf("of %d, after %v: got %s, want %s", n, steps[:i+1], got, want)
			}
		}
	}
}

// TestWordsFresh: Words are fresh memory each time: what is written into them, or behind them, is not seen, nor are they changed by what comes after.
func TestWordsFresh(t *testing.T) {
	for n := 1; n <= api.MaxHands; n++ {
		steps := drawn(n, 60)
		l, same := after(t, n, steps), after(t, n, steps)
		want := slices.Clone(same.Words())
		if len(want) != 2*n {
			t.Fatalf("for %d hands there are the words %v", n, want)
		}
		one, other := l.Words(), l.Words()
		for i := range one[:cap(one)] {
			one[:cap(one)][i] = -7
		}
		if !slices.Equal(other, want) || !slices.Equal(l.Words(), want) {
			t.Errorf("of %d: written into one answer, others are %v and %v, want %v", n, other, l.Words(), want)
		}
		for _, p := range drawn(n, 60) {
			step(t, l, p)
			step(t, same, p)
			if got, want := shown(l, n), shown(same, n); got != want {
				t.Fatalf("of %d: written into what was told, got %s, want %s", n, got, want)
			}
		}
		if !slices.Equal(other, want) {
			t.Errorf("of %d: what was told before is %v, and was %v", n, other, want)
		}
	}
}

// TestApart: two locks share nothing, for as many hands or not, and a new one tells nothing of those before.
func TestApart(t *testing.T) {
	for n := 1; n <= api.MaxHands; n++ {
		for m := 1; m <= api.MaxHands; m++ {
			one, other := fresh(t, n), fresh(t, m)
			first, second := drawn(n, 60), drawn(m, 90)[30:]
			for i := range first {
				step(t, one, first[i])
				if got, want := shown(other, m), shown(after(t, m, second[:i]), m); got != want {
					t.Errorf("step %d of one lock for %d: the other one is %s, want %s", i, n, got, want)
				}
				step(t, other, second[i])
				if got, want := shown(one, n), shown(after(t, n, first[:i+1]), n); got != want {
					t.Errorf("step %d of the other lock for %d: the one is %s, want %s", i, m, got, want)
				}
			}
			if got, want := shown(fresh(t, n), n), strings.Repeat("1 ", n)+fmt.Sprint(make([]int, 2*n)); got != want {
				t.Errorf("a new one for %d is %s", n, got)
			}
		}
	}
}

// ExampleLock: hand 0 is in, hand 1 waits for it, and hand 2 is taking a number.
func ExampleLock() {
	l, err := bakery.New(3)
	if err != nil {
		fmt.Println(err)
	}
	for _, p := range []int{0, 0, 0, 0, 0, 0, 1, 1, 1, 1, 1, 1, 0, 0, 0, 0, 0, 0, 1, 1, 2} {
		if err := l.Step(p); err != nil {
			fmt.Println(err)
		}
	}
	fmt.Println(l.At(0), l.At(1), l.At(2), l.Words())
	fmt.Println(l.Step(3), l.At(3))
	_, err = bakery.New(5)
	fmt.Println(err)
	// Output:
	// 7 6 2 [0 0 1 1 2 0]
	// ErrRange 0
	// ErrRange
}
