package filter_test

import (
	"fmt"
	"math"
	"slices"
	"strconv"
	"strings"
	"testing"

	"latchgarth/api"
	"latchgarth/filter"
	"latchgarth/plain"
)

// noHands are numbers that are no hands of a lock for n.
func noHands(n int) []int {
	return []int{
		-1, n, n + 1, 4, 5, -2, -n, -n - 1, 256, 257, 1 << 32, 1<<32 + 1,
		math.MinInt, math.MinInt + 1, math.MaxInt - 1, math.MaxInt,
	}
}

// fresh is a new lock for n hands, of which there may be so many.
func fresh(t *testing.T, n int) *filter.Lock {
	t.Helper()
	l, err := filter.New(n)
	if err != nil {
		t.Fatalf("new lock for %d: got %v", n, err)
	}
	return l
}

// shown is all that a lock for n hands tells: where they stand, and its words.
func shown(l *filter.Lock, n int) string {
	out := ""
	for p := range n {
		out += fmt.Sprint(l.At(p), " ")
	}
	return out + fmt.Sprint(l.Words())
}

// step of a hand that is one.
func step(t *testing.T, l *filter.Lock, p int) {
	t.Helper()
	if err := l.Step(p); err != nil {
		t.Fatalf("step of hand %d, words %v: got %v", p, l.Words(), err)
	}
}

// script of hands, a digit each, or 0x7: hand 0 seven times; spaces are for the eye.
func script(text string) []int {
	var out []int
	for _, part := range strings.Fields(text) {
		hand, times, many := strings.Cut(part, "x")
		if many {
			count, err := strconv.Atoi(times)
			if err != nil {
				panic(err)
			}
			hand = strings.Repeat(hand, count)
		}
		for _, c := range hand {
			out = append(out, int(c-'0'))
		}
	}
	return out
}

// after is a new lock for n hands after a script of them.
func after(t *testing.T, n int, script []int) *filter.Lock {
	t.Helper()
	l := fresh(t, n)
	for _, p := range script {
		step(t, l, p)
	}
	return l
}

// TestNew: for each number of hands that may be, all stand at line 1, and all words, two for each hand, are 0.
func TestNew(t *testing.T) {
	for i, want := range []string{"1 [0 0]", "1 1 [0 0 0 0]", "1 1 1 [0 0 0 0 0 0]", "1 1 1 1 [0 0 0 0 0 0 0 0]"} {
		n := i + 1
		l, err := filter.New(n)
		if err != nil || l == nil {
			t.Fatalf("for %d hands: got %v %v", n, l, err)
		}
		if got := shown(l, n); got != want {
			t.Errorf("for %d hands: got %s, want %s", n, got, want)
		}
	}
}

// TestNewNone: for any other number there is no lock, and ErrRange is told.
func TestNewNone(t *testing.T) {
	for _, n := range []int{
		0, -1, -2, -4, 5, 6, 8, 255, 256, 257, 1 << 32, 1<<32 + 1, -1 << 32, 1 - 1<<32,
		math.MinInt, math.MinInt + 1, math.MaxInt - 1, math.MaxInt,
	} {
		if l, err := filter.New(n); plain.Told(err) != api.ErrRange || l != nil {
			t.Errorf("for %d hands: got %v %v", n, l, err)
		}
	}
}

// lined is a script, and what is told behind the line that ends it.
type lined struct{ name, script, want string }

func checkLines(t *testing.T, n int, cases []lined) {
	t.Helper()
	for _, c := range cases {
		if got := shown(after(t, n, script(c.script)), n); got != c.want {
			t.Errorf("%s: after %s got %s, want %s", c.name, c.script, got, c.want)
		}
	}
}

// TestLinesOf1: a hand that is the only one goes through one door.
func TestLinesOf1(t *testing.T) {
	checkLines(t, 1, []lined{
		{"line 1", "0", "2 [1 0]"},
		{"line 2", "00", "3 [1 1]"},
		{"line 3", "000", "4 [1 1]"},
		{"line 4, it has looked at all: the last door", "0000", "5 [1 1]"},
		{"line 5", "0x5", "6 [1 1]"},
		{"line 6", "0x6", "1 [0 1]"},
		{"line 1 once more", "0x7", "2 [1 1]"},
		{"in once more", "0x10", "5 [1 1]"},
	})
}

// TestLinesOf2: each line of either of two hands, both ways where it asks; the first door is the last one.
func TestLinesOf2(t *testing.T) {
	checkLines(t, 2, []lined{
		{"hand 0, line 1", "0", "2 1 [1 0 0 0]"},
		{"hand 0, line 1, other words stay", "11 0", "2 3 [1 1 2 0]"},
		{"hand 0, line 2", "00", "3 1 [1 0 1 0]"},
		{"hand 0, line 2, V1 was 2", "11 00", "3 3 [1 1 1 0]"},
		{"hand 0, line 3, V1 is 1", "000", "4 1 [1 0 1 0]"},
		{"hand 0, line 3, V1 is 2: the last door", "00 11 0", "5 3 [1 1 2 0]"},
		{"hand 0, line 4, k is 0, which it is itself", "000 0", "4 1 [1 0 1 0]"},
		{"hand 0, line 4, L1 is 0: the last door", "000 00", "5 1 [1 0 1 0]"},
		{"hand 0, line 4, L1 is 1", "1 000 00", "3 2 [1 1 1 0]"},
		{"hand 0, line 4, k is 0 again", "1 000 00 00", "4 2 [1 1 1 0]"},
		{"hand 0, line 4, L1 is 1 again", "1 000 00 000", "3 2 [1 1 1 0]"},
		{"hand 0, line 5", "0x6", "6 1 [1 0 1 0]"},
		{"hand 0, line 5, the other one waits", "00 11 00", "6 3 [1 1 2 0]"},
		{"hand 0, line 6", "0x7", "1 1 [0 0 1 0]"},
		{"hand 0, line 6, L1 and V1 stay", "00 11 000", "1 3 [0 1 2 0]"},
		{"hand 0, line 1 once more", "0x8", "2 1 [1 0 1 0]"},

		{"hand 1, line 1", "1", "1 2 [0 1 0 0]"},
		{"hand 1, line 1, other words stay", "00 1", "3 2 [1 1 1 0]"},
		{"hand 1, line 2", "11", "1 3 [0 1 2 0]"},
		{"hand 1, line 2, V1 was 1", "00 11", "3 3 [1 1 2 0]"},
		{"hand 1, line 3, V1 is 2", "111", "1 4 [0 1 2 0]"},
		{"hand 1, line 3, V1 is 1: the last door", "11 00 1", "3 5 [1 1 1 0]"},
		{"hand 1, line 4, L0 is 1", "0 111 1", "2 3 [1 1 2 0]"},
		{"hand 1, line 4, L0 is 0", "111 1", "1 4 [0 1 2 0]"},
		{"hand 1, line 4, k is 1, which it is itself: the last door", "111 11", "1 5 [0 1 2 0]"},
		{"hand 1, line 4, the other one comes behind its look", "1111 0 1", "2 5 [1 1 2 0]"},
		{"hand 1, line 5", "1x6", "1 6 [0 1 2 0]"},
		{"hand 1, line 6", "1x7", "1 1 [0 0 2 0]"},
		{"hand 1, line 6, L0 and V1 stay", "11 00 111", "3 1 [1 0 1 0]"},
		{"hand 1, line 1 once more", "1x8", "1 2 [0 1 2 0]"},
	})
}

// TestLinesOf3: each line at the first of two doors, and at the last one.
func TestLinesOf3(t *testing.T) {
	checkLines(t, 3, []lined{
		{"line 1, j is 1", "0", "2 1 1 [1 0 0 0 0 0]"},
		{"line 2, j is 1", "00", "3 1 1 [1 0 0 1 0 0]"},
		{"line 3, V1 is 1", "000", "4 1 1 [1 0 0 1 0 0]"},
		{"line 3, V1 is 2: the first door", "00 11 0", "1 3 1 [1 1 0 2 0 0]"},
		{"line 3, V1 is 3: the first door", "00 22 0", "1 1 3 [1 0 1 3 0 0]"},
		{"line 4, k is 0, which it is itself", "000 0", "4 1 1 [1 0 0 1 0 0]"},
		{"line 4, L1 is 0", "000 00", "4 1 1 [1 0 0 1 0 0]"},
		{"line 4, L2 is 0: the first door", "000 000", "1 1 1 [1 0 0 1 0 0]"},
		{"line 1, j is 2", "0x6 0", "2 1 1 [2 0 0 1 0 0]"},
		{"line 2, j is 2", "0x6 00", "3 1 1 [2 0 0 1 1 0]"},
		{"line 3, V2 is 1", "0x6 000", "4 1 1 [2 0 0 1 1 0]"},
		{"line 3, V2 is 1, V1 is 3", "0x8 22 0", "4 1 3 [2 0 1 3 1 0]"},
		{"line 3, V2 is 2: the last door", "00 11 000 22 111 0", "5 3 3 [2 2 1 3 2 0]"},
		{"line 4, j is 2, two of three are looked at", "0x6 000 00", "4 1 1 [2 0 0 1 1 0]"},
		{"line 4, j is 2, all are looked at: the last door", "0x6 000 000", "5 1 1 [2 0 0 1 1 0]"},
		{"line 5", "0x13", "6 1 1 [2 0 0 1 1 0]"},
		{"line 6", "0x14", "1 1 1 [0 0 0 1 1 0]"},
		{"line 1, j is 1 again", "0x15", "2 1 1 [1 0 0 1 1 0]"},
		{"line 2, j is 1 again", "1x14 0x14 11", "1 3 1 [0 1 0 2 1 0]"},

		{"line 4, j is 1, L0 is 1", "0 111 1", "2 3 1 [1 1 0 2 0 0]"},
		{"line 4, j is 1, L0 is 2", "00 11 00 1 1", "2 3 1 [2 1 0 2 0 0]"},
		{"line 4, j is 2, L0 is 1", "11 00 111 1 1", "3 4 1 [1 2 0 1 2 0]"},
		{"line 4, j is 2, k is 1, which it is itself", "11 00 111 1 11", "3 4 1 [1 2 0 1 2 0]"},
		{"line 4, j is 2, L2 is 0: the last door", "11 00 111 1 111", "3 5 1 [1 2 0 1 2 0]"},
		{"line 4, j is 2, L0 is 2", "00 11 0 22 1 00 11 1 1", "3 3 3 [2 2 1 3 2 0]"},

		{"line 4, L2 is 1, k is 0", "2 000 0", "4 1 2 [1 0 1 1 0 0]"},
		{"line 4, L2 is 1, k is 1", "2 000 00", "4 1 2 [1 0 1 1 0 0]"},
		{"line 4, L2 is 1, k is 2", "2 000 000", "3 1 2 [1 0 1 1 0 0]"},
		{"line 3 once more", "2 000 000 0", "4 1 2 [1 0 1 1 0 0]"},
		{"line 4, k is 0 again", "2 000 000 0 0", "4 1 2 [1 0 1 1 0 0]"},
		{"line 4, k is 1 again", "2 000 000 0 00", "4 1 2 [1 0 1 1 0 0]"},
		{"line 4, k is 2 again", "2 000 000 0 000", "3 1 2 [1 0 1 1 0 0]"},
	})
}

// TestLinesOf4: the three doors of four hands, one by one.
func TestLinesOf4(t *testing.T) {
	checkLines(t, 4, []lined{
		{"hand 3, all looked at but itself", "3x6", "1 1 1 4 [0 0 0 1 4 0 0 0]"},
		{"hand 3, the first door", "3x7", "1 1 1 1 [0 0 0 1 4 0 0 0]"},
		{"hand 3, the second door", "3x14", "1 1 1 1 [0 0 0 2 4 4 0 0]"},
		{"hand 3, on the way to the last door", "3x16", "1 1 1 3 [0 0 0 3 4 4 4 0]"},
		{"hand 3, the last door", "3x21", "1 1 1 5 [0 0 0 3 4 4 4 0]"},
		{"hand 3, line 5", "3x22", "1 1 1 6 [0 0 0 3 4 4 4 0]"},
		{"hand 3, line 6", "3x23", "1 1 1 1 [0 0 0 0 4 4 4 0]"},
		{"hand 3, in once more", "3x44", "1 1 1 5 [0 0 0 3 4 4 4 0]"},
		{"hand 2, the first door, L3 is 1", "3 222 2222", "1 1 3 2 [0 0 1 1 3 0 0 0]"},
		{"hand 2, the second door, L3 is 1", "222 2222 3 222 2222", "1 1 1 2 [0 0 2 1 3 3 0 0]"},
		{"hand 2, the last door, L3 is 2", "3x8 22 00 2 22 3 2 2x7", "3 1 5 3 [1 0 3 2 1 4 3 0]"},
	})
}

// TestScripts: what is told step by step.
func TestScripts(t *testing.T) {
	for _, c := range []struct {
		name   string
		n      int
		script string
		want   []string
	}{
		{"one hand, twice round", 1, "0x12", []string{
			"2 [1 0]", "3 [1 1]", "4 [1 1]", "5 [1 1]", "6 [1 1]", "1 [0 1]",
			"2 [1 1]", "3 [1 1]", "4 [1 1]", "5 [1 1]", "6 [1 1]", "1 [0 1]",
		}},
		{"two hands, turn by turn", 2, "01 01 01 01 01 01 01 01 01 0", []string{
			"2 1 [1 0 0 0]", "2 2 [1 1 0 0]", "3 2 [1 1 1 0]", "3 3 [1 1 2 0]", "5 3 [1 1 2 0]", "5 4 [1 1 2 0]",
			"6 4 [1 1 2 0]", "6 3 [1 1 2 0]", "1 3 [0 1 2 0]", "1 4 [0 1 2 0]", "2 4 [1 1 2 0]", "2 3 [1 1 2 0]",
			"3 3 [1 1 1 0]", "3 5 [1 1 1 0]", "4 5 [1 1 1 0]", "4 6 [1 1 1 0]", "4 6 [1 1 1 0]", "4 1 [1 0 1 0]",
			"5 1 [1 0 1 0]",
		}},
		{"three hands, turn by turn", 3, "012 012 012 012 012 012 012 012 012 012 012", []string{
			"2 1 1 [1 0 0 0 0 0]", "2 2 1 [1 1 0 0 0 0]", "2 2 2 [1 1 1 0 0 0]",
			"3 2 2 [1 1 1 1 0 0]", "3 3 2 [1 1 1 2 0 0]", "3 3 3 [1 1 1 3 0 0]",
			"1 3 3 [1 1 1 3 0 0]", "1 1 3 [1 1 1 3 0 0]", "1 1 4 [1 1 1 3 0 0]",
			"2 1 4 [2 1 1 3 0 0]", "2 2 4 [2 2 1 3 0 0]", "2 2 3 [2 2 1 3 0 0]",
			"3 2 3 [2 2 1 3 1 0]", "3 3 3 [2 2 1 3 2 0]", "3 3 4 [2 2 1 3 2 0]",
			"5 3 4 [2 2 1 3 2 0]", "5 4 4 [2 2 1 3 2 0]", "5 4 3 [2 2 1 3 2 0]",
			"6 4 3 [2 2 1 3 2 0]", "6 3 3 [2 2 1 3 2 0]", "6 3 4 [2 2 1 3 2 0]",
			"1 3 4 [0 2 1 3 2 0]", "1 4 4 [0 2 1 3 2 0]", "1 4 4 [0 2 1 3 2 0]",
			"2 4 4 [1 2 1 3 2 0]", "2 4 4 [1 2 1 3 2 0]", "2 4 3 [1 2 1 3 2 0]",
			"3 4 3 [1 2 1 1 2 0]", "3 4 3 [1 2 1 1 2 0]", "3 4 1 [1 2 1 1 2 0]",
			"4 4 1 [1 2 1 1 2 0]", "4 5 1 [1 2 1 1 2 0]", "4 5 2 [1 2 2 1 2 0]",
		}},
		{"four hands", 4, "0123 0123 0123 3 0011 0x10", []string{
			"2 1 1 1 [1 0 0 0 0 0 0 0]", "2 2 1 1 [1 1 0 0 0 0 0 0]", "2 2 2 1 [1 1 1 0 0 0 0 0]", "2 2 2 2 [1 1 1 1 0 0 0 0]",
			"3 2 2 2 [1 1 1 1 1 0 0 0]", "3 3 2 2 [1 1 1 1 2 0 0 0]", "3 3 3 2 [1 1 1 1 3 0 0 0]", "3 3 3 3 [1 1 1 1 4 0 0 0]",
			"1 3 3 3 [1 1 1 1 4 0 0 0]", "1 1 3 3 [1 1 1 1 4 0 0 0]", "1 1 1 3 [1 1 1 1 4 0 0 0]", "1 1 1 4 [1 1 1 1 4 0 0 0]",
			"1 1 1 3 [1 1 1 1 4 0 0 0]",
			"2 1 1 3 [2 1 1 1 4 0 0 0]", "3 1 1 3 [2 1 1 1 4 1 0 0]", "3 2 1 3 [2 2 1 1 4 1 0 0]", "3 3 1 3 [2 2 1 1 4 2 0 0]",
			"1 3 1 3 [2 2 1 1 4 2 0 0]", "2 3 1 3 [3 2 1 1 4 2 0 0]", "3 3 1 3 [3 2 1 1 4 2 1 0]", "4 3 1 3 [3 2 1 1 4 2 1 0]",
			"4 3 1 3 [3 2 1 1 4 2 1 0]", "4 3 1 3 [3 2 1 1 4 2 1 0]", "4 3 1 3 [3 2 1 1 4 2 1 0]", "5 3 1 3 [3 2 1 1 4 2 1 0]",
			"6 3 1 3 [3 2 1 1 4 2 1 0]", "1 3 1 3 [0 2 1 1 4 2 1 0]",
		}},
	} {
		l := fresh(t, c.n)
		steps := script(c.script)
		if len(steps) != len(c.want) {
			t.Fatalf("%s: %d steps, and %d wanted", c.name, len(steps), len(c.want))
		}
		for i, p := range steps {
			if err := l.Step(p); err != nil || shown(l, c.n) != c.want[i] {
				t.Errorf("%s, step %d: got %s %v, want %s", c.name, i, shown(l, c.n), err, c.want[i])
			}
		}
	}
}

// TestNoHand: wherever the hands stand, Step of a hand that is none tells ErrRange and changes nothing, then or later, and it stands at 0.
func TestNoHand(t *testing.T) {
	for n := 1; n <= api.MaxHands; n++ {
		steps := drawn(n, 120)
		l := fresh(t, n)
		for i := range len(steps) + 1 {
			for _, p := range noHands(n) {
				if err := l.Step(p); plain.Told(err) != api.ErrRange {
					t.Errorf("of %d, after %v: step of %d: got %v", n, steps[:i], p, err)
				}
				if got := l.At(p); got != 0 {
					t.Errorf("of %d, after %v: %d stands at %d", n, steps[:i], p, got)
				}
			}
			if got, want := shown(l, n), shown(after(t, n, steps[:i]), n); got != want {
				t.Errorf("of %d, after %v, and those that are no hands: got %s, want %s", n, steps[:i], got, want)
			}
			if i < len(steps) {
				step(t, l, steps[i])
			}
		}
	}
}

// TestAsked: to ask changes nothing.
func TestAsked(t *testing.T) {
	for n := 1; n <= api.MaxHands; n++ {
		steps := drawn(n, 120)
		l := fresh(t, n)
		for i, p := range steps {
			for range 3 {
				for q := -1; q <= n; q++ {
					l.At(q)
				}
				l.Words()
			}
			step(t, l, p)
			if got, want := shown(l, n), shown(after(t, n, steps[:i+1]), n); got != want {
				t.Errorf("of %d, after %v: got %s, want %s", n, steps[:i+1], got, want)
			}
		}
	}
}

// TestWordsFresh: Words are fresh memory each time: what is written into them, or behind them, is not seen, nor are they changed by what comes after.
func TestWordsFresh(t *testing.T) {
	for n := 1; n <= api.MaxHands; n++ {
		steps := drawn(n, 60)
		l, same := after(t, n, steps), after(t, n, steps)
		want := slices.Clone(same.Words())
		if len(want) != 2*n {
			t.Fatalf("for %d hands there are the words %v", n, want)
		}
		one, other := l.Words(), l.Words()
		for i := range one[:cap(one)] {
			one[:cap(one)][i] = -7
		}
		if !slices.Equal(other, want) || !slices.Equal(l.Words(), want) {
			t.Errorf("of %d: written into one answer, others are %v and %v, want %v", n, other, l.Words(), want)
		}
		for _, p := range drawn(n, 60) {
			step(t, l, p)
			step(t, same, p)
			if got, want := shown(l, n), shown(same, n); got != want {
				t.Fatalf("of %d: written into what was told, got %s, want %s", n, got, want)
			}
		}
		if !slices.Equal(other, want) {
			t.Errorf("of %d: what was told before is %v, and was %v", n, other, want)
		}
	}
}

// TestApart: two locks share nothing, for as many hands or not, and a new one tells nothing of those before.
func TestApart(t *testing.T) {
	for n := 1; n <= api.MaxHands; n++ {
		for m := 1; m <= api.MaxHands; m++ {
			one, other := fresh(t, n), fresh(t, m)
			first, second := drawn(n, 60), drawn(m, 90)[30:]
			for i := range first {
				step(t, one, first[i])
				if got, want := shown(other, m), shown(after(t, m, second[:i]), m); got != want {
					t.Errorf("step %d of one lock for %d: the other one is %s, want %s", i, n, got, want)
				}
				step(t, other, second[i])
				if got, want := shown(one, n), shown(after(t, n, first[:i+1]), n); got != want {
					t.Errorf("step %d of the other lock for %d: the one is %s, want %s", i, m, got, want)
				}
			}
			if got, want := shown(fresh(t, n), n), strings.Repeat("1 ", n)+fmt.Sprint(make([]int, 2*n)); got != want {
				t.Errorf("a new one for %d is %s", n, got)
			}
		}
	}
}

// ExampleLock: hand 0 is in, hand 1 waits at the last door, and hand 2 at the first one.
func ExampleLock() {
	l, err := filter.New(3)
	if err != nil {
		fmt.Println(err)
	}
	for _, p := range []int{0, 0, 1, 1, 0, 0, 0, 2, 2, 1, 1, 1, 0} {
		if err := l.Step(p); err != nil {
			fmt.Println(err)
		}
	}
	fmt.Println(l.At(0), l.At(1), l.At(2), l.Words())
	fmt.Println(l.Step(3), l.At(3))
	_, err = filter.New(5)
	fmt.Println(err)
	// Output:
	// 5 3 3 [2 2 1 3 2 0]
	// ErrRange 0
	// ErrRange
}
