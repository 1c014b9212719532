package clh_test

import (
	"fmt"
	"math"
	"slices"
	"strconv"
	"strings"
	"testing"

	"latchgarth/api"
	"latchgarth/clh"
	"latchgarth/plain"
)

// noHands are numbers that are no hands of a lock for n.
func noHands(n int) []int {
	return []int{
		-1, n, n + 1, 4, 5, 7, 8, -2, -n, -n - 1, 256, 257, 1 << 32, 1<<32 + 1,
		math.MinInt, math.MinInt + 1, math.MaxInt - 1, math.MaxInt,
	}
}

// fresh is a new lock for n hands, of which there may be so many.
func fresh(t *testing.T, n int) *clh.Lock {
	t.Helper()
	l, err := clh.New(n)
	if err != nil {
		t.Fatalf("new lock for %d: got %v", n, err)
	}
	return l
}

// shown is all that a lock for n hands tells: where they stand, and its words.
func shown(l *clh.Lock, n int) string {
	out := ""
	for p := range n {
		out += fmt.Sprint(l.At(p), " ")
	}
	return out + fmt.Sprint(l.Words())
}

// step of a hand that is one.
func step(t *testing.T, l *clh.Lock, p int) {
	t.Helper()
	if err := l.Step(p); err != nil {
		t.Fatalf("step of hand %d, words %v: got %v", p, l.Words(), err)
	}
}

// script of hands, a digit each, or 0x7: hand 0 seven times; spaces are for the eye.
func script(text string) []int {
	var out []int
	for _, part := range strings.Fields(text) {
		hand, times, many := strings.Cut(part, "x")
		if many {
			count, err := strconv.Atoi(times)
			if err != nil {
				panic(err)
			}
			hand = strings.Repeat(hand, count)
		}
		for _, c := range hand {
			out = append(out, int(c-'0'))
		}
	}
	return out
}

// after is a new lock for n hands after a script of them.
func after(t *testing.T, n int, script []int) *clh.Lock {
	t.Helper()
	l := fresh(t, n)
	for _, p := range script {
		step(t, l, p)
	}
	return l
}

// TestNew: for each number of hands that may be, all stand at line 1, T is that number, and B, one more than there are hands, are 0.
func TestNew(t *testing.T) {
	for i, want := range []string{"1 [1 0 0]", "1 1 [2 0 0 0]", "1 1 1 [3 0 0 0 0]", "1 1 1 1 [4 0 0 0 0 0]"} {
		n := i + 1
		l, err := clh.New(n)
		if err != nil || l == nil {
			t.Fatalf("for %d hands: got %v %v", n, l, err)
		}
		if got := shown(l, n); got != want {
			t.Errorf("for %d hands: got %s, want %s", n, got, want)
		}
	}
}

// TestNewNone: for any other number there is no lock, and ErrRange is told.
func TestNewNone(t *testing.T) {
	for _, n := range []int{
		0, -1, -2, -4, 5, 6, 8, 255, 256, 257, 1 << 32, 1<<32 + 1, -1 << 32, 1 - 1<<32,
		math.MinInt, math.MinInt + 1, math.MaxInt - 1, math.MaxInt,
	} {
		if l, err := clh.New(n); plain.Told(err) != api.ErrRange || l != nil {
			t.Errorf("for %d hands: got %v %v", n, l, err)
		}
	}
}

// TestOwnAtFirst: m of each hand is its own number at first, and each a is T, n at first, and a word that is 0.
func TestOwnAtFirst(t *testing.T) {
	for n := 1; n <= api.MaxHands; n++ {
		for p := range n {
			want := make([]int, n+2)
			want[0], want[1+p] = n, 1
			if got := after(t, n, []int{p}).Words(); !slices.Equal(got, want) {
				t.Errorf("of %d, hand %d, line 1: got %v, want %v", n, p, got, want)
			}
			want[0] = p
			if got := after(t, n, []int{p, p}).Words(); !slices.Equal(got, want) {
				t.Errorf("of %d, hand %d, line 2: got %v, want %v", n, p, got, want)
			}
			want[1+p], want[1+n] = 0, 1
			if got := after(t, n, []int{p, p, p, p, p, p}).Words(); !slices.Equal(got, want) {
				t.Errorf("of %d, hand %d, line 1 once more: got %v, want %v", n, p, got, want)
			}
		}
	}
}

// lined is a script, and what is told behind the line that ends it.
type lined struct{ name, script, want string }

func checkLines(t *testing.T, n int, cases []lined) {
	t.Helper()
	for _, c := range cases {
		if got := shown(after(t, n, script(c.script)), n); got != c.want {
			t.Errorf("%s: after %s got %s, want %s", c.name, c.script, got, c.want)
		}
	}
}

// TestLinesOf1: a hand that is the only one waits for none, and has one B, then the other.
func TestLinesOf1(t *testing.T) {
	checkLines(t, 1, []lined{
		{"line 1, m is 0", "0", "2 [1 1 0]"},
		{"line 2, T is 1", "00", "3 [0 1 0]"},
		{"line 3", "000", "4 [0 1 0]"},
		{"line 4", "0000", "5 [0 1 0]"},
		{"line 5, a is 1", "0x5", "1 [0 0 0]"},
		{"line 1 once more, m is 1", "0x6", "2 [0 0 1]"},
		{"line 2 once more, T is 0", "0x7", "3 [1 0 1]"},
		{"line 3 once more", "0x8", "4 [1 0 1]"},
		{"line 4 once more", "0x9", "5 [1 0 1]"},
		{"line 5 once more, a is 0", "0x10", "1 [1 0 0]"},
		{"line 1 for the third time, m is 0", "0x11", "2 [1 1 0]"},
		{"in for the third time", "0x13", "4 [0 1 0]"},
	})
}

// TestLinesOf2: each line of either of two hands, both ways where it asks.
func TestLinesOf2(t *testing.T) {
	checkLines(t, 2, []lined{
		{"hand 0, line 1, m is 0", "0", "2 1 [2 1 0 0]"},
		{"hand 0, line 1, the other one has begun", "1 0", "2 2 [2 1 1 0]"},
		{"hand 0, line 1, the other one is in", "111 0", "2 4 [1 1 1 0]"},
		{"hand 0, line 1, the other one is out", "1x5 0", "2 1 [1 1 0 0]"},
		{"hand 0, line 1, m is 2", "0x5 0", "2 1 [0 0 0 1]"},
		{"hand 0, line 1, m is 1", "1x5 0x5 0", "2 1 [0 0 1 0]"},
		{"hand 0, line 2, T is 2, none has come", "00", "3 1 [0 1 0 0]"},
		{"hand 0, line 2, T is 2, the other one has begun", "1 00", "3 2 [0 1 1 0]"},
		{"hand 0, line 2, T is 1, the other one has come", "11 00", "3 3 [0 1 1 0]"},
		{"hand 0, line 2, T is 1, the other one is in", "111 00", "3 4 [0 1 1 0]"},
		{"hand 0, line 2, T is 1, the other one goes out", "1111 00", "3 5 [0 1 1 0]"},
		{"hand 0, line 2, T is 1, the other one is out", "1x5 00", "3 1 [0 1 0 0]"},
		{"hand 0, line 2, T is 1, the other one is out, and has begun", "1x6 00", "3 2 [0 1 0 1]"},
		{"hand 0, line 2, T is 2, the other one was in twice", "1x10 00", "3 1 [0 1 0 0]"},
		{"hand 0, line 2, T is 0, m is 2", "0x7", "3 1 [2 0 0 1]"},
		{"hand 0, line 2, T is 0, m is 1", "1x5 0x7", "3 1 [1 0 1 0]"},
		{"hand 0, line 3, a is 2, B2 is 0", "000", "4 1 [0 1 0 0]"},
		{"hand 0, line 3, a is 2, B2 is 0, the other one has begun", "00 1 0", "4 2 [0 1 1 0]"},
		{"hand 0, line 3, a is 2, B2 is 0, the other one has come", "00 11 0", "4 3 [1 1 1 0]"},
		{"hand 0, line 3, a is 2, B2 is 0, the other one waits", "00 1x5 0", "4 3 [1 1 1 0]"},
		{"hand 0, line 3, a is 1, B1 is 1, the other one may come in", "11 000", "3 3 [0 1 1 0]"},
		{"hand 0, line 3, a is 1, B1 is 1, the other one is in", "111 000", "3 4 [0 1 1 0]"},
		{"hand 0, line 3, a is 1, B1 is 1, the other one goes out", "1111 000", "3 5 [0 1 1 0]"},
		{"hand 0, line 3, a is 1, B1 is still 1", "11 0x9", "3 3 [0 1 1 0]"},
		{"hand 0, line 3, a is 1, B1 is 0", "1x5 000", "4 1 [0 1 0 0]"},
		{"hand 0, line 3, a is 1, B1 is 0 by now", "11 000 111 0", "4 1 [0 1 0 0]"},
		{"hand 0, line 3, a is 1, B1 is 0 by now, the other one has begun with B2", "11 000 1111 0", "4 2 [0 1 0 1]"},
		{"hand 0, line 3, a is 1, B1 is 0 by now, the other one has come with B2", "11 000 111 11 0", "4 3 [2 1 0 1]"},
		{"hand 0, line 3, a is 2, B2 is 1, the other one is in for the second time", "1x8 000", "3 4 [0 1 0 1]"},
		{"hand 0, line 3, a is 2, B2 is 0 by now", "1x8 000 11 0", "4 1 [0 1 0 0]"},
		{"hand 0, line 3, a is 0, B0 is 0", "0x8", "4 1 [2 0 0 1]"},
		{"hand 0, line 4", "0000", "5 1 [0 1 0 0]"},
		{"hand 0, line 4, the other one waits", "000 111 0", "5 3 [1 1 1 0]"},
		{"hand 0, line 5, a is 2", "0x5", "1 1 [0 0 0 0]"},
		{"hand 0, line 5, a is 2, the other one has begun", "0000 1 0", "1 2 [0 0 1 0]"},
		{"hand 0, line 5, a is 2, the other one waits", "0000 111 0", "1 3 [1 0 1 0]"},
		{"hand 0, line 5, a is 1", "1x5 0x5", "1 1 [0 0 0 0]"},
		{"hand 0, line 5, a is 1, the other one waits with B2", "11 000 111 111 000", "1 3 [2 0 0 1]"},
		{"hand 0, line 5, a is 0", "0x10", "1 1 [2 0 0 0]"},
		{"hand 0, line 5, a is 0, the other one waits", "0x9 111 0", "1 3 [1 0 1 0]"},
		{"hand 0, line 1 once more, the other one waits", "00 111 000 0", "2 3 [1 0 1 1]"},
		{"hand 0, line 2 once more, behind the one that waited for it", "00 111 000 00", "3 3 [2 0 1 1]"},
		{"hand 0, line 3 once more, behind the one that waited for it", "00 111 000 000", "3 3 [2 0 1 1]"},
		{"hand 0, line 3 once more, the one that waited for it is out", "00 111 000 00 111 0", "4 1 [2 0 0 1]"},
		{"hand 0, line 5 once more, a is 1", "00 111 000 00 111 000", "1 1 [2 0 0 0]"},

		{"hand 1, line 1, m is 1", "1", "1 2 [2 0 1 0]"},
		{"hand 1, line 1, the other one has begun", "0 1", "2 2 [2 1 1 0]"},
		{"hand 1, line 1, the other one is in", "000 1", "4 2 [0 1 1 0]"},
		{"hand 1, line 1, the other one is out", "0x5 1", "1 2 [0 0 1 0]"},
		{"hand 1, line 1, m is 2", "1x5 1", "1 2 [1 0 0 1]"},
		{"hand 1, line 1, m is 0", "0x5 1x5 1", "1 2 [1 1 0 0]"},
		{"hand 1, line 2, T is 2, none has come", "11", "1 3 [1 0 1 0]"},
		{"hand 1, line 2, T is 2, the other one has begun", "0 11", "2 3 [1 1 1 0]"},
		{"hand 1, line 2, T is 0, the other one has come", "00 11", "3 3 [1 1 1 0]"},
		{"hand 1, line 2, T is 0, the other one is in", "000 11", "4 3 [1 1 1 0]"},
		{"hand 1, line 2, T is 0, the other one goes out", "0000 11", "5 3 [1 1 1 0]"},
		{"hand 1, line 2, T is 0, the other one is out", "0x5 11", "1 3 [1 0 1 0]"},
		{"hand 1, line 2, T is 0, the other one is out, and has begun", "0x6 11", "2 3 [1 0 1 1]"},
		{"hand 1, line 2, T is 2, the other one was in twice", "0x10 11", "1 3 [1 0 1 0]"},
		{"hand 1, line 2, T is 1, m is 2", "1x7", "1 3 [2 0 0 1]"},
		{"hand 1, line 2, T is 1, m is 0", "0x5 1x7", "1 3 [0 1 0 0]"},
		{"hand 1, line 3, a is 2, B2 is 0", "111", "1 4 [1 0 1 0]"},
		{"hand 1, line 3, a is 2, B2 is 0, the other one has begun", "11 0 1", "2 4 [1 1 1 0]"},
		{"hand 1, line 3, a is 2, B2 is 0, the other one has come", "11 00 1", "3 4 [0 1 1 0]"},
		{"hand 1, line 3, a is 2, B2 is 0, the other one waits", "11 0x5 1", "3 4 [0 1 1 0]"},
		{"hand 1, line 3, a is 0, B0 is 1, the other one may come in", "00 111", "3 3 [1 1 1 0]"},
		{"hand 1, line 3, a is 0, B0 is 1, the other one is in", "000 111", "4 3 [1 1 1 0]"},
		{"hand 1, line 3, a is 0, B0 is 1, the other one goes out", "0000 111", "5 3 [1 1 1 0]"},
		{"hand 1, line 3, a is 0, B0 is still 1", "00 1x9", "3 3 [1 1 1 0]"},
		{"hand 1, line 3, a is 0, B0 is 0", "0x5 111", "1 4 [1 0 1 0]"},
		{"hand 1, line 3, a is 0, B0 is 0 by now", "00 111 000 1", "1 4 [1 0 1 0]"},
		{"hand 1, line 3, a is 0, B0 is 0 by now, the other one has begun with B2", "00 111 0000 1", "2 4 [1 0 1 1]"},
		{"hand 1, line 3, a is 0, B0 is 0 by now, the other one has come with B2", "00 111 000 00 1", "3 4 [2 0 1 1]"},
		{"hand 1, line 3, a is 2, B2 is 1, the other one is in for the second time", "0x8 111", "4 3 [1 0 1 1]"},
		{"hand 1, line 3, a is 2, B2 is 0 by now", "0x8 111 00 1", "1 4 [1 0 1 0]"},
		{"hand 1, line 3, a is 1, B1 is 0", "1x8", "1 4 [2 0 0 1]"},
		{"hand 1, line 4", "1111", "1 5 [1 0 1 0]"},
		{"hand 1, line 4, the other one waits", "111 000 1", "3 5 [0 1 1 0]"},
		{"hand 1, line 5, a is 2", "1x5", "1 1 [1 0 0 0]"},
		{"hand 1, line 5, a is 2, the other one has begun", "1111 0 1", "2 1 [1 1 0 0]"},
		{"hand 1, line 5, a is 2, the other one waits", "1111 000 1", "3 1 [0 1 0 0]"},
		{"hand 1, line 5, a is 0", "0x5 1x5", "1 1 [1 0 0 0]"},
		{"hand 1, line 5, a is 0, the other one waits with B2", "00 111 000 000 111", "3 1 [2 0 0 1]"},
		{"hand 1, line 5, a is 1", "1x10", "1 1 [2 0 0 0]"},
		{"hand 1, line 5, a is 1, the other one waits", "1x9 000 1", "3 1 [0 1 0 0]"},
		{"hand 1, line 1 once more, the other one waits", "11 000 111 1", "3 2 [0 1 0 1]"},
		{"hand 1, line 2 once more, behind the one that waited for it", "11 000 111 11", "3 3 [2 1 0 1]"},
		{"hand 1, line 3 once more, behind the one that waited for it", "11 000 111 111", "3 3 [2 1 0 1]"},
		{"hand 1, line 3 once more, the one that waited for it is out", "11 000 111 11 000 1", "1 4 [2 0 0 1]"},
		{"hand 1, line 5 once more, a is 0", "11 000 111 11 000 111", "1 1 [2 0 0 0]"},
	})
}

// TestLinesOf3: what each line does, and whose B it asks, where there are two others.
func TestLinesOf3(t *testing.T) {
	checkLines(t, 3, []lined{
		{"line 1", "1", "1 2 1 [3 0 1 0 0]"},
		{"line 1, both others wait", "00 222 1", "3 2 3 [2 1 1 1 0]"},
		{"line 1, m is 3", "1x5 1", "1 2 1 [1 0 0 0 1]"},
		{"line 1, m is 0", "0x5 1x5 1", "1 2 1 [1 1 0 0 0]"},
		{"line 1, m is 2, the last of three", "00 222 11 000 222 111 1", "1 2 1 [1 0 0 1 0]"},
		{"line 2, T is 3", "11", "1 3 1 [1 0 1 0 0]"},
		{"line 2, T is 0", "00 11", "3 3 1 [1 1 1 0 0]"},
		{"line 2, T is 2", "22 11", "1 3 3 [1 0 1 1 0]"},
		{"line 2, T is 2, behind hand 0", "00 22 11", "3 3 3 [1 1 1 1 0]"},
		{"line 2, T is 0, behind hand 2", "22 00 11", "3 3 3 [1 1 1 1 0]"},
		{"line 2, T is 2, hand 0 is out", "00 22 000 11", "1 3 3 [1 0 1 1 0]"},
		{"line 2, T is 2, both are out", "00 22 000 222 11", "1 3 1 [1 0 1 0 0]"},
		{"line 2, T is 1, m is 3", "1x7", "1 3 1 [3 0 0 0 1]"},
		{"line 3, B2 is 1, hand 2 may come in", "22 111", "1 3 3 [1 0 1 1 0]"},
		{"line 3, B2 is 1, hand 2 waits", "00 22 111", "3 3 3 [1 1 1 1 0]"},
		{"line 3, B2 is 1, hand 0 is out, and hand 2 may come in", "00 22 11 000 1", "1 3 3 [1 0 1 1 0]"},
		{"line 3, B2 is 1, hand 2 is in", "00 22 11 000 2 1", "1 3 4 [1 0 1 1 0]"},
		{"line 3, B2 is 0, both are out", "00 22 11 000 222 1", "1 4 1 [1 0 1 0 0]"},
		{"line 3, B2 is 0, and B0 and B3 are 1", "00 22 11 000 222 0 2 1", "2 4 2 [1 1 1 0 1]"},
		{"line 3, B2 is 1, and B0 is not", "00 22 11 000 0x9 1", "3 3 3 [3 0 1 1 1]"},
		{"line 3, B0 is 1, and B2 is too", "22 00 111", "3 3 3 [1 1 1 1 0]"},
		{"line 3, B0 is 1, and B2 is not", "22 00 11 222 1", "3 3 1 [1 1 1 0 0]"},
		{"line 3, B3 is 0, both others wait", "11 000 222 1", "3 4 3 [2 1 1 1 0]"},
		{"line 3, B3 is 1, hand 2 is in for the second time", "2x8 111", "1 3 4 [1 0 1 0 1]"},
		{"line 4", "111 0 2 1", "2 5 2 [1 1 1 1 0]"},
		{"line 4, both others wait", "111 000 222 1", "3 5 3 [2 1 1 1 0]"},
		{"line 5, a is 3", "1x5", "1 1 1 [1 0 0 0 0]"},
		{"line 5, a is 3, both others wait", "11 000 222 111", "3 1 3 [2 1 0 1 0]"},
		{"line 5, a is 0", "0x5 1x5", "1 1 1 [1 0 0 0 0]"},
		{"line 5, a is 0, hand 2 waits", "00 11 222 000 111", "1 1 3 [2 0 0 1 0]"},
		{"line 5, a is 2, hand 0 waits", "22 11 000 222 111", "3 1 1 [0 1 0 0 0]"},
		{"line 5, a is 2, the last of three", "00 22 11 000 222 111", "1 1 1 [1 0 0 0 0]"},
		{"the last of three: hand 2 stays", "11 00 22 111 2", "3 1 3 [2 1 0 1 0]"},
		{"the last of three: hand 2 stays behind one that is in", "11 00 22 111 0 2", "4 1 3 [2 1 0 1 0]"},
		{"the last of three: hand 2 is in", "11 00 22 111 000 2", "1 1 4 [2 0 0 1 0]"},
		{"the last of three: hand 2 is out", "11 00 22 111 000 222", "1 1 1 [2 0 0 0 0]"},
	})
}

// TestLinesOf4: one hand alone, behind one other, and four that came one by one, twice.
func TestLinesOf4(t *testing.T) {
	checkLines(t, 4, []lined{
		{"hand 3, line 1", "3", "1 1 1 2 [4 0 0 0 1 0]"},
		{"hand 3, line 2", "33", "1 1 1 3 [3 0 0 0 1 0]"},
		{"hand 3, line 3", "333", "1 1 1 4 [3 0 0 0 1 0]"},
		{"hand 3, line 4", "3333", "1 1 1 5 [3 0 0 0 1 0]"},
		{"hand 3, line 5", "3x5", "1 1 1 1 [3 0 0 0 0 0]"},
		{"hand 3, in once more", "3x8", "1 1 1 4 [4 0 0 0 0 1]"},
		{"hand 3, out once more", "3x10", "1 1 1 1 [4 0 0 0 0 0]"},
		{"hand 3, behind hand 0", "00 333", "3 1 1 3 [3 1 0 0 1 0]"},
		{"hand 3, behind hand 2", "22 333", "1 1 3 3 [3 0 0 1 1 0]"},
		{"hand 0, behind hand 3", "33 000", "3 1 1 3 [0 1 0 0 1 0]"},
		{"one by one, all have come", "33 22 11 00", "3 3 3 3 [0 1 1 1 1 0]"},
		{"one by one, none goes on but the first one", "33 22 11 00 0 1 2", "3 3 3 3 [0 1 1 1 1 0]"},
		{"one by one, the first one is in", "33 22 11 00 0 1 2 3", "3 3 3 4 [0 1 1 1 1 0]"},
		{"one by one, the first one is out", "33 22 11 00 333", "3 3 3 1 [0 1 1 1 0 0]"},
		{"one by one, the second one is in", "33 22 11 00 333 0 1 2", "3 3 4 1 [0 1 1 1 0 0]"},
		{"one by one, the second one is out", "33 22 11 00 333 222", "3 3 1 1 [0 1 1 0 0 0]"},
		{"one by one, the third one is in", "33 22 11 00 333 222 0 1", "3 4 1 1 [0 1 1 0 0 0]"},
		{"one by one, the third one is out", "33 22 11 00 333 222 111", "3 1 1 1 [0 1 0 0 0 0]"},
		{"one by one, the last one is in", "33 22 11 00 333 222 111 0", "4 1 1 1 [0 1 0 0 0 0]"},
		{"one by one, all are out", "33 22 11 00 333 222 111 000", "1 1 1 1 [0 0 0 0 0 0]"},
		{"one by one, all have begun again", "33 22 11 00 333 222 111 000 0 1 2 3", "2 2 2 2 [0 0 1 1 1 1]"},
		{"one by one, the first one has come again", "33 22 11 00 333 33", "3 3 3 3 [4 1 1 1 0 1]"},
		{"one by one, all have come again", "33 22 11 00 333 33 222 22 111 11 000 00", "3 3 3 3 [1 0 1 1 1 1]"},
		{"one by one, all but the first one stay", "33 22 11 00 333 33 222 22 111 11 000 00 2 1 0", "3 3 3 3 [1 0 1 1 1 1]"},
		{"one by one, the first one is in again", "33 22 11 00 333 33 222 22 111 11 000 00 2 1 0 3", "3 3 3 4 [1 0 1 1 1 1]"},
		{"one by one, all are out again", "33 22 11 00 333 33 222 22 111 11 000 00 333 222 111 000", "1 1 1 1 [1 0 0 0 0 0]"},
		{"the other way round after that, all have come", "33 22 11 00 333 222 111 000 00 11 22 33", "3 3 3 3 [4 0 1 1 1 1]"},
		{"the other way round after that, the second one is in", "33 22 11 00 333 222 111 000 00 11 22 33 000 3 2 1", "1 4 3 3 [4 0 0 1 1 1]"},
	})
}

// TestOwnStays: m and a of hand 1 stay its own, at whatever line it is, while others come ahead of it and behind it, round after round.
func TestOwnStays(t *testing.T) {
	checkLines(t, 3, []lined{
		{"line 1, m is 1, one more has come", "00 22 1", "3 2 3 [2 1 1 1 0]"},
		{"line 1, m is 1, the others were in many times", "0x5 2x5 2x5 0x5 2x5 1", "1 2 1 [2 0 1 0 0]"},
		{"line 1, m is 1, the others were in many times: hand 2 stays behind it", "0x5 2x5 2x5 0x5 2x5 11 222", "1 3 3 [3 0 1 0 1]"},
		{"line 2, m is 1, one comes ahead of it", "00 1 22 1", "3 3 3 [1 1 1 1 0]"},
		{"line 2, m is 1, another one was in twice", "1 0x10 1", "1 3 1 [1 0 1 0 0]"},
		{"line 2, m is 1, another one was in twice: it comes in, and is out", "1 0x10 1111", "1 1 1 [1 0 0 0 0]"},
		{"line 2, a is 2 then: it stays", "00 1 22 000 11", "1 3 3 [1 0 1 1 0]"},
		{"line 2, a is 2 then: it comes in", "00 1 22 000 1 222 1", "1 4 1 [1 0 1 0 0]"},
		{"line 3, a is 0, and not 2: it stays", "00 11 22 1", "3 3 3 [2 1 1 1 0]"},
		{"line 3, a is 0, and not 2: it comes in", "00 11 22 000 1", "1 4 3 [2 0 1 1 0]"},
		{"line 3, one begins behind it, and stays", "00 11 22 000 2 1", "1 4 3 [2 0 1 1 0]"},
		{"line 3, the one ahead begins again", "00 11 22 0000 1", "2 4 3 [2 0 1 1 1]"},
		{"line 3, the one ahead comes again, behind both", "00 11 22 000 00 1", "3 4 3 [3 0 1 1 1]"},
		{"line 3, the one ahead comes again, and stays", "00 11 22 000 00 0 1", "3 4 3 [3 0 1 1 1]"},
		{"line 4, one comes while it is in, and stays", "00 11 000 1 222", "1 4 3 [2 0 1 1 0]"},
		{"line 4, both come while it is in", "00 11 000 1 00 22 1", "3 5 3 [2 0 1 1 1]"},
		{"line 5, m is 1, both come while it is there", "00 11 000 11 00 22 1", "3 1 3 [2 0 0 1 1]"},
		{"line 5, m is 1: the first one behind it comes in", "00 11 000 11 00 22 1 2 0", "4 1 3 [2 0 0 1 1]"},
		{"second round, line 1, m is 0", "00 11 000 11 00 22 1 1", "3 2 3 [2 1 0 1 1]"},
		{"second round, line 1, m is 0, one is out and has come again ahead of it", "00 11 000 11 00 22 1 000 00 1", "3 2 3 [1 1 1 1 0]"},
		{"second round, line 2, m is 0", "00 11 000 11 00 22 1 11", "3 3 3 [0 1 0 1 1]"},
		{"second round, line 2, m is 0, one is out and has come again ahead of it", "00 11 000 11 00 22 1 1 000 00 1", "3 3 3 [0 1 1 1 0]"},
		{"second round, line 3, a is 2: it stays, hand 0 is in", "00 11 000 11 00 22 1 11 0 2 1", "4 3 3 [0 1 0 1 1]"},
		{"second round, line 3, a is 2: it stays, hand 0 is out", "00 11 000 11 00 22 1 11 000 1", "1 3 3 [0 1 0 1 0]"},
		{"second round, line 3, a is 2: it stays, hand 0 has come behind it", "00 11 000 11 00 22 1 11 000 00 1 2", "3 3 4 [1 1 1 1 0]"},
		{"second round, line 3, a is 2: it comes in, both have come behind it", "00 11 000 11 00 22 1 11 000 00 222 22 0 2 1", "3 4 3 [3 1 1 0 1]"},
		{"second round, line 4, both have come behind it", "00 11 000 11 00 22 1 11 000 00 222 22 1 0 2 1", "3 5 3 [3 1 1 0 1]"},
		{"second round, line 5, m is 0, both have come behind it", "00 11 000 11 00 22 1 11 000 00 222 22 11 0 2 1", "3 1 3 [3 0 1 0 1]"},
		{"third round, line 1, m is 2", "00 11 000 11 00 22 1 11 000 00 222 22 111 1", "3 2 3 [3 0 1 1 1]"},
		{"third round, line 2, m is 2", "00 11 000 11 00 22 1 11 000 00 222 22 111 11", "3 3 3 [2 0 1 1 1]"},
		{"third round, line 5, m is 2", "00 11 000 11 00 22 1 11 000 00 222 22 111 11 000 222 111", "1 1 1 [2 0 0 0 0]"},
		{"fourth round, line 1, m is 3", "00 11 000 11 00 22 1 11 000 00 222 22 111 11 000 222 111 1", "1 2 1 [2 0 0 0 1]"},
	})
	checkLines(t, 4, []lined{
		{"two have come behind it: it comes in, and they stay", "00 11 33 22 000 3 2 1", "1 4 3 3 [2 0 1 1 1 0]"},
		{"two have come behind it: it is out, and the first of them comes in", "00 11 33 22 000 111 2 3", "1 1 3 4 [2 0 0 1 1 0]"},
		{"all others have come behind it: it comes in, and they stay", "00 11 33 22 000 00 3 2 0 1", "3 4 3 3 [4 0 1 1 1 1]"},
		{"all others have come behind it: it is out, m was 1", "00 11 33 22 000 00 111", "3 1 3 3 [4 0 0 1 1 1]"},
		{"second round, all others are ahead, line 1: m is 0", "00 11 33 22 000 00 111 1", "3 2 3 3 [4 1 0 1 1 1]"},
		{"second round, all others are ahead, line 2: m is 0", "00 11 33 22 000 00 111 11", "3 3 3 3 [0 1 0 1 1 1]"},
		{"second round, all others are ahead, line 3: it stays", "00 11 33 22 000 00 111 11 1 3 1", "3 3 3 4 [0 1 0 1 1 1]"},
		{"second round, all others are ahead, line 3: it stays, a is 4", "00 11 33 22 000 00 111 11 333 222 1", "3 3 1 1 [0 1 0 0 0 1]"},
		{"second round, all others are out, line 3: it comes in", "00 11 33 22 000 00 111 11 333 222 000 1", "1 4 1 1 [0 1 0 0 0 0]"},
		{"second round, all others have come behind it, line 5: m is 0", "00 11 33 22 000 00 111 11 333 33 222 22 000 00 111", "3 1 3 3 [2 0 1 1 1 0]"},
		{"third round, all others are ahead, line 1: m is 4", "00 11 33 22 000 00 111 11 333 33 222 22 000 00 111 1", "3 2 3 3 [2 0 1 1 1 1]"},
		{"third round, all others are ahead, line 2: m is 4", "00 11 33 22 000 00 111 11 333 33 222 22 000 00 111 11", "3 3 3 3 [4 0 1 1 1 1]"},
	})
}

// TestRoundsAlone: hands that are in and out again one by one, in turn, round after round: each has the B that the one ahead of it had the time before, so that all B are gone through, one by one.
func TestRoundsAlone(t *testing.T) {
	for n := 1; n <= api.MaxHands; n++ {
		l := fresh(t, n)
		for turn := range 3000 {
			p, own := turn%n, turn%(n+1)
			for _, line := range []int{2, 3, 4, 5} {
				step(t, l, p)
				if words := l.Words(); l.At(p) != line || words[1+own] != 1 || line > 2 && words[0] != own {
					t.Fatalf("of %d, turn %d: got %s, want hand %d at line %d, with B%d", n, turn, shown(l, n), p, line, own)
				}
			}
			step(t, l, p)
			want := make([]int, n+2)
			want[0] = own
			if got := l.Words(); l.At(p) != 1 || !slices.Equal(got, want) {
				t.Fatalf("of %d, turn %d: got %s, want hand %d at line 1, and %v", n, turn, shown(l, n), p, want)
			}
		}
	}
}

// TestRoundsBehind: hands that all come again as soon as they are out, round after round: all but the first one stay, and all B are 1 but the one that it has looked at.
func TestRoundsBehind(t *testing.T) {
	for n := 1; n <= api.MaxHands; n++ {
		l := fresh(t, n)
		for p := range n {
			step(t, l, p)
			step(t, l, p)
		}
		for turn := range 3000 {
			first := turn % n
			for q := range n - 1 {
				step(t, l, (first+1+q)%n)
			}
			want := slices.Repeat([]int{1}, n+2)
			want[0], want[1+(turn+n)%(n+1)] = (turn+n-1)%(n+1), 0
			if got := l.Words(); !slices.Equal(got, want) {
				t.Fatalf("of %d, turn %d: got %v, want %v", n, turn, got, want)
			}
			for p := range n {
				if l.At(p) != 3 {
					t.Fatalf("of %d, turn %d: hand %d is at line %d", n, turn, p, l.At(p))
				}
			}
			for range 5 {
				step(t, l, first)
			}
		}
	}
}

// TestScripts: what is told step by step.
func TestScripts(t *testing.T) {
	for _, c := range []struct {
		name   string
		n      int
		script string
		want   []string
	}{
		{"one hand, three times round", 1, "0x15", []string{
			"2 [1 1 0]", "3 [0 1 0]", "4 [0 1 0]", "5 [0 1 0]", "1 [0 0 0]",
			"2 [0 0 1]", "3 [1 0 1]", "4 [1 0 1]", "5 [1 0 1]", "1 [1 0 0]",
			"2 [1 1 0]", "3 [0 1 0]", "4 [0 1 0]", "5 [0 1 0]", "1 [0 0 0]",
		}},
		{"two hands, turn by turn", 2, "01 01 01 01 01 01 01 01 01 01 01 01 01", []string{
			"2 1 [2 1 0 0]", "2 2 [2 1 1 0]", "3 2 [0 1 1 0]", "3 3 [1 1 1 0]", "4 3 [1 1 1 0]", "4 3 [1 1 1 0]",
			"5 3 [1 1 1 0]", "5 3 [1 1 1 0]", "1 3 [1 0 1 0]", "1 4 [1 0 1 0]", "2 4 [1 0 1 1]", "2 5 [1 0 1 1]",
			"3 5 [2 0 1 1]", "3 1 [2 0 0 1]", "4 1 [2 0 0 1]", "4 2 [2 1 0 1]", "5 2 [2 1 0 1]", "5 3 [0 1 0 1]",
			"1 3 [0 1 0 0]", "1 4 [0 1 0 0]", "2 4 [0 1 1 0]", "2 5 [0 1 1 0]", "3 5 [1 1 1 0]", "3 1 [1 0 1 0]",
			"4 1 [1 0 1 0]", "4 2 [1 0 1 1]",
		}},
		{"three hands", 3, "1 0 1 2 2 0 1 0 1 2 1 1 0 1 2 2 1 2 0 2 1 0 0 0 2 1 1 1 1 1", []string{
			"1 2 1 [3 0 1 0 0]", "2 2 1 [3 1 1 0 0]", "2 3 1 [1 1 1 0 0]", "2 3 2 [1 1 1 1 0]", "2 3 3 [2 1 1 1 0]", "3 3 3 [0 1 1 1 0]",
			"3 4 3 [0 1 1 1 0]", "3 4 3 [0 1 1 1 0]", "3 5 3 [0 1 1 1 0]", "3 5 3 [0 1 1 1 0]", "3 1 3 [0 1 0 1 0]", "3 2 3 [0 1 0 1 1]",
			"3 2 3 [0 1 0 1 1]", "3 3 3 [3 1 0 1 1]", "3 3 4 [3 1 0 1 1]", "3 3 5 [3 1 0 1 1]", "3 3 5 [3 1 0 1 1]", "3 3 1 [3 1 0 0 1]",
			"4 3 1 [3 1 0 0 1]", "4 3 2 [3 1 1 0 1]", "4 3 2 [3 1 1 0 1]", "5 3 2 [3 1 1 0 1]", "1 3 2 [3 0 1 0 1]", "2 3 2 [3 0 1 1 1]",
			"2 3 3 [1 0 1 1 1]", "2 4 3 [1 0 1 1 1]", "2 5 3 [1 0 1 1 1]", "2 1 3 [1 0 1 1 0]", "2 2 3 [1 1 1 1 0]", "2 3 3 [0 1 1 1 0]",
		}},
		{"four hands", 4, "3 1 1 0 3 0 2 3 1 2 1 1 3 1 0 1 2 3 3 0 3 3 0 0 2 0 2 2 1 0 2 1", []string{
			"1 1 1 2 [4 0 0 0 1 0]", "1 2 1 2 [4 0 1 0 1 0]", "1 3 1 2 [1 0 1 0 1 0]", "2 3 1 2 [1 1 1 0 1 0]",
			"2 3 1 3 [3 1 1 0 1 0]", "3 3 1 3 [0 1 1 0 1 0]", "3 3 2 3 [0 1 1 1 1 0]", "3 3 2 3 [0 1 1 1 1 0]",
			"3 4 2 3 [0 1 1 1 1 0]", "3 4 3 3 [2 1 1 1 1 0]", "3 5 3 3 [2 1 1 1 1 0]", "3 1 3 3 [2 1 0 1 1 0]",
			"3 1 3 4 [2 1 0 1 1 0]", "3 2 3 4 [2 1 0 1 1 1]", "3 2 3 4 [2 1 0 1 1 1]", "3 3 3 4 [4 1 0 1 1 1]",
			"3 3 3 4 [4 1 0 1 1 1]", "3 3 3 5 [4 1 0 1 1 1]", "3 3 3 1 [4 1 0 1 0 1]", "4 3 3 1 [4 1 0 1 0 1]",
			"4 3 3 2 [4 1 1 1 0 1]", "4 3 3 3 [1 1 1 1 0 1]", "5 3 3 3 [1 1 1 1 0 1]", "1 3 3 3 [1 0 1 1 0 1]",
			"1 3 4 3 [1 0 1 1 0 1]", "2 3 4 3 [1 0 1 1 1 1]", "2 3 5 3 [1 0 1 1 1 1]", "2 3 1 3 [1 0 1 0 1 1]",
			"2 4 1 3 [1 0 1 0 1 1]", "3 4 1 3 [3 0 1 0 1 1]", "3 4 2 3 [3 1 1 0 1 1]", "3 5 2 3 [3 1 1 0 1 1]",
		}},
	} {
		l := fresh(t, c.n)
		steps := script(c.script)
		if len(steps) != len(c.want) {
			t.Fatalf("%s: %d steps, and %d wanted", c.name, len(steps), len(c.want))
		}
		for i, p := range steps {
			if err := l.Step(p); err != nil || shown(l, c.n) != c.want[i] {
				t.Errorf("%s, step %d: got %s %v, want %s", c.name, i, shown(l, c.n), err, c.want[i])
			}
		}
	}
}

// TestNoHand: wherever the hands stand, Step of a hand that is none tells ErrRange and changes nothing, then or later, and it stands at 0.
func TestNoHand(t *testing.T) {
	for n := 1; n <= api.MaxHands; n++ {
		steps := drawn(n, 120)
		l := fresh(t, n)
		for i := range len(steps) + 1 {
			for _, p := range noHands(n) {
				if err := l.Step(p); plain.Told(err) != api.ErrRange {
					t.Errorf("of %d, after %v: step of %d: got %v", n, steps[:i], p, err)
				}
				if got := l.At(p); got != 0 {
					t.Errorf("of %d, after %v: %d stands at %d", n, steps[:i], p, got)
				}
			}
			if got, want := shown(l, n), shown(after(t, n, steps[:i]), n); got != want {
				t.Errorf("of %d, after %v, and those that are no hands: got %s, want %s", n, steps[:i], got, want)
			}
			if i < len(steps) {
				step(t, l, steps[i])
			}
		}
	}
}

// TestAsked: to ask changes nothing.
func TestAsked(t *testing.T) {
	for n := 1; n <= api.MaxHands; n++ {
		steps := drawn(n, 120)
		l := fresh(t, n)
		for i, p := range steps {
			for range 3 {
				for q := -1; q <= n; q++ {
					l.At(q)
				}
				l.Words()
			}
			step(t, l, p)
			if got, want := shown(l, n), shown(after(t, n, steps[:i+1]), n); got != want {
				t.Errorf("of %d, after %v: got %s, want %s", n, steps[:i+1], got, want)
			}
		}
	}
}

// TestWordsFresh: Words are fresh memory each time: what is written into them, or behind them, is not seen, nor are they changed by what comes after.
func TestWordsFresh(t *testing.T) {
	for n := 1; n <= api.MaxHands; n++ {
		steps := drawn(n, 60)
		l, same := after(t, n, steps), after(t, n, steps)
		want := slices.Clone(same.Words())
		if len(want) != n+2 {
			t.Fatalf("for %d hands there are the words %v", n, want)
		}
		one, other := l.Words(), l.Words()
		for i := range one[:cap(one)] {
			one[:cap(one)][i] = -7
		}
		if !slices.Equal(other, want) || !slices.Equal(l.Words(), want) {
			t.Errorf("of %d: written into one answer, others are %v and %v, want %v", n, other, l.Words(), want)
		}
		for _, p := range drawn(n, 60) {
			step(t, l, p)
			step(t, same, p)
			if got, want := shown(l, n), shown(same, n); got != want {
				t.Fatalf("of %d: written into what was told, got %s, want %s", n, got, want)
			}
		}
		if !slices.Equal(other, want) {
			t.Errorf("of %d: what was told before is %v, and was %v", n, other, want)
		}
	}
}

// TestApart: two locks share nothing, for as many hands or not, and a new one tells nothing of those before.
func TestApart(t *testing.T) {
	for n := 1; n <= api.MaxHands; n++ {
		for m := 1; m <= api.MaxHands; m++ {
			one, other := fresh(t, n), fresh(t, m)
			first, second := drawn(n, 60), drawn(m, 90)[30:]
			for i := range first {
				step(t, one, first[i])
				if got, want := shown(other, m), shown(after(t, m, second[:i]), m); got != want {
					t.Errorf("step %d of one lock for %d: the other one is %s, want %s", i, n, got, want)
				}
				step(t, other, second[i])
				if got, want := shown(one, n), shown(after(t, n, first[:i+1]), n); got != want {
					t.Errorf("step %d of the other lock for %d: the one is %s, want %s", i, m, got, want)
				}
			}
			want := fmt.Sprint(strings.Repeat("1 ", n), "[", n, strings.Repeat(" 0", n+1), "]")
			if got := shown(fresh(t, n), n); got != want {
				t.Errorf("a new one for %d is %s, want %s", n, got, want)
			}
		}
	}
}

// ExampleLock: hand 0 is in, hand 1 waits for it, and hand 2 has not come yet.
func ExampleLock() {
	l, err := clh.New(3)
	if err != nil {
		fmt.Println(err)
	}
	for _, p := range []int{0, 0, 1, 1, 1, 0, 2} {
		if err := l.Step(p); err != nil {
			fmt.Println(err)
		}
	}
	fmt.Println(l.At(0), l.At(1), l.At(2), l.Words())
	fmt.Println(l.Step(3), l.At(3))
	_, err = clh.New(5)
	fmt.Println(err)
	// Output:
	// 4 3 2 [1 1 1 1 0]
	// ErrRange 0
	// ErrRange
}
