package mcs_test

import (
	"fmt"
	"math"
	"slices"
	"strconv"
	"strings"
	"testing"

	"latchgarth/api"
	"latchgarth/mcs"
	"latchgarth/plain"
)

// noHands are numbers that are no hands of a lock for n.
func noHands(n int) []int {
	return []int{
		-1, n, n + 1, 4, 5, 7, 8, -2, -n, -n - 1, 256, 257, 1 << 32, 1<<32 + 1,
		math.MinInt, math.MinInt + 1, math.MaxInt - 1, math.MaxInt,
	}
}

// fresh is a new lock for n hands, of which there may be so many.
func fresh(t *testing.T, n int) *mcs.Lock {
	t.Helper()
	l, err := mcs.New(n)
	if err != nil {
		t.Fatalf("new lock for %d: got %v", n, err)
	}
	return l
}

// shown is all that a lock for n hands tells: where they stand, and its words.
func shown(l *mcs.Lock, n int) string {
	out := ""
	for p := range n {
		out += fmt.Sprint(l.At(p), " ")
	}
	return out + fmt.Sprint(l.Words())
}

// step of a hand that is one.
func step(t *testing.T, l *mcs.Lock, p int) {
	t.Helper()
	if err := l.Step(p); err != nil {
		t.Fatalf("step of hand %d, words %v: got %v", p, l.Words(), err)
	}
}

// script of hands, a digit each, or 0x7: hand 0 seven times; spaces are for the eye.
func script(text string) []int {
	var out []int
	for _, part := range strings.Fields(text) {
		hand, times, many := strings.Cut(part, "x")
		if many {
			count, err := strconv.Atoi(times)
			if err != nil {
				panic(err)
			}
			hand = strings.Repeat(hand, count)
		}
		for _, c := range hand {
			out = append(out, int(c-'0'))
		}
	}
	return out
}

// after is a new lock for n hands after a script of them.
func after(t *testing.T, n int, script []int) *mcs.Lock {
	t.Helper()
	l := fresh(t, n)
	for _, p := range script {
		step(t, l, p)
	}
	return l
}

// TestNew: for each number of hands that may be, all stand at line 1, and all words, one and two for each hand, are 0.
func TestNew(t *testing.T) {
	for i, want := range []string{
		"1 [0 0 0]", "1 1 [0 0 0 0 0]", "1 1 1 [0 0 0 0 0 0 0]", "1 1 1 1 [0 0 0 0 0 0 0 0 0]",
	} {
		n := i + 1
		l, err := mcs.New(n)
		if err != nil || l == nil {
			t.Fatalf("for %d hands: got %v %v", n, l, err)
		}
		if got := shown(l, n); got != want {
			t.Errorf("for %d hands: got %s, want %s", n, got, want)
		}
	}
}

// TestNewNone: for any other number there is no lock, and ErrRange is told.
func TestNewNone(t *testing.T) {
	for _, n := range []int{
		0, -1, -2, -4, 5, 6, 8, 255, 256, 257, 1 << 32, 1<<32 + 1, -1 << 32, 1 - 1<<32,
		math.MinInt, math.MinInt + 1, math.MaxInt - 1, math.MaxInt,
	} {
		if l, err := mcs.New(n); plain.Told(err) != api.ErrRange || l != nil {
			t.Errorf("for %d hands: got %v %v", n, l, err)
		}
	}
}

// lined is a script, and what is told behind the line that ends it.
type lined struct{ name, script, want string }

func checkLines(t *testing.T, n int, cases []lined) {
	t.Helper()
	for _, c := range cases {
		if got := shown(after(t, n, script(c.script)), n); got != c.want {
			t.Errorf("%s: after %s got %s, want %s", c.name, c.script, got, c.want)
		}
	}
}

// TestLinesOf1: a hand that is the only one waits for none.
func TestLinesOf1(t *testing.T) {
	checkLines(t, 1, []lined{
		{"line 1", "0", "2 [0 0 0]"},
		{"line 2, T is 0", "00", "6 [1 0 0]"},
		{"line 6", "000", "7 [1 0 0]"},
		{"line 7, S0 is 0", "0000", "8 [1 0 0]"},
		{"line 8, T is 1", "0x5", "1 [0 0 0]"},
		{"line 1 once more", "0x6", "2 [0 0 0]"},
		{"line 2 once more", "0x7", "6 [1 0 0]"},
		{"line 6 once more", "0x8", "7 [1 0 0]"},
		{"line 7 once more", "0x9", "8 [1 0 0]"},
		{"line 8 once more", "0x10", "1 [0 0 0]"},
		{"in for the third time", "0x12", "6 [1 0 0]"},
	})
}

// TestLinesOf2: each line of either of two hands, both ways where it asks.
func TestLinesOf2(t *testing.T) {
	checkLines(t, 2, []lined{
		{"hand 0, line 1", "0", "2 1 [0 0 0 0 0]"},
		{"hand 0, line 1, the other one is in", "11 0", "2 6 [2 0 0 0 0]"},
		{"hand 0, line 1, S0 was 2", "00 1111 000 0", "2 5 [2 0 0 0 0]"},
		{"hand 0, line 1, S1 stays", "11 0000 111 0x4 0", "2 1 [0 0 0 0 1]"},
		{"hand 0, line 2, T is 0", "00", "6 1 [1 0 0 0 0]"},
		{"hand 0, line 2, T is 0, the other one was in", "1x5 00", "6 1 [1 0 0 0 0]"},
		{"hand 0, line 2, T is 0, the other one has begun", "1 00", "6 2 [1 0 0 0 0]"},
		{"hand 0, line 2, T is 2, the other one is in", "11 00", "3 6 [1 0 0 0 0]"},
		{"hand 0, line 2, T is 2, the other one goes out", "1111 00", "3 8 [1 0 0 0 0]"},
		{"hand 0, line 2, T is 2, the other one waits", "00 1111 000 00", "3 5 [1 0 0 0 0]"},
		{"hand 0, line 3", "11 000", "4 6 [1 1 0 0 0]"},
		{"hand 0, line 3, the other one goes out", "11 00 111 0", "4 9 [1 1 0 0 0]"},
		{"hand 0, line 4", "11 0x4", "5 6 [1 1 0 0 1]"},
		{"hand 0, line 4, the other one goes out", "11 000 111 0", "5 9 [1 1 0 0 1]"},
		{"hand 0, line 5, W0 is 1", "11 0x5", "5 6 [1 1 0 0 1]"},
		{"hand 0, line 5, W0 is still 1", "11 0x9", "5 6 [1 1 0 0 1]"},
		{"hand 0, line 5, W0 is 1, the other one goes out", "11 0x4 11 0", "5 10 [1 1 0 0 1]"},
		{"hand 0, line 5, W0 is 0 by now", "11 0x4 111 0", "6 1 [1 0 0 0 1]"},
		{"hand 0, line 5, W0 is 0 by now, and the other one waits", "11 0x4 111 1111 0", "6 5 [2 0 1 2 0]"},
		{"hand 0, line 6", "000", "7 1 [1 0 0 0 0]"},
		{"hand 0, line 6, the other one waits", "00 1111 0", "7 5 [2 0 1 2 0]"},
		{"hand 0, line 7, S0 is 0", "0000", "8 1 [1 0 0 0 0]"},
		{"hand 0, line 7, S0 is 0, the other one has begun", "00 1 00", "8 2 [1 0 0 0 0]"},
		{"hand 0, line 7, S0 is 0, the other one has come", "00 11 00", "8 3 [2 0 0 0 0]"},
		{"hand 0, line 7, S0 is 0, the other one says that it waits", "00 111 00", "8 4 [2 0 1 0 0]"},
		{"hand 0, line 7, S0 is 2", "00 1111 00", "10 5 [2 0 1 2 0]"},
		{"hand 0, line 7, S0 is 2 by now", "000 1111 0", "10 5 [2 0 1 2 0]"},
		{"hand 0, line 7, S0 was 2 the time before", "00 1111 000 1111 0000", "8 1 [1 0 0 0 0]"},
		{"hand 0, line 8, T is 1", "0x5", "1 1 [0 0 0 0 0]"},
		{"hand 0, line 8, T is 1, the other one has begun", "0000 1 0", "1 2 [0 0 0 0 0]"},
		{"hand 0, line 8, T is 1, W0 was 1", "11 0x4 111 0x4", "1 1 [0 0 0 0 1]"},
		{"hand 0, line 8, T is 2", "00 11 000", "9 3 [2 0 0 0 0]"},
		{"hand 0, line 8, T is 2 by now", "0000 11 0", "9 3 [2 0 0 0 0]"},
		{"hand 0, line 8, T is 2, and S0 too", "0000 1111 0", "9 5 [2 0 1 2 0]"},
		{"hand 0, line 9, S0 is 0", "00 11 0000", "9 3 [2 0 0 0 0]"},
		{"hand 0, line 9, S0 is still 0", "00 11 0x9", "9 3 [2 0 0 0 0]"},
		{"hand 0, line 9, S0 is 0, the other one says that it waits", "00 11 000 1 0", "9 4 [2 0 1 0 0]"},
		{"hand 0, line 9, S0 is 2", "00 11 000 11 0", "10 5 [2 0 1 2 0]"},
		{"hand 0, line 9, S0 is 2 by now", "00 11 0000 11 0", "10 5 [2 0 1 2 0]"},
		{"hand 0, line 10, from line 7", "00 1111 000", "1 5 [2 0 0 2 0]"},
		{"hand 0, line 10, from line 9", "00 11 000 11 00", "1 5 [2 0 0 2 0]"},
		{"hand 0, line 10, it has waited itself", "11 0x4 111 0 1111 000", "1 5 [2 0 0 2 0]"},
		{"hand 0, line 2 once more, alone", "0x7", "6 1 [1 0 0 0 0]"},
		{"hand 0, line 8 once more, alone", "0x10", "1 1 [0 0 0 0 0]"},
		{"hand 0, line 4 once more, behind the one that waited for it", "00 1111 000 0000", "5 5 [1 1 0 0 1]"},

		{"hand 1, line 1", "1", "1 2 [0 0 0 0 0]"},
		{"hand 1, line 1, the other one is in", "00 1", "6 2 [1 0 0 0 0]"},
		{"hand 1, line 1, S1 was 1", "11 0000 111 1", "5 2 [1 0 0 0 0]"},
		{"hand 1, line 1, S0 stays", "00 1111 000 1x4 1", "1 2 [0 0 0 2 0]"},
		{"hand 1, line 2, T is 0", "11", "1 6 [2 0 0 0 0]"},
		{"hand 1, line 2, T is 0, the other one was in", "0x5 11", "1 6 [2 0 0 0 0]"},
		{"hand 1, line 2, T is 0, the other one has begun", "0 11", "2 6 [2 0 0 0 0]"},
		{"hand 1, line 2, T is 1, the other one is in", "00 11", "6 3 [2 0 0 0 0]"},
		{"hand 1, line 2, T is 1, the other one goes out", "0000 11", "8 3 [2 0 0 0 0]"},
		{"hand 1, line 2, T is 1, the other one waits", "11 0000 111 11", "5 3 [2 0 0 0 0]"},
		{"hand 1, line 3", "00 111", "6 4 [2 0 1 0 0]"},
		{"hand 1, line 3, the other one goes out", "00 11 000 1", "9 4 [2 0 1 0 0]"},
		{"hand 1, line 4", "00 1x4", "6 5 [2 0 1 2 0]"},
		{"hand 1, line 4, the other one goes out", "00 111 000 1", "9 5 [2 0 1 2 0]"},
		{"hand 1, line 5, W1 is 1", "00 1x5", "6 5 [2 0 1 2 0]"},
		{"hand 1, line 5, W1 is still 1", "00 1x9", "6 5 [2 0 1 2 0]"},
		{"hand 1, line 5, W1 is 1, the other one goes out", "00 1x4 00 1", "10 5 [2 0 1 2 0]"},
		{"hand 1, line 5, W1 is 0 by now", "00 1x4 000 1", "1 6 [2 0 0 2 0]"},
		{"hand 1, line 5, W1 is 0 by now, and the other one waits", "00 1x4 000 0000 1", "5 6 [1 1 0 0 1]"},
		{"hand 1, line 6", "111", "1 7 [2 0 0 0 0]"},
		{"hand 1, line 6, the other one waits", "11 0000 1", "5 7 [1 1 0 0 1]"},
		{"hand 1, line 7, S1 is 0", "1111", "1 8 [2 0 0 0 0]"},
		{"hand 1, line 7, S1 is 0, the other one has begun", "11 0 11", "2 8 [2 0 0 0 0]"},
		{"hand 1, line 7, S1 is 0, the other one has come", "11 00 11", "3 8 [1 0 0 0 0]"},
		{"hand 1, line 7, S1 is 0, the other one says that it waits", "11 000 11", "4 8 [1 1 0 0 0]"},
		{"hand 1, line 7, S1 is 1", "11 0000 11", "5 10 [1 1 0 0 1]"},
		{"hand 1, line 7, S1 is 1 by now", "111 0000 1", "5 10 [1 1 0 0 1]"},
		{"hand 1, line 7, S1 was 1 the time before", "11 0000 111 0000 1111", "1 8 [2 0 0 0 0]"},
		{"hand 1, line 8, T is 2", "1x5", "1 1 [0 0 0 0 0]"},
		{"hand 1, line 8, T is 2, the other one has begun", "1111 0 1", "2 1 [0 0 0 0 0]"},
		{"hand 1, line 8, T is 2, W1 was 1", "00 1x4 000 1x4", "1 1 [0 0 0 2 0]"},
		{"hand 1, line 8, T is 1", "11 00 111", "3 9 [1 0 0 0 0]"},
		{"hand 1, line 8, T is 1 by now", "1111 00 1", "3 9 [1 0 0 0 0]"},
		{"hand 1, line 8, T is 1, and S1 too", "1111 0000 1", "5 9 [1 1 0 0 1]"},
		{"hand 1, line 9, S1 is 0", "11 00 1111", "3 9 [1 0 0 0 0]"},
		{"hand 1, line 9, S1 is still 0", "11 00 1x9", "3 9 [1 0 0 0 0]"},
		{"hand 1, line 9, S1 is 0, the other one says that it waits", "11 00 111 0 1", "4 9 [1 1 0 0 0]"},
		{"hand 1, line 9, S1 is 1", "11 00 111 00 1", "5 10 [1 1 0 0 1]"},
		{"hand 1, line 9, S1 is 1 by now", "11 00 1111 00 1", "5 10 [1 1 0 0 1]"},
		{"hand 1, line 10, from line 7", "11 0000 111", "5 1 [1 0 0 0 1]"},
		{"hand 1, line 10, from line 9", "11 00 111 00 11", "5 1 [1 0 0 0 1]"},
		{"hand 1, line 10, it has waited itself", "00 1x4 000 1 0000 111", "5 1 [1 0 0 0 1]"},
		{"hand 1, line 2 once more, alone", "1x7", "1 6 [2 0 0 0 0]"},
		{"hand 1, line 8 once more, alone", "1x10", "1 1 [0 0 0 0 0]"},
		{"hand 1, line 4 once more, behind the one that waited for it", "11 0000 111 1111", "5 5 [2 0 1 2 0]"},
	})
}

// TestLinesOf3: what each line does, and whose words it asks, where there are two others.
func TestLinesOf3(t *testing.T) {
	checkLines(t, 3, []lined{
		{"line 1, S1 is 0, another S stays", "00 2222 1", "6 2 5 [3 0 0 1 3 0 0]"},
		{"line 1, S1 was 1", "11 0000 111 1", "5 2 1 [1 0 0 0 0 0 0]"},
		{"line 1, S1 was 3", "11 2222 111 1", "1 2 5 [3 0 0 0 0 0 0]"},
		{"line 2, T is 0", "11", "1 6 1 [2 0 0 0 0 0 0]"},
		{"line 2, T is 1", "00 11", "6 3 1 [2 0 0 0 0 0 0]"},
		{"line 2, T is 3", "22 11", "1 3 6 [2 0 0 0 0 0 0]"},
		{"line 2, T is 3, behind hand 0", "00 22 11", "6 3 3 [2 0 0 0 0 0 0]"},
		{"line 2, T is 1, behind hand 2", "22 00 11", "3 3 6 [2 0 0 0 0 0 0]"},
		{"line 3, behind the first one", "00 111", "6 4 1 [2 0 1 0 0 0 0]"},
		{"line 3, behind one that waits", "00 22 111", "6 4 3 [2 0 1 0 0 0 0]"},
		{"line 4, s is 1", "00 1x4", "6 5 1 [2 0 1 0 2 0 0]"},
		{"line 4, s is 3", "22 1x4", "1 5 6 [2 0 1 0 0 0 2]"},
		{"line 4, s is 3, behind hand 0", "00 22 1x4", "6 5 3 [2 0 1 0 0 0 2]"},
		{"line 4, s is 1, behind hand 2", "22 00 1x4", "3 5 6 [2 0 1 0 2 0 0]"},
		{"line 4, s is 3, all are known", "00 2222 1x4", "6 5 5 [2 0 1 1 3 0 2]"},
		{"line 5, all W but W0 are 1", "00 2222 1x5", "6 5 5 [2 0 1 1 3 0 2]"},
		{"line 5, W1 is 1, another one may come in", "00 2222 1x4 000 1", "1 5 5 [2 0 1 0 3 0 2]"},
		{"line 5, W1 is 1, another one is in", "00 2222 1x4 000 2 1", "1 5 6 [2 0 1 0 3 0 2]"},
		{"line 5, W1 is 0, both are out", "00 2222 1x4 000 2222 1", "1 6 1 [2 0 0 0 3 0 2]"},
		{"line 5, W1 is 0, another one comes", "00 1111 22 000 1", "1 6 3 [3 0 0 0 2 0 0]"},
		{"line 7, S1 is 0, two have come", "11 00 22 11", "3 8 3 [3 0 0 0 0 0 0]"},
		{"line 7, S1 is 0, the one behind waits for it, not known", "11 00 2222 11", "3 8 5 [3 0 0 1 3 0 0]"},
		{"line 7, S1 is 1, one more has come", "11 0000 22 11", "5 10 3 [3 1 0 0 0 1 0]"},
		{"line 7, S1 is 3", "11 2222 11", "1 10 5 [3 0 0 1 0 3 0]"},
		{"line 8, T is 3", "11 22 111", "1 9 3 [3 0 0 0 0 0 0]"},
		{"line 8, T is 3, two have come", "11 00 22 111", "3 9 3 [3 0 0 0 0 0 0]"},
		{"line 8, T is 1, two have come", "11 22 00 111", "3 9 3 [1 0 0 0 0 0 0]"},
		{"line 9, S1 is 0, hand 2 is known to hand 0", "11 00 2222 1111", "3 9 5 [3 0 0 1 3 0 0]"},
		{"line 9, S1 is 1 by now", "11 00 22 111 00 1", "5 10 3 [3 1 0 0 0 1 0]"},
		{"line 9, S1 is 3 by now", "11 22 00 111 22 1", "3 10 5 [1 0 0 1 0 3 0]"},
		{"line 10, s is 1", "11 0000 22 111", "5 1 3 [3 0 0 0 0 1 0]"},
		{"line 10, s is 1, both wait", "11 0000 2222 111", "5 1 5 [3 0 0 1 3 1 0]"},
		{"line 10, s is 3, both wait", "11 2222 0000 111", "5 1 5 [1 1 0 0 0 3 1]"},
		{"the last of three: hand 0 stays", "11 2222 0000 111 0", "5 1 5 [1 1 0 0 0 3 1]"},
		{"the last of three: hand 2 is in", "11 2222 0000 111 2 0", "5 1 6 [1 1 0 0 0 3 1]"},
		{"the last of three: hand 2 goes out", "11 2222 0000 111 222 0", "5 1 10 [1 1 0 0 0 3 1]"},
		{"the last of three: hand 2 is out", "11 2222 0000 111 2222 0", "6 1 1 [1 0 0 0 0 3 1]"},
	})
}

// TestLinesOf4: one hand alone, behind one other, and four that came one by one.
func TestLinesOf4(t *testing.T) {
	checkLines(t, 4, []lined{
		{"hand 3, line 1", "3", "1 1 1 2 [0 0 0 0 0 0 0 0 0]"},
		{"hand 3, line 2", "33", "1 1 1 6 [4 0 0 0 0 0 0 0 0]"},
		{"hand 3, line 6", "333", "1 1 1 7 [4 0 0 0 0 0 0 0 0]"},
		{"hand 3, line 7", "3333", "1 1 1 8 [4 0 0 0 0 0 0 0 0]"},
		{"hand 3, line 8", "3x5", "1 1 1 1 [0 0 0 0 0 0 0 0 0]"},
		{"hand 3, in once more", "3x7", "1 1 1 6 [4 0 0 0 0 0 0 0 0]"},
		{"hand 3, behind hand 0", "00 3x4", "6 1 1 5 [4 0 0 0 1 4 0 0 0]"},
		{"hand 3, behind hand 2", "22 3x4", "1 1 6 5 [4 0 0 0 1 0 0 4 0]"},
		{"hand 0, behind hand 3", "33 0x4", "5 1 1 6 [1 1 0 0 0 0 0 0 1]"},
		{"one by one, all have come", "33 22 11 00", "3 3 3 6 [1 0 0 0 0 0 0 0 0]"},
		{"one by one, the last one is known first", "33 22 11 00 00 11 22", "5 5 5 6 [1 1 1 1 0 0 1 2 3]"},
		{"one by one, the last one is known last", "33 22 11 00 22 11 00", "5 5 5 6 [1 1 1 1 0 0 1 2 3]"},
		{"one by one, the first one is out", "33 22 11 00 00 11 22 333", "5 5 5 1 [1 1 1 0 0 0 1 2 3]"},
		{"one by one, the second one is in", "33 22 11 00 00 11 22 333 0 1 2", "5 5 6 1 [1 1 1 0 0 0 1 2 3]"},
		{"one by one, the second one is out", "33 22 11 00 00 11 22 333 2222", "5 5 1 1 [1 1 0 0 0 0 1 2 3]"},
		{"one by one, the third one is in", "33 22 11 00 00 11 22 333 2222 1 0", "5 6 1 1 [1 1 0 0 0 0 1 2 3]"},
		{"one by one, the third one is out", "33 22 11 00 00 11 22 333 2222 1111", "5 1 1 1 [1 0 0 0 0 0 1 2 3]"},
		{"one by one, the last one is in", "33 22 11 00 00 11 22 333 2222 1111 0", "6 1 1 1 [1 0 0 0 0 0 1 2 3]"},
		{"one by one, all are out", "33 22 11 00 00 11 22 333 2222 1111 0000", "1 1 1 1 [0 0 0 0 0 0 1 2 3]"},
		{"one by one, the first one comes again: the last one waits for it to be known", "33 22 11 00 00 11 22 333 33 2222 1111 0000", "9 1 1 3 [4 0 0 0 0 0 1 2 0]"},
		{"one by one, the first one comes again, and is in", "33 22 11 00 00 11 22 333 33 2222 1111 00 33 00 3", "1 1 1 6 [4 0 0 0 0 4 1 2 0]"},
	})
}

// TestOwnStays: a hand's s stays its own, at whatever line it is, while others come behind it: hand 0 is ahead of hand 1.
func TestOwnStays(t *testing.T) {
	checkLines(t, 3, []lined{
		{"it comes, one more comes", "00 11 22", "6 3 3 [3 0 0 0 0 0 0]"},
		{"one has come behind it, line 3", "00 11 22 1", "6 4 3 [3 0 1 0 0 0 0]"},
		{"one has come behind it, line 4: s is 1", "00 11 22 11", "6 5 3 [3 0 1 0 2 0 0]"},
		{"one is known behind it, line 3", "00 11 2222 1", "6 4 5 [3 0 1 1 0 3 0]"},
		{"one is known behind it, line 4: s is 1", "00 11 2222 11", "6 5 5 [3 0 1 1 2 3 0]"},
		{"one comes while it is at line 4, and is known: s is 1", "00 111 2222 1", "6 5 5 [3 0 1 1 2 3 0]"},
		{"one comes behind it, line 4: s of that one is 2", "00 11 22 11 22", "6 5 5 [3 0 1 1 2 3 0]"},
		{"one is known behind it, line 5: it comes in", "00 11 2222 11 000 1", "1 6 5 [3 0 0 1 2 3 0]"},
		{"one comes while it is at line 5", "00 1111 2222 1", "6 5 5 [3 0 1 1 2 3 0]"},
		{"one comes while it is at line 5: its s is 3 as it goes out", "00 1111 2222 000 1111", "1 1 5 [3 0 0 0 2 3 0]"},
		{"one comes while it is in: its s is 3", "00 1111 000 1 2222 111", "1 1 5 [3 0 0 0 2 3 0]"},
		{"one comes while it is at line 7: its s is 3", "00 1111 000 11 2222 11", "1 1 5 [3 0 0 0 2 3 0]"},
		{"one comes while it is at line 8: it goes on", "00 1111 000 111 2222 1", "1 9 5 [3 0 0 1 2 3 0]"},
		{"one comes while it is at line 8: its s is 0 until it looks again", "00 1111 000 111 22 11", "1 9 3 [3 0 0 0 2 0 0]"},
		{"one comes while it is at line 8: its s is 3 then", "00 1111 000 111 22 1 22 1", "1 10 5 [3 0 0 1 2 3 0]"},
		{"one comes while it is at line 8: s is 3, and not 1", "00 1111 000 111 22 1 22 11", "1 1 5 [3 0 0 0 2 3 0]"},
		{"one comes while it is at line 9: its s stays 3", "00 1111 000 111 22 1 22 1 00 1", "3 1 5 [1 0 0 0 0 3 0]"},
		{"one comes while it is at line 10: its s stays 3", "00 1111 2222 000 111 0000 1", "5 1 5 [1 1 0 0 0 3 1]"},
		{"one comes while it is at line 10: hand 0 stays", "00 1111 2222 000 111 0000 1 0", "5 1 5 [1 1 0 0 0 3 1]"},
	})
	checkLines(t, 4, []lined{
		{"two have come behind it: s is 1", "00 11 33 22 11", "6 5 3 3 [3 0 1 0 0 2 0 0 0]"},
		{"two are known behind it: s is 1", "00 11 3333 2222 11", "6 5 5 5 [3 0 1 1 1 2 4 0 3]"},
		{"two are known behind it, the second one first: s is 1", "00 11 33 2222 33 11", "6 5 5 5 [3 0 1 1 1 2 4 0 3]"},
		{"two are behind it: it goes out, s is 4", "00 1111 3333 2222 000 1111", "1 1 5 5 [3 0 0 1 0 2 4 0 3]"},
		{"two came while it is in: it goes out, s is 4", "00 1111 000 1 3333 2222 111", "1 1 5 5 [3 0 0 1 0 2 4 0 3]"},
		{"two came while it is at line 8: s is 4, and not 3", "00 1111 000 111 33 2222 1 33 11", "1 1 5 5 [3 0 0 1 0 2 4 0 3]"},
		{"two, and the one ahead once more, while it is at line 10: s is 4", "00 1111 3333 000 111 2222 0000 1", "5 1 5 5 [1 1 0 1 0 0 4 1 3]"},
	})
}

// TestScripts: what is told step by step.
func TestScripts(t *testing.T) {
	for _, c := range []struct {
		name   string
		n      int
		script string
		want   []string
	}{
		{"one hand, twice round", 1, "0x10", []string{
			"2 [0 0 0]", "6 [1 0 0]", "7 [1 0 0]", "8 [1 0 0]", "1 [0 0 0]",
			"2 [0 0 0]", "6 [1 0 0]", "7 [1 0 0]", "8 [1 0 0]", "1 [0 0 0]",
		}},
		{"two hands, turn by turn", 2, "01 01 01 01 01 01 01 01 01 01 01 01 01 01", []string{
			"2 1 [0 0 0 0 0]", "2 2 [0 0 0 0 0]", "6 2 [1 0 0 0 0]", "6 3 [2 0 0 0 0]",
			"7 3 [2 0 0 0 0]", "7 4 [2 0 1 0 0]", "8 4 [2 0 1 0 0]", "8 5 [2 0 1 2 0]",
			"9 5 [2 0 1 2 0]", "9 5 [2 0 1 2 0]", "10 5 [2 0 1 2 0]", "10 5 [2 0 1 2 0]",
			"1 5 [2 0 0 2 0]", "1 6 [2 0 0 2 0]", "2 6 [2 0 0 0 0]", "2 7 [2 0 0 0 0]",
			"3 7 [1 0 0 0 0]", "3 8 [1 0 0 0 0]", "4 8 [1 1 0 0 0]", "4 9 [1 1 0 0 0]",
			"5 9 [1 1 0 0 1]", "5 10 [1 1 0 0 1]", "5 10 [1 1 0 0 1]", "5 1 [1 0 0 0 1]",
			"6 1 [1 0 0 0 1]", "6 2 [1 0 0 0 0]", "7 2 [1 0 0 0 0]", "7 3 [2 0 0 0 0]",
		}},
		{"three hands", 3, "110 22 00 11 22 1 0 2 1 1 2 1", []string{
			"1 2 1 [0 0 0 0 0 0 0]", "1 6 1 [2 0 0 0 0 0 0]", "2 6 1 [2 0 0 0 0 0 0]",
			"2 6 2 [2 0 0 0 0 0 0]", "2 6 3 [3 0 0 0 0 0 0]", "3 6 3 [1 0 0 0 0 0 0]", "4 6 3 [1 1 0 0 0 0 0]",
			"4 7 3 [1 1 0 0 0 0 0]", "4 8 3 [1 1 0 0 0 0 0]", "4 8 4 [1 1 0 1 0 0 0]", "4 8 5 [1 1 0 1 0 3 0]",
			"4 9 5 [1 1 0 1 0 3 0]", "5 9 5 [1 1 0 1 0 3 1]", "5 9 5 [1 1 0 1 0 3 1]", "5 10 5 [1 1 0 1 0 3 1]",
			"5 1 5 [1 1 0 0 0 3 1]", "5 1 6 [1 1 0 0 0 3 1]", "5 2 6 [1 1 0 0 0 0 1]",
		}},
		{"four hands", 4, "3110 3 0 1 33 2 0 2 111 0 1 2 3 2 3 0 1 3 1 3", []string{
			"1 1 1 2 [0 0 0 0 0 0 0 0 0]", "1 2 1 2 [0 0 0 0 0 0 0 0 0]", "1 6 1 2 [2 0 0 0 0 0 0 0 0]", "2 6 1 2 [2 0 0 0 0 0 0 0 0]",
			"2 6 1 3 [4 0 0 0 0 0 0 0 0]", "3 6 1 3 [1 0 0 0 0 0 0 0 0]", "3 7 1 3 [1 0 0 0 0 0 0 0 0]", "3 7 1 4 [1 0 0 0 1 0 0 0 0]",
			"3 7 1 5 [1 0 0 0 1 0 4 0 0]", "3 7 2 5 [1 0 0 0 1 0 4 0 0]", "4 7 2 5 [1 1 0 0 1 0 4 0 0]", "4 7 3 5 [3 1 0 0 1 0 4 0 0]",
			"4 10 3 5 [3 1 0 0 1 0 4 0 0]", "4 1 3 5 [3 1 0 0 0 0 4 0 0]", "4 2 3 5 [3 1 0 0 0 0 0 0 0]", "5 2 3 5 [3 1 0 0 0 0 0 0 1]",
			"5 3 3 5 [2 1 0 0 0 0 0 0 1]", "5 3 4 5 [2 1 0 1 0 0 0 0 1]", "5 3 4 6 [2 1 0 1 0 0 0 0 1]", "5 3 5 6 [2 1 0 1 0 3 0 0 1]",
			"5 3 5 7 [2 1 0 1 0 3 0 0 1]", "5 3 5 7 [2 1 0 1 0 3 0 0 1]", "5 4 5 7 [2 1 1 1 0 3 0 0 1]", "5 4 5 10 [2 1 1 1 0 3 0 0 1]",
			"5 5 5 10 [2 1 1 1 0 3 0 2 1]", "5 5 5 1 [2 0 1 1 0 3 0 2 1]",
		}},
	} {
		l := fresh(t, c.n)
		steps := script(c.script)
		if len(steps) != len(c.want) {
			t.Fatalf("%s: %d steps, and %d wanted", c.name, len(steps), len(c.want))
		}
		for i, p := range steps {
			if err := l.Step(p); err != nil || shown(l, c.n) != c.want[i] {
				t.Errorf("%s, step %d: got %s %v, want %s", c.name, i, shown(l, c.n), err, c.want[i])
			}
		}
	}
}

// TestNoHand: wherever the hands stand, Step of a hand that is none tells ErrRange and changes nothing, then or later, and it stands at 0.
func TestNoHand(t *testing.T) {
	for n := 1; n <= api.MaxHands; n++ {
		steps := drawn(n, 120)
		l := fresh(t, n)
		for i := range len(steps) + 1 {
			for _, p := range noHands(n) {
				if err := l.Step(p); plain.Told(err) != api.ErrRange {
					t.Errorf("of %d, after %v: step of %d: got %v", n, steps[:i], p, err)
				}
				if got := l.At(p); got != 0 {
					t.Errorf("of %d, after %v: %d stands at %d", n, steps[:i], p, got)
				}
			}
			if got, want := shown(l, n), shown(after(t, n, steps[:i]), n); got != want {
				t.Errorf("of %d, after %v, and those that are no hands: got %s, want %s", n, steps[:i], got, want)
			}
			if i < len(steps) {
				step(t, l, steps[i])
			}
		}
	}
}

// TestAsked: to ask changes nothing.
func TestAsked(t *testing.T) {
	for n := 1; n <= api.MaxHands; n++ {
		steps := drawn(n, 120)
		l := fresh(t, n)
		for i, p := range steps {
			for range 3 {
				for q := -1; q <= n; q++ {
					l.At(q)
				}
				l.Words()
			}
			step(t, l, p)
			if got, want := shown(l, n), shown(after(t, n, steps[:i+1]), n); got != want {
				t.Errorf("of %d, after %v: got %s, want %s", n, steps[:i+1], got, want)
			}
		}
	}
}

// TestWordsFresh: Words are fresh memory each time: what is written into them, or behind them, is not seen, nor are they changed by what comes after.
func TestWordsFresh(t *testing.T) {
	for n := 1; n <= api.MaxHands; n++ {
		steps := drawn(n, 60)
		l, same := after(t, n, steps), after(t, n, steps)
		want := slices.Clone(same.Words())
		if len(want) != 1+2*n {
			t.Fatalf("for %d hands there are the words %v", n, want)
		}
		one, other := l.Words(), l.Words()
		for i := range one[:cap(one)] {
			one[:cap(one)][i] = -7
		}
		if !slices.Equal(other, want) || !slices.Equal(l.Words(), want) {
			t.Errorf("of %d: written into one answer, others are %v and %v, want %v", n, other, l.Words(), want)
		}
		for _, p := range drawn(n, 60) {
			step(t, l, p)
			step(t, same, p)
			if got, want := shown(l, n), shown(same, n); got != want {
				t.Fatalf("of %d: written into what was told, got %s, want %s", n, got, want)
			}
		}
		if !slices.Equal(other, want) {
			t.Errorf("of %d: what was told before is %v, and was %v", n, other, want)
		}
	}
}

// TestApart: two locks share nothing, for as many hands or not, and a new one tells nothing of those before.
func TestApart(t *testing.T) {
	for n := 1; n <= api.MaxHands; n++ {
		for m := 1; m <= api.MaxHands; m++ {
			one, other := fresh(t, n), fresh(t, m)
			first, second := drawn(n, 60), drawn(m, 90)[30:]
			for i := range first {
				step(t, one, first[i])
				if got, want := shown(other, m), shown(after(t, m, second[:i]), m); got != want {
					t.Errorf("step %d of one lock for %d: the other one is %s, want %s", i, n, got, want)
				}
				step(t, other, second[i])
				if got, want := shown(one, n), shown(after(t, n, first[:i+1]), n); got != want {
					t.Errorf("step %d of the other lock for %d: the one is %s, want %s", i, m, got, want)
				}
			}
			if got, want := shown(fresh(t, n), n), strings.Repeat("1 ", n)+"[0"+strings.Repeat(" 0", 2*n)+"]"; got != want {
				t.Errorf("a new one for %d is %s", n, got)
			}
		}
	}
}

// ExampleLock: hand 0 is in, hand 1 waits and is known to it, and hand 2 has come, and is not known to hand 1.
func ExampleLock() {
	l, err := mcs.New(3)
	if err != nil {
		fmt.Println(err)
	}
	for _, p := range []int{0, 0, 1, 1, 1, 1, 2, 2} {
		if err := l.Step(p); err != nil {
			fmt.Println(err)
		}
	}
	fmt.Println(l.At(0), l.At(1), l.At(2), l.Words())
	fmt.Println(l.Step(3), l.At(3))
	_, err = mcs.New(5)
	fmt.Println(err)
	// Output:
	// 6 5 3 [3 0 1 0 2 0 0]
	// ErrRange 0
	// ErrRange
}
