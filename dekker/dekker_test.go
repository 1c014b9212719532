package dekker_test

import (
	"fmt"
	"math"
	"slices"
	"testing"

	"latchgarth/api"
	"latchgarth/dekker"
	"latchgarth/plain"
)

// none are numbers that are no hands.
var none = []int{-1, 2, 3, 4, -2, 256, 257, 1 << 32, 1<<32 + 1, math.MinInt, math.MinInt + 1, math.MaxInt - 1, math.MaxInt}

// shown is all that a lock tells: where both hands stand, and its words.
func shown(l *dekker.Lock) string { return fmt.Sprint(l.At(0), l.At(1), l.Words()) }

// step of a hand that is one.
func step(t *testing.T, l *dekker.Lock, p int) {
	t.Helper()
	if err := l.Step(p); err != nil {
		t.Fatalf("step of hand %d at %s: got %v", p, shown(l), err)
	}
}

// script of hands, a digit each; spaces are for the eye.
func script(text string) []int {
	var out []int
	for _, c := range text {
		if c != ' ' {
			out = append(out, int(c-'0'))
		}
	}
	return out
}

// after is a new lock after a script of hands.
func after(t *testing.T, script []int) *dekker.Lock {
	t.Helper()
	l := dekker.New()
	for _, p := range script {
		step(t, l, p)
	}
	return l
}

// TestNew: both hands stand at line 1, and words are 0.
func TestNew(t *testing.T) {
	if got := shown(dekker.New()); got != "1 1 [0 0 0]" {
		t.Errorf("got %s", got)
	}
}

// lined is a script, and what is told behind the line that ends it.
type lined struct{ name, script, want string }

func checkLines(t *testing.T, cases []lined) {
	t.Helper()
	for _, c := range cases {
		if got := shown(after(t, script(c.script))); got != c.want {
			t.Errorf("%s: after %s got %s, want %s", c.name, c.script, got, c.want)
		}
	}
}

// TestLinesOf0: each line of hand 0, both ways where it asks. Behind 00000, which is once round, T is 1.
func TestLinesOf0(t *testing.T) {
	checkLines(t, []lined{
		{"line 1", "0", "2 1 [1 0 0]"},
		{"line 1, F1 stays", "1 0", "2 2 [1 1 0]"},
		{"line 1, T stays", "00000 0", "2 1 [1 0 1]"},
		{"line 2, F1 is 0, T is 0", "00", "7 1 [1 0 0]"},
		{"line 2, F1 is 0, T is 1", "00000 00", "7 1 [1 0 1]"},
		{"line 2, F1 is 1, T is 0", "1 00", "3 2 [1 1 0]"},
		{"line 2, F1 is 1, T is 1", "00000 1 00", "3 2 [1 1 1]"},
		{"line 3, T is 0, F1 is 1", "1 000", "2 2 [1 1 0]"},
		{"line 3, T is 0, F1 is 0", "1 00 111 0", "2 5 [1 0 0]"},
		{"line 2 once more, F1 is 0", "1 00 111 00", "7 5 [1 0 0]"},
		{"line 3, T is 1, F1 is 1", "00000 1 000", "4 2 [1 1 1]"},
		{"line 3, T is 1, F1 is 0", "00 111 00000 1 0", "4 5 [1 0 1]"},
		{"line 4", "00000 1 0000", "5 2 [0 1 1]"},
		{"line 5, T is 1, F1 is 1", "00000 1 00000", "5 2 [0 1 1]"},
		{"line 5, T is 1, F1 is 0", "00 111 00000 1 000", "5 5 [0 0 1]"},
		{"line 5, T is 1, many times", "00000 1 000000000", "5 2 [0 1 1]"},
		{"line 5, T is 0, F1 is 1", "00000 1 0000 111 0", "6 9 [0 1 0]"},
		{"line 5, T is 0, F1 is 0", "00000 1 0000 1111 0", "6 1 [0 0 0]"},
		{"line 6, F1 is 1", "00000 1 0000 111 00", "2 9 [1 1 0]"},
		{"line 6, F1 is 0", "00000 1 0000 1111 00", "2 1 [1 0 0]"},
		{"line 7, T is 0", "000", "8 1 [1 0 0]"},
		{"line 7, T is 1", "00000 000", "8 1 [1 0 1]"},
		{"line 7, the other one waits", "00 11 0", "8 3 [1 1 0]"},
		{"line 8, T was 0", "0000", "9 1 [1 0 1]"},
		{"line 8, T was 1", "00000 0000", "9 1 [1 0 1]"},
		{"line 8, F1 stays", "00 11 00", "9 3 [1 1 1]"},
		{"line 9", "00000", "1 1 [0 0 1]"},
		{"line 9, F1 and T stay", "00 11 000", "1 3 [0 1 1]"},
	})
}

// TestLinesOf1: each line of hand 1, both ways where it asks.
func TestLinesOf1(t *testing.T) {
	checkLines(t, []lined{
		{"line 1", "1", "1 2 [0 1 0]"},
		{"line 1, F0 and T stay", "00000 0 1", "2 2 [1 1 1]"},
		{"line 2, F0 is 0, T is 0", "11", "1 7 [0 1 0]"},
		{"line 2, F0 is 0, T is 1", "00000 11", "1 7 [0 1 1]"},
		{"line 2, F0 is 1, T is 0", "0 11", "2 3 [1 1 0]"},
		{"line 2, F0 is 1, T is 1", "000000 11", "2 3 [1 1 1]"},
		{"line 3, T is 1, F0 is 1", "000000 111", "2 2 [1 1 1]"},
		{"line 3, T is 1, F0 is 0", "000000 11 000 1", "5 2 [0 1 1]"},
		{"line 2 once more, F0 is 0", "000000 11 000 11", "5 7 [0 1 1]"},
		{"line 3, T is 0, F0 is 1", "0 111", "2 4 [1 1 0]"},
		{"line 3, T is 0, F0 is 0", "00000 11 000 11111 0 1", "5 4 [0 1 0]"},
		{"line 4", "0 1111", "2 5 [1 0 0]"},
		{"line 5, T is 0, F0 is 1", "0 11111", "2 5 [1 0 0]"},
		{"line 5, T is 0, F0 is 0", "00000 11 000 11111 0 111", "5 5 [0 0 0]"},
		{"line 5, T is 0, many times", "0 111111111", "2 5 [1 0 0]"},
		{"line 5, T is 1, F0 is 1", "0 1111 000 1", "9 6 [1 0 1]"},
		{"line 5, T is 1, F0 is 0", "0 1111 0000 1", "1 6 [0 0 1]"},
		{"line 6, F0 is 1", "0 1111 000 11", "9 2 [1 1 1]"},
		{"line 6, F0 is 0", "0 1111 0000 11", "1 2 [0 1 1]"},
		{"line 7, T is 0", "111", "1 8 [0 1 0]"},
		{"line 7, T is 1", "00000 111", "1 8 [0 1 1]"},
		{"line 7, the other one waits", "11 00 1", "3 8 [1 1 0]"},
		{"line 8, T was 0", "1111", "1 9 [0 1 0]"},
		{"line 8, T was 1", "00000 1111", "1 9 [0 1 0]"},
		{"line 8, F0 stays", "11 00 11", "3 9 [1 1 0]"},
		{"line 9", "11111", "1 1 [0 0 0]"},
		{"line 9, F0 and T stay", "11 00 111", "3 1 [1 0 0]"},
	})
}

// TestScripts: what is told step by step.
func TestScripts(t *testing.T) {
	for _, c := range []struct {
		name, script string
		want         []string
	}{
		{"hand 0 alone", "000000", []string{
			"2 1 [1 0 0]", "7 1 [1 0 0]", "8 1 [1 0 0]", "9 1 [1 0 1]", "1 1 [0 0 1]", "2 1 [1 0 1]",
		}},
		{"hand 1 alone", "111111", []string{
			"1 2 [0 1 0]", "1 7 [0 1 0]", "1 8 [0 1 0]", "1 9 [0 1 0]", "1 1 [0 0 0]", "1 2 [0 1 0]",
		}},
		{"turn by turn: hand 1, whose turn it isn't, gives way", "01 01 01 01 01 01 01 01 01", []string{
			"2 1 [1 0 0]", "2 2 [1 1 0]", "3 2 [1 1 0]", "3 3 [1 1 0]", "2 3 [1 1 0]", "2 4 [1 1 0]",
			"3 4 [1 1 0]", "3 5 [1 0 0]", "2 5 [1 0 0]", "2 5 [1 0 0]", "7 5 [1 0 0]", "7 5 [1 0 0]",
			"8 5 [1 0 0]", "8 5 [1 0 0]", "9 5 [1 0 1]", "9 6 [1 0 1]", "1 6 [0 0 1]", "1 2 [0 1 1]",
		}},
		{"who was in gives way to who waits", "00 1111 000 111 0000", []string{
			"2 1 [1 0 0]", "7 1 [1 0 0]", "7 2 [1 1 0]", "7 3 [1 1 0]", "7 4 [1 1 0]", "7 5 [1 0 0]",
			"8 5 [1 0 0]", "9 5 [1 0 1]", "1 5 [0 0 1]", "1 6 [0 0 1]", "1 2 [0 1 1]", "1 7 [0 1 1]",
			"2 7 [1 1 1]", "3 7 [1 1 1]", "4 7 [1 1 1]", "5 7 [0 1 1]",
		}},
	} {
		l := dekker.New()
		steps := script(c.script)
		if len(steps) != len(c.want) {
			t.Fatalf("%s: %d steps, and %d wanted", c.name, len(steps), len(c.want))
		}
		for i, p := range steps {
			if err := l.Step(p); err != nil || shown(l) != c.want[i] {
				t.Errorf("%s, step %d: got %s %v, want %s", c.name, i, shown(l), err, c.want[i])
			}
		}
	}
}

// TestNoHand: wherever the hands stand, Step of a hand that is none tells ErrRange and changes nothing, then or later, and it stands at 0.
func TestNoHand(t *testing.T) {
	steps := script("00000 1 00000 1111 00000 0 111 0")
	l := dekker.New()
	for i := range len(steps) + 1 {
		for _, p := range none {
			if err := l.Step(p); plain.Told(err) != api.ErrRange {
				t.Errorf("after %v: step of %d: got %v", steps[:i], p, err)
			}
			if got := l.At(p); got != 0 {
				t.Errorf("after %v: %d stands at %d", steps[:i], p, got)
			}
		}
		if got, want := shown(l), shown(after(t, steps[:i])); got != want {
			t.Errorf("after %v, and those that are no hands: got %s, want %s", steps[:i], got, want)
		}
		if i < len(steps) {
			step(t, l, steps[i])
		}
	}
}

// TestAsked: to ask changes nothing.
func TestAsked(t *testing.T) {
	steps := script("00000 1 00000 1111 00000 0 111 0")
	l := dekker.New()
	for i, p := range steps {
		for range 3 {
			for q := -1; q <= 2; q++ {
				l.At(q)
			}
			l.Words()
		}
		step(t, l, p)
		if got, want := shown(l), shown(after(t, steps[:i+1])); got != want {
			t.Errorf("after %v: got %s, want %s", steps[:i+1], got, want)
		}
	}
}

// TestWordsFresh: Words are three, and fresh memory each time: what is written into them is not seen, nor are they changed by what comes after.
func TestWordsFresh(t *testing.T) {
	l := after(t, script("0000"))
	want := []int{1, 0, 1}
	one, other := l.Words(), l.Words()
	for i := range one[:cap(one)] {
		one[:cap(one)][i] = -7
	}
	if !slices.Equal(other, want) || !slices.Equal(l.Words(), want) {
		t.Errorf("written into one answer, others are %v and %v", other, l.Words())
	}
	step(t, l, 0)
	if got := shown(l); got != "1 1 [0 0 1]" || !slices.Equal(other, want) {
		t.Errorf("got %s, and what was told before is %v", got, other)
	}
	other = append(other, 5)
	if got := l.Words(); !slices.Equal(got, []int{0, 0, 1}) || other[3] != 5 {
		t.Errorf("got %v and %v", got, other)
	}
}

// TestApart: two locks share nothing, and a new one tells nothing of those before.
func TestApart(t *testing.T) {
	one, other := dekker.New(), dekker.New()
	first, second := script("00000 1 00000 1"), script("0 1111 000 1111")
	for i := range first {
		step(t, one, first[i])
		if got, want := shown(other), shown(after(t, second[:i])); got != want {
			t.Errorf("step %d of one lock: the other one is %s, want %s", i, got, want)
		}
		step(t, other, second[i])
		if got, want := shown(one), shown(after(t, first[:i+1])); got != want {
			t.Errorf("step %d of the other lock: the one is %s, want %s", i, got, want)
		}
	}
	if got := shown(dekker.New()); got != "1 1 [0 0 0]" {
		t.Errorf("a new one is %s", got)
	}
}

// ExampleLock: hand 0 goes in, and hand 1 gives way.
func ExampleLock() {
	l := dekker.New()
	for _, p := range []int{0, 0, 1, 1, 1, 1} {
		if err := l.Step(p); err != nil {
			fmt.Println(err)
		}
	}
	fmt.Println(l.At(0), l.At(1), l.Words())
	fmt.Println(l.Step(2), l.At(2))
	// Output:
	// 7 5 [1 0 0]
	// ErrRange 0
}
