package pair_test

import (
	"fmt"
	"math"
	"slices"
	"testing"

	"latchgarth/api"
	"latchgarth/pair"
	"latchgarth/plain"
)

// none are numbers that are no hands.
var none = []int{-1, 2, 3, 4, -2, 256, 257, 1 << 32, 1<<32 + 1, math.MinInt, math.MinInt + 1, math.MaxInt - 1, math.MaxInt}

// shown is all that a lock tells: where both hands stand, and its words.
func shown(l *pair.Lock) string { return fmt.Sprint(l.At(0), l.At(1), l.Words()) }

// after is a new lock after a script of hands.
func after(t *testing.T, script ...int) *pair.Lock {
	t.Helper()
	l := pair.New()
	for i, p := range script {
		if err := l.Step(p); err != nil {
			t.Fatalf("%v: step %d of hand %d: got %v", script, i, p, err)
		}
	}
	return l
}

// TestNew: both hands stand at line 1, and words are 0.
func TestNew(t *testing.T) {
	if got := shown(pair.New()); got != "1 1 [0 0 0]" {
		t.Errorf("got %s", got)
	}
}

// TestLines: each line of each hand, both ways where it asks; the script ends with the line that is meant.
func TestLines(t *testing.T) {
	for _, c := range []struct {
		name   string
		script []int
		want   string
	}{
		{"hand 0, line 1", []int{0}, "2 1 [1 0 0]"},
		{"hand 0, line 1, F1 stays", []int{1, 0}, "2 2 [1 1 0]"},
		{"hand 0, line 1, T stays", []int{0, 0, 0, 0, 0, 0}, "2 1 [1 0 1]"},
		{"hand 0, line 2", []int{0, 0}, "3 1 [1 0 1]"},
		{"hand 0, line 2, F1 stays", []int{0, 1, 1, 0}, "3 3 [1 1 1]"},
		{"hand 0, line 2, T is 1", []int{0, 0, 0, 0, 0, 0, 0}, "3 1 [1 0 1]"},
		{"hand 0, line 3, F1 is 0", []int{0, 0, 0}, "5 1 [1 0 1]"},
		{"hand 0, line 3, F1 is 1, T is 1", []int{0, 0, 1, 0}, "4 2 [1 1 1]"},
		{"hand 0, line 3, F1 is 1, T is 0", []int{0, 0, 1, 1, 0}, "4 3 [1 1 0]"},
		{"hand 0, line 4, T is 1, F1 is 1", []int{0, 0, 1, 0, 0}, "3 2 [1 1 1]"},
		{"hand 0, line 4, T is 1, F1 is 0", []int{1, 1, 1, 0, 0, 0, 1, 1, 0}, "3 1 [1 0 1]"},
		{"hand 0, line 3 once more, F1 is 0", []int{1, 1, 1, 0, 0, 0, 1, 1, 0, 0}, "5 1 [1 0 1]"},
		{"hand 0, line 4, T is 0", []int{0, 0, 1, 1, 0, 0}, "5 3 [1 1 0]"},
		{"hand 0, line 5", []int{0, 0, 0, 0}, "6 1 [1 0 1]"},
		{"hand 0, line 5, the other one waits", []int{0, 0, 1, 1, 0, 0, 0}, "6 3 [1 1 0]"},
		{"hand 0, line 6", []int{0, 0, 0, 0, 0}, "1 1 [0 0 1]"},
		{"hand 0, line 6, F1 and T stay", []int{0, 0, 1, 1, 0, 0, 0, 0}, "1 3 [0 1 0]"},

		{"hand 1, line 1", []int{1}, "1 2 [0 1 0]"},
		{"hand 1, line 1, F0 and T stay", []int{0, 0, 1}, "3 2 [1 1 1]"},
		{"hand 1, line 2, T is 0", []int{1, 1}, "1 3 [0 1 0]"},
		{"hand 1, line 2, T is 1, F0 stays", []int{0, 0, 1, 1}, "3 3 [1 1 0]"},
		{"hand 1, line 3, F0 is 0, T is 0", []int{1, 1, 1}, "1 5 [0 1 0]"},
		{"hand 1, line 3, F0 is 1, T is 0", []int{1, 1, 0, 1}, "2 4 [1 1 0]"},
		{"hand 1, line 3, F0 is 1, T is 1", []int{1, 1, 0, 0, 1}, "3 4 [1 1 1]"},
		{"hand 1, line 4, T is 0, F0 is 1", []int{1, 1, 0, 1, 1}, "2 3 [1 1 0]"},
		{"hand 1, line 4, T is 0, F0 is 0", []int{0, 0, 0, 1, 1, 1, 0, 0, 1}, "1 3 [0 1 0]"},
		{"hand 1, line 3 once more, F0 is 0", []int{0, 0, 0, 1, 1, 1, 0, 0, 1, 1}, "1 5 [0 1 0]"},
		{"hand 1, line 4, T is 1", []int{1, 1, 0, 0, 1, 1}, "3 5 [1 1 1]"},
		{"hand 1, line 5", []int{1, 1, 1, 1}, "1 6 [0 1 0]"},
		{"hand 1, line 5, the other one waits", []int{1, 1, 0, 0, 1, 1, 1}, "3 6 [1 1 1]"},
		{"hand 1, line 6", []int{1, 1, 1, 1, 1}, "1 1 [0 0 0]"},
		{"hand 1, line 6, F0 and T stay", []int{1, 1, 0, 0, 1, 1, 1, 1}, "3 1 [1 0 1]"},
	} {
		if got := shown(after(t, c.script...)); got != c.want {
			t.Errorf("%s: after %v got %s, want %s", c.name, c.script, got, c.want)
		}
	}
}

// TestScripts: what is told step by step.
func TestScripts(t *testing.T) {
	for _, c := range []struct {
		name   string
		script []int
		want   []string
	}{
		{"hand 0 alone", []int{0, 0, 0, 0, 0, 0}, []string{
			"2 1 [1 0 0]", "3 1 [1 0 1]", "5 1 [1 0 1]", "6 1 [1 0 1]", "1 1 [0 0 1]", "2 1 [1 0 1]",
		}},
		{"hand 1 alone", []int{1, 1, 1, 1, 1, 1}, []string{
			"1 2 [0 1 0]", "1 3 [0 1 0]", "1 5 [0 1 0]", "1 6 [0 1 0]", "1 1 [0 0 0]", "1 2 [0 1 0]",
		}},
		{"turn by turn: who wrote T last waits", []int{0, 1, 0, 1, 0, 1, 0, 1, 0, 1, 0, 1}, []string{
			"2 1 [1 0 0]", "2 2 [1 1 0]", "3 2 [1 1 1]", "3 3 [1 1 0]", "4 3 [1 1 0]", "4 4 [1 1 0]",
			"5 4 [1 1 0]", "5 3 [1 1 0]", "6 3 [1 1 0]", "6 4 [1 1 0]", "1 4 [0 1 0]", "1 3 [0 1 0]",
		}},
		{"who was in lets the other one in before it is in again", []int{1, 1, 0, 0, 1, 1, 1, 1, 1, 1, 1, 1, 1, 0, 0, 0}, []string{
			"1 2 [0 1 0]", "1 3 [0 1 0]", "2 3 [1 1 0]", "3 3 [1 1 1]", "3 4 [1 1 1]", "3 5 [1 1 1]", "3 6 [1 1 1]", "3 1 [1 0 1]",
			"3 2 [1 1 1]", "3 3 [1 1 0]", "3 4 [1 1 0]", "3 3 [1 1 0]", "3 4 [1 1 0]", "4 4 [1 1 0]", "5 4 [1 1 0]", "6 4 [1 1 0]",
		}},
	} {
		l := pair.New()
		for i, p := range c.script {
			if err := l.Step(p); err != nil || shown(l) != c.want[i] {
				t.Errorf("%s, step %d: got %s %v, want %s", c.name, i, shown(l), err, c.want[i])
			}
		}
	}
}

// TestNoHand: wherever the hands stand, Step of a hand that is none tells ErrRange and changes nothing, then or later, and it stands at 0.
func TestNoHand(t *testing.T) {
	script := []int{0, 1, 0, 1, 0, 1, 0, 1, 0, 1, 0, 1, 1, 1, 1}
	l := pair.New()
	for i := range len(script) + 1 {
		for _, p := range none {
			if err := l.Step(p); plain.Told(err) != api.ErrRange {
				t.Errorf("after %v: step of %d: got %v", script[:i], p, err)
			}
			if got := l.At(p); got != 0 {
				t.Errorf("after %v: %d stands at %d", script[:i], p, got)
			}
		}
		if got, want := shown(l), shown(after(t, script[:i]...)); got != want {
			t.Errorf("after %v, and those that are no hands: got %s, want %s", script[:i], got, want)
		}
		if i == len(script) {
			break
		}
		if err := l.Step(script[i]); err != nil {
			t.Errorf("after %v: step of %d: got %v", script[:i], script[i], err)
		}
	}
}

// TestAsked: to ask changes nothing.
func TestAsked(t *testing.T) {
	script := []int{0, 1, 1, 0, 0, 0, 1, 1, 1, 0, 0}
	l := pair.New()
	for i, p := range script {
		for range 3 {
			for q := -1; q <= 2; q++ {
				l.At(q)
			}
			l.Words()
		}
		if err := l.Step(p); err != nil {
			t.Fatal(err)
		}
		if got, want := shown(l), shown(after(t, script[:i+1]...)); got != want {
			t.Errorf("after %v: got %s, want %s", script[:i+1], got, want)
		}
	}
}

// TestWordsFresh: Words are three, and fresh memory each time: what is written into them is not seen, nor are they changed by what comes after.
func TestWordsFresh(t *testing.T) {
	l := after(t, 0, 0, 0)
	want := []int{1, 0, 1}
	one, other := l.Words(), l.Words()
	for i := range one[:cap(one)] {
		one[:cap(one)][i] = -7
	}
	if !slices.Equal(other, want) || !slices.Equal(l.Words(), want) {
		t.Errorf("written into one answer, others are %v and %v", other, l.Words())
	}
	for range 2 {
		if err := l.Step(0); err != nil {
			t.Fatal(err)
		}
	}
	if got := shown(l); got != "1 1 [0 0 1]" || !slices.Equal(other, want) {
		t.Errorf("got %s, and what was told before is %v", got, other)
	}
	other = append(other, 5)
	if got := l.Words(); !slices.Equal(got, []int{0, 0, 1}) || other[3] != 5 {
		t.Errorf("got %v and %v", got, other)
	}
}

// TestApart: two locks share nothing, and a new one tells nothing of those before.
func TestApart(t *testing.T) {
	one, other := pair.New(), pair.New()
	first, second := []int{0, 0, 0, 1, 1, 1, 0, 0}, []int{1, 0, 1, 0, 1, 1, 1, 0}
	for i := range first {
		if err := one.Step(first[i]); err != nil {
			t.Fatal(err)
		}
		if got, want := shown(other), shown(after(t, second[:i]...)); got != want {
			t.Errorf("step %d of one lock: the other one is %s, want %s", i, got, want)
		}
		if err := other.Step(second[i]); err != nil {
			t.Fatal(err)
		}
		if got, want := shown(one), shown(after(t, first[:i+1]...)); got != want {
			t.Errorf("step %d of the other lock: the one is %s, want %s", i, got, want)
		}
	}
	if got := shown(pair.New()); got != "1 1 [0 0 0]" {
		t.Errorf("a new one is %s", got)
	}
}

// ExampleLock: hand 0 goes in, and hand 1 waits.
func ExampleLock() {
	l := pair.New()
	for _, p := range []int{0, 0, 0, 1, 1, 1} {
		if err := l.Step(p); err != nil {
			fmt.Println(err)
		}
	}
	fmt.Println(l.At(0), l.At(1), l.Words())
	fmt.Println(l.Step(2), l.At(2))
	// Output:
	// 5 4 [1 1 0]
	// ErrRange 0
}
