package ticket_test

import (
	"fmt"
	"math"
	"slices"
	"strconv"
	"strings"
	"testing"

	"latchgarth/api"
	"latchgarth/plain"
	"latchgarth/ticket"
)

// noHands are numbers that are no hands of a lock for n.
func noHands(n int) []int {
	return []int{
		-1, n, n + 1, 4, 5, 7, 8, -2, -n, -n - 1, 256, 257, 1 << 32, 1<<32 + 1,
		math.MinInt, math.MinInt + 1, math.MaxInt - 1, math.MaxInt,
	}
}

// fresh is a new lock for n hands, of which there may be so many.
func fresh(t *testing.T, n int) *ticket.Lock {
	t.Helper()
	l, err := ticket.New(n)
	if err != nil {
		t.Fatalf("new lock for %d: got %v", n, err)
	}
	return l
}

// shown is all that a lock for n hands tells: where they stand, and its words.
func shown(l *ticket.Lock, n int) string {
	out := ""
	for p := range n {
		out += fmt.Sprint(l.At(p), " ")
	}
	return out + fmt.Sprint(l.Words())
}

// step of a hand that is one.
func step(t *testing.T, l *ticket.Lock, p int) {
	t.Helper()
	if err := l.Step(p); err != nil {
		t.Fatalf("step of hand %d, words %v: got %v", p, l.Words(), err)
	}
}

// script of hands, a digit each, or 0x7: hand 0 seven times; spaces are for the eye.
func script(text string) []int {
	var out []int
	for _, part := range strings.Fields(text) {
		hand, times, many := strings.Cut(part, "x")
		if many {
			count, err := strconv.Atoi(times)
			if err != nil {
				panic(err)
			}
			hand = strings.Repeat(hand, count)
		}
		for _, c := range hand {
			out = append(out, int(c-'0'))
		}
	}
	return out
}

// after is a new lock for n hands after a script of them.
func after(t *testing.T, n int, script []int) *ticket.Lock {
	t.Helper()
	l := fresh(t, n)
	for _, p := range script {
		step(t, l, p)
	}
	return l
}

// TestNew: for each number of hands that may be, all stand at line 1, and both words are 0.
func TestNew(t *testing.T) {
	for i, want := range []string{"1 [0 0]", "1 1 [0 0]", "1 1 1 [0 0]", "1 1 1 1 [0 0]"} {
		n := i + 1
		l, err := ticket.New(n)
		if err != nil || l == nil {
			t.Fatalf("for %d hands: got %v %v", n, l, err)
		}
		if got := shown(l, n); got != want {
			t.Errorf("for %d hands: got %s, want %s", n, got, want)
		}
	}
}

// TestNewNone: for any other number there is no lock, and ErrRange is told.
func TestNewNone(t *testing.T) {
	for _, n := range []int{
		0, -1, -2, -4, 5, 6, 8, 255, 256, 257, 1 << 32, 1<<32 + 1, -1 << 32, 1 - 1<<32,
		math.MinInt, math.MinInt + 1, math.MaxInt - 1, math.MaxInt,
	} {
		if l, err := ticket.New(n); plain.Told(err) != api.ErrRange || l != nil {
			t.Errorf("for %d hands: got %v %v", n, l, err)
		}
	}
}

// lined is a script, and what is told behind the line that ends it.
type lined struct{ name, script, want string }

func checkLines(t *testing.T, n int, cases []lined) {
	t.Helper()
	for _, c := range cases {
		if got := shown(after(t, n, script(c.script)), n); got != c.want {
			t.Errorf("%s: after %s got %s, want %s", c.name, c.script, got, c.want)
		}
	}
}

// TestLinesOf1: a hand that is the only one waits for none.
func TestLinesOf1(t *testing.T) {
	checkLines(t, 1, []lined{
		{"line 1", "0", "2 [1 0]"},
		{"line 2", "00", "3 [1 0]"},
		{"line 3", "000", "4 [1 0]"},
		{"line 4", "0000", "1 [1 1]"},
		{"line 1 once more", "0x5", "2 [2 1]"},
		{"line 2 once more", "0x6", "3 [2 1]"},
		{"line 3 once more", "0x7", "4 [2 1]"},
		{"line 4 once more", "0x8", "1 [2 2]"},
		{"in for the third time", "0x10", "3 [3 2]"},
	})
}

// TestLinesOf2: each line of either of two hands, both ways where it asks.
func TestLinesOf2(t *testing.T) {
	checkLines(t, 2, []lined{
		{"hand 0, line 1, Next is 0", "0", "2 1 [1 0]"},
		{"hand 0, line 1, Next is 1", "1 0", "2 2 [2 0]"},
		{"hand 0, line 1, Next is 1, and so is Now", "1111 0", "2 1 [2 1]"},
		{"hand 0, line 1, Next is 2", "1111 1 0", "2 2 [3 1]"},
		{"hand 0, line 2, Now is t", "00", "3 1 [1 0]"},
		{"hand 0, line 2, Now is t, another one drew behind it", "0 1 0", "3 2 [2 0]"},
		{"hand 0, line 2, Now is t, another one drew and looked", "0 11 0", "3 2 [2 0]"},
		{"hand 0, line 2, Now is below t", "1 00", "2 2 [2 0]"},
		{"hand 0, line 2, Now is still below t", "1 0x9", "2 2 [2 0]"},
		{"hand 0, line 2, Now is below t, the other one is in", "11 00", "2 3 [2 0]"},
		{"hand 0, line 2, Now is below t, the other one was in", "111 00", "2 4 [2 0]"},
		{"hand 0, line 2, Now is t by now", "111 00 1 0", "3 1 [2 1]"},
		{"hand 0, line 2, Now is t, the other one drew again", "1 0 111 1 0", "3 2 [3 1]"},
		{"hand 0, line 3", "000", "4 1 [1 0]"},
		{"hand 0, line 3, the other one waits", "00 11 0", "4 2 [2 0]"},
		{"hand 0, line 4, Next is t + 1", "0000", "1 1 [1 1]"},
		{"hand 0, line 4, Next is more", "000 1 0", "1 2 [2 1]"},
		{"hand 0, line 4, t is 1", "1111 0x4", "1 1 [2 2]"},
		{"hand 0, line 4, t is 1, Next is more", "1111 0 1 000", "1 2 [3 2]"},
		{"hand 0, line 1 once more", "0x5", "2 1 [2 1]"},
		{"hand 0, line 2 once more, Now is t", "0x6", "3 1 [2 1]"},
		{"hand 0, line 2 once more, Now is below t", "0 1 000 00", "2 2 [3 1]"},

		{"hand 1, line 1, Next is 0", "1", "1 2 [1 0]"},
		{"hand 1, line 1, Next is 1", "0 1", "2 2 [2 0]"},
		{"hand 1, line 1, Next is 1, and so is Now", "0000 1", "1 2 [2 1]"},
		{"hand 1, line 1, Next is 2", "0000 0 1", "2 2 [3 1]"},
		{"hand 1, line 2, Now is t", "11", "1 3 [1 0]"},
		{"hand 1, line 2, Now is t, another one drew behind it", "1 0 1", "2 3 [2 0]"},
		{"hand 1, line 2, Now is t, another one drew and looked", "1 00 1", "2 3 [2 0]"},
		{"hand 1, line 2, Now is below t", "0 11", "2 2 [2 0]"},
		{"hand 1, line 2, Now is still below t", "0 1x9", "2 2 [2 0]"},
		{"hand 1, line 2, Now is below t, the other one is in", "00 11", "3 2 [2 0]"},
		{"hand 1, line 2, Now is below t, the other one was in", "000 11", "4 2 [2 0]"},
		{"hand 1, line 2, Now is t by now", "000 11 0 1", "1 3 [2 1]"},
		{"hand 1, line 2, Now is t, the other one drew again", "0 1 000 0 1", "2 3 [3 1]"},
		{"hand 1, line 3", "111", "1 4 [1 0]"},
		{"hand 1, line 3, the other one waits", "11 00 1", "2 4 [2 0]"},
		{"hand 1, line 4, Next is t + 1", "1111", "1 1 [1 1]"},
		{"hand 1, line 4, Next is more", "111 0 1", "2 1 [2 1]"},
		{"hand 1, line 4, t is 1", "0000 1x4", "1 1 [2 2]"},
		{"hand 1, line 4, t is 1, Next is more", "0000 1 0 111", "2 1 [3 2]"},
		{"hand 1, line 1 once more", "1x5", "1 2 [2 1]"},
		{"hand 1, line 2 once more, Now is t", "1x6", "1 3 [2 1]"},
		{"hand 1, line 2 once more, Now is below t", "1 0 111 11", "2 2 [3 1]"},
	})
}

// TestLinesOf3: what lines 1, 2 and 4 do where there are two others.
func TestLinesOf3(t *testing.T) {
	checkLines(t, 3, []lined{
		{"line 1, two drew ahead of it", "2 0 1", "2 2 2 [3 0]"},
		{"line 1, two drew ahead of it, and one is in", "2 0 2 1", "2 2 3 [3 0]"},
		{"line 1, two drew ahead of it, and one is out", "2 0 222 1", "2 2 1 [3 1]"},
		{"line 1, two drew ahead of it, and both are out", "2 0 222 000 1", "1 2 1 [3 2]"},
		{"line 2, Now is t", "1 0 2 1", "2 3 2 [3 0]"},
		{"line 2, Now is 1 below t", "0 1 2 1", "2 2 2 [3 0]"},
		{"line 2, Now is 2 below t", "0 2 11", "2 2 2 [3 0]"},
		{"line 2, Now is 1 below t, one is out", "0 2 1 000 1", "1 2 2 [3 1]"},
		{"line 2, Now is t, two are out", "0 2 1 000 222 1", "1 3 1 [3 2]"},
		{"line 3", "1 0 2 11", "2 4 2 [3 0]"},
		{"line 4, the first one", "1 0 2 111", "2 1 2 [3 1]"},
		{"line 4, the one in the middle", "0 1 2 000 111", "1 1 2 [3 2]"},
		{"line 4, the last one", "0 2 1 000 222 111", "1 1 1 [3 3]"},
		{"line 4, the last one, all others drew again", "0 2 1 000 222 02 111", "2 1 2 [5 3]"},
	})
}

// TestLinesOf4: one hand alone, and four that drew one by one.
func TestLinesOf4(t *testing.T) {
	checkLines(t, 4, []lined{
		{"hand 3, line 1", "3", "1 1 1 2 [1 0]"},
		{"hand 3, line 2", "33", "1 1 1 3 [1 0]"},
		{"hand 3, line 3", "333", "1 1 1 4 [1 0]"},
		{"hand 3, line 4", "3333", "1 1 1 1 [1 1]"},
		{"hand 3, in once more", "3x6", "1 1 1 3 [2 1]"},
		{"one by one, none may come in but the first one", "2 0 3 1 1 3 0", "2 2 2 2 [4 0]"},
		{"one by one, the first one is in", "2 0 3 1 1 3 0 2", "2 2 3 2 [4 0]"},
		{"one by one, the second one is in", "2 0 3 1 222 1 3 2 0", "3 2 2 2 [5 1]"},
		{"one by one, the third one is in", "2 0 3 1 222 000 1 2 0 3", "2 2 2 3 [6 2]"},
		{"one by one, the last one is in", "2 0 3 1 222 000 333 2 0 3 1", "2 3 2 2 [7 3]"},
		{"one by one, all are out", "2 0 3 1 222 000 333 111", "1 1 1 1 [4 4]"},
		{"one by one, the first one again", "2 0 3 1 222 2 000 333 111 0 2", "2 1 3 1 [6 4]"},
	})
}

// TestOwnStays: what a hand drew stays its own while others draw behind it, come in ahead of it, and draw again.
func TestOwnStays(t *testing.T) {
	checkLines(t, 2, []lined{
		{"it drew first, the other one draws: it comes in", "0 1 0", "3 2 [2 0]"},
		{"it drew first, the other one draws: the other one stays", "0 1 1", "2 2 [2 0]"},
		{"it is in, the other one draws: Now is one more, and not Next", "00 1 00", "1 2 [2 1]"},
		{"it drew last, the other one draws again: it comes in", "1 0 1111 0", "3 2 [3 1]"},
		{"it drew last, the other one draws again: the other one stays", "1 0 1111 1", "2 2 [3 1]"},
		{"it was in with 1, the other one has 2: Now is 2", "1 0 1111 000", "1 2 [3 2]"},
	})
	checkLines(t, 4, []lined{
		{"three draw behind it: it comes in", "3 2 1 0 3", "2 2 2 3 [4 0]"},
		{"three draw behind it: Now is 1", "3 2 1 0 333", "2 2 2 1 [4 1]"},
		{"three draw behind it, and it again: its second one is 4", "3 2 1 0 3333 222 111 000 333", "1 1 1 1 [5 5]"},
		{"three draw behind it, and it again: it waits for all", "3 2 1 0 3333 222 111 00 3", "4 1 1 2 [5 3]"},
	})
}

// TestScripts: what is told step by step.
func TestScripts(t *testing.T) {
	for _, c := range []struct {
		name   string
		n      int
		script string
		want   []string
	}{
		{"one hand, twice round", 1, "0x8", []string{
			"2 [1 0]", "3 [1 0]", "4 [1 0]", "1 [1 1]", "2 [2 1]", "3 [2 1]", "4 [2 1]", "1 [2 2]",
		}},
		{"two hands, turn by turn", 2, "01 01 01 01 01 01 01 01", []string{
			"2 1 [1 0]", "2 2 [2 0]", "3 2 [2 0]", "3 2 [2 0]", "4 2 [2 0]", "4 2 [2 0]", "1 2 [2 1]", "1 3 [2 1]",
			"2 3 [3 1]", "2 4 [3 1]", "2 4 [3 1]", "2 1 [3 2]", "3 1 [3 2]", "3 2 [4 2]", "4 2 [4 2]", "4 2 [4 2]",
		}},
		{"three hands", 3, "1 2 1 0 2 1 0 1 1 2 0 2 1 2 0 0 2 0 0 1", []string{
			"1 2 1 [1 0]", "1 2 2 [2 0]", "1 3 2 [2 0]", "2 3 2 [3 0]", "2 3 2 [3 0]", "2 4 2 [3 0]", "2 4 2 [3 0]",
			"2 1 2 [3 1]", "2 2 2 [4 1]", "2 2 3 [4 1]", "2 2 3 [4 1]", "2 2 4 [4 1]", "2 2 4 [4 1]", "2 2 1 [4 2]",
			"3 2 1 [4 2]", "4 2 1 [4 2]", "4 2 2 [5 2]", "1 2 2 [5 3]", "2 2 2 [6 3]", "2 3 2 [6 3]",
		}},
		{"four hands", 4, "3 1 0 2 2 0 1 3 3 3 3 2 1 1 1 2 0 0 0 3 2 2", []string{
			"1 1 1 2 [1 0]", "1 2 1 2 [2 0]", "2 2 1 2 [3 0]", "2 2 2 2 [4 0]",
			"2 2 2 2 [4 0]", "2 2 2 2 [4 0]", "2 2 2 2 [4 0]", "2 2 2 3 [4 0]", "2 2 2 4 [4 0]", "2 2 2 1 [4 1]", "2 2 2 2 [5 1]",
			"2 2 2 2 [5 1]", "2 3 2 2 [5 1]", "2 4 2 2 [5 1]", "2 1 2 2 [5 2]",
			"2 1 2 2 [5 2]", "3 1 2 2 [5 2]", "4 1 2 2 [5 2]", "1 1 2 2 [5 3]",
			"1 1 2 2 [5 3]", "1 1 3 2 [5 3]", "1 1 4 2 [5 3]",
		}},
	} {
		l := fresh(t, c.n)
		steps := script(c.script)
		if len(steps) != len(c.want) {
			t.Fatalf("%s: %d steps, and %d wanted", c.name, len(steps), len(c.want))
		}
		for i, p := range steps {
			if err := l.Step(p); err != nil || shown(l, c.n) != c.want[i] {
				t.Errorf("%s, step %d: got %s %v, want %s", c.name, i, shown(l, c.n), err, c.want[i])
			}
		}
	}
}

// TestTicketsGrow: each ticket is one more than the last one, however often hands were in.
func TestTicketsGrow(t *testing.T) {
	for n := 1; n <= api.MaxHands; n++ {
		l := fresh(t, n)
		for round := range 70000 {
			p := round % n
			for range 4 {
				step(t, l, p)
			}
			if got, want := l.Words(), []int{round + 1, round + 1}; !slices.Equal(got, want) {
				t.Fatalf("of %d, after %d rounds: got %v", n, round+1, got)
			}
		}
	}
}

// TestForgotten: a hand's t is 0 at line 1, so that a lock tells nothing of who was in. It leans on a lock being a value.
func TestForgotten(t *testing.T) {
	one, other := after(t, 3, script("0 2 1 000 222 111")), after(t, 3, script("1x4 1x4 1x4"))
	if *one != *other {
		t.Errorf("three tickets are out: one lock is %v, the other one %v", *one, *other)
	}
}

// TestNoHand: wherever the hands stand, Step of a hand that is none tells ErrRange and changes nothing, then or later, and it stands at 0.
func TestNoHand(t *testing.T) {
	for n := 1; n <= api.MaxHands; n++ {
		steps := drawn(n, 120)
		l := fresh(t, n)
		for i := range len(steps) + 1 {
			for _, p := range noHands(n) {
				if err := l.Step(p); plain.Told(err) != api.ErrRange {
					t.Errorf("of %d, after %v: step of %d: got %v", n, steps[:i], p, err)
				}
				if got := l.At(p); got != 0 {
					t.Errorf("of %d, after %v: %d stands at %d", n, steps[:i], p, got)
				}
			}
			if got, want := shown(l, n), shown(after(t, n, steps[:i]), n); got != want {
				t.Errorf("of %d, after %v, and those that are no hands: got %s, want %s", n, steps[:i], got, want)
			}
			if i < len(steps) {
				step(t, l, steps[i])
			}
		}
	}
}

// TestAsked: to ask changes nothing.
func TestAsked(t *testing.T) {
	for n := 1; n <= api.MaxHands; n++ {
		steps := drawn(n, 120)
		l := fresh(t, n)
		for i, p := range steps {
			for range 3 {
				for q := -1; q <= n; q++ {
					l.At(q)
				}
				l.Words()
			}
			step(t, l, p)
			if got, want := shown(l, n), shown(after(t, n, steps[:i+1]), n); got != want {
				t.Errorf("of %d, after %v: got %s, want %s", n, steps[:i+1], got, want)
			}
		}
	}
}

// TestWordsFresh: Words are fresh memory each time: what is written into them, or behind them, is not seen, nor are they changed by what comes after.
func TestWordsFresh(t *testing.T) {
	for n := 1; n <= api.MaxHands; n++ {
		steps := drawn(n, 60)
		l, same := after(t, n, steps), after(t, n, steps)
		want := slices.Clone(same.Words())
		if len(want) != 2 {
			t.Fatalf("for %d hands there are the words %v", n, want)
		}
		one, other := l.Words(), l.Words()
		for i := range one[:cap(one)] {
			one[:cap(one)][i] = -7
		}
		if !slices.Equal(other, want) || !slices.Equal(l.Words(), want) {
			t.Errorf("of %d: written into one answer, others are %v and %v, want %v", n, other, l.Words(), want)
		}
		for _, p := range drawn(n, 60) {
			step(t, l, p)
			step(t, same, p)
			if got, want := shown(l, n), shown(same, n); got != want {
				t.Fatalf("of %d: written into what was told, got %s, want %s", n, got, want)
			}
		}
		if !slices.Equal(other, want) {
			t.Errorf("of %d: what was told before is %v, and was %v", n, other, want)
		}
	}
}

// TestApart: two locks share nothing, for as many hands or not, and a new one tells nothing of those before.
func TestApart(t *testing.T) {
	for n := 1; n <= api.MaxHands; n++ {
		for m := 1; m <= api.MaxHands; m++ {
			one, other := fresh(t, n), fresh(t, m)
			first, second := drawn(n, 60), drawn(m, 90)[30:]
			for i := range first {
				step(t, one, first[i])
				if got, want := shown(other, m), shown(after(t, m, second[:i]), m); got != want {
					t.Errorf("step %d of one lock for %d: the other one is %s, want %s", i, n, got, want)
				}
				step(t, other, second[i])
				if got, want := shown(one, n), shown(after(t, n, first[:i+1]), n); got != want {
					t.Errorf("step %d of the other lock for %d: the one is %s, want %s", i, m, got, want)
				}
			}
			if got, want := shown(fresh(t, n), n), strings.Repeat("1 ", n)+"[0 0]"; got != want {
				t.Errorf("a new one for %d is %s", n, got)
			}
		}
	}
}

// ExampleLock: hand 0 is in, hand 1 waits for it, and hand 2 has not drawn.
func ExampleLock() {
	l, err := ticket.New(3)
	if err != nil {
		fmt.Println(err)
	}
	for _, p := range []int{0, 1, 1, 0} {
		if err := l.Step(p); err != nil {
			fmt.Println(err)
		}
	}
	fmt.Println(l.At(0), l.At(1), l.At(2), l.Words())
	fmt.Println(l.Step(3), l.At(3))
	_, err = ticket.New(5)
	fmt.Println(err)
	// Output:
	// 3 2 1 [2 0]
	// ErrRange 0
	// ErrRange
}
