package snap_test

import (
	"fmt"
	"math"
	"slices"
	"testing"

	"latchgarth/api"
	"latchgarth/plain"
	"latchgarth/snap"
)

// noHands are numbers that are no hands of a board for n.
func noHands(n int) []int {
	return []int{
		-1, n, n + 1, 4, 5, 7, 8, -2, -n, -n - 1, 256, 257, 1 << 32, 1<<32 + 1,
		math.MinInt, math.MinInt + 1, math.MaxInt - 1, math.MaxInt,
	}
}

// noValues are numbers that no hand writes.
func noValues() []int {
	return []int{
		-1, api.MaxValue + 1, -2, -api.MaxValue, -api.MaxValue - 1, api.MaxValue + 2, 1 << 16, 1 << 32, 1<<32 + 1,
		math.MinInt, math.MinInt + 1, math.MaxInt - 1, math.MaxInt,
	}
}

// fresh is a new board for n hands, of which there may be so many.
func fresh(t *testing.T, n int) *snap.Board {
	t.Helper()
	b, err := snap.New(n)
	if err != nil {
		t.Fatalf("new board for %d: got %v", n, err)
	}
	return b
}

// shown is all that a board for n hands tells unless it is stepped: where they stand, and the values.
func shown(b *snap.Board, n int) string {
	lines := ""
	for p := range n {
		lines += fmt.Sprint(b.At(p), " ")
	}
	return lines + fmt.Sprint(b.Values())
}

// plainSteps are such as do not end what a hand does.
func plainSteps(t *testing.T, b *snap.Board, p, count int) {
	t.Helper()
	for i := range count {
		if done, seen, err := b.Step(p); done || len(seen) != 0 || err != nil {
			t.Fatalf("step %d of %d of hand %d: got %v %v %v", i, count, p, done, seen, err)
		}
	}
}

// write whole, by a hand of n that may begin it, while no other hand goes on.
func write(t *testing.T, b *snap.Board, n, p, value int) {
	t.Helper()
	if err := b.Write(p, value); err != nil {
		t.Fatalf("write of hand %d, value %d: got %v", p, value, err)
	}
	plainSteps(t, b, p, 2*n)
	if done, seen, err := b.Step(p); !done || len(seen) != 0 || err != nil {
		t.Fatalf("last step of hand %d, which writes %d: got %v %v %v", p, value, done, seen, err)
	}
}

// look whole, of a hand of n that may begin it, while no other hand goes on.
func look(t *testing.T, b *snap.Board, n, p int, want ...int) {
	t.Helper()
	if err := b.Look(p); err != nil {
		t.Fatalf("look of hand %d: got %v", p, err)
	}
	plainSteps(t, b, p, 2*n-1)
	if done, seen, err := b.Step(p); !done || !slices.Equal(seen, want) || err != nil {
		t.Fatalf("last step of hand %d, which looks: got %v %v %v, want %v", p, done, seen, err, want)
	}
}

// TestNew: for each number of hands that may be, all do nothing, all words are 0, and there is a word for each.
func TestNew(t *testing.T) {
	for i, want := range []string{"0 [0]", "0 0 [0 0]", "0 0 0 [0 0 0]", "0 0 0 0 [0 0 0 0]"} {
		n := i + 1
		b, err := snap.New(n)
		if err != nil || b == nil {
			t.Fatalf("for %d hands: got %v %v", n, b, err)
		}
		if got := shown(b, n); got != want {
			t.Errorf("for %d hands: got %s, want %s", n, got, want)
		}
		values := make([]int, n)
		for p := range n {
			look(t, b, n, p, values...)
			write(t, b, n, p, p+5)
			values[p] = p + 5
			look(t, b, n, p, values...)
			if got := b.Values(); !slices.Equal(got, values) {
				t.Errorf("for %d hands: got %v, want %v", n, got, values)
			}
		}
	}
}

// TestNewNone: for any other number there is no board, and ErrRange is told.
func TestNewNone(t *testing.T) {
	for _, n := range []int{
		0, -1, -2, -4, 5, 6, 8, 255, 256, 257, 1 << 32, 1<<32 + 1, -1 << 32, 1 - 1<<32,
		math.MinInt, math.MinInt + 1, math.MaxInt - 1, math.MaxInt,
	} {
		if b, err := snap.New(n); plain.Told(err) != api.ErrRange || b != nil {
			t.Errorf("for %d hands: got %v %v", n, b, err)
		}
	}
}

// TestBounds: the least and the greatest value that may be written are, by each hand, and what is one beyond either is not.
func TestBounds(t *testing.T) {
	for n := 1; n <= api.MaxHands; n++ {
		b, values := fresh(t, n), make([]int, n)
		for p := range n {
			for _, value := range []int{1000, 0, 1, 999, 0, 1000} {
				for _, wrong := range []int{-1, 1001} {
					if err := b.Write(p, wrong); plain.Told(err) != api.ErrRange || b.At(p) != 0 {
						t.Errorf("write of hand %d, value %d: got %v, and it is at line %d", p, wrong, err, b.At(p))
					}
				}
				write(t, b, n, p, value)
				values[p] = value
				look(t, b, n, p, values...)
			}
		}
	}
}

// TestBeginFirst: where several things are wrong, ErrRange is told ahead of ErrState; nothing changes, at whichever line the hand is, and whatever it does.
func TestBeginFirst(t *testing.T) {
	for begin, count := range map[act]int{{0, writes, 5}: 5, {0, looks, 0}: 4} {
		b := fresh(t, 2)
		begin.in(b)
		for range count {
			before := *b
			for _, value := range noValues() {
				for _, p := range []int{0, 1, 2, -1} {
					if err := b.Write(p, value); plain.Told(err) != api.ErrRange {
						t.Errorf("write of hand %d, value %d: got %v", p, value, err)
					}
				}
			}
			for _, value := range []int{0, 1, 5, 1000} {
				if err := b.Write(0, value); plain.Told(err) != api.ErrState {
					t.Errorf("write of hand 0, at line %d, value %d: got %v", b.At(0), value, err)
				}
			}
			if err := b.Look(0); plain.Told(err) != api.ErrState {
				t.Errorf("look of hand 0, at line %d: got %v", b.At(0), err)
			}
			if *b != before {
				t.Fatalf("what is wrong leads to %s, from %s", shown(b, 2), shown(&before, 2))
			}
			act{hand: 0}.in(b)
		}
		if at := b.At(0); at != 0 {
			t.Errorf("it is at line %d yet", at)
		}
	}
}

// TestNoHand: at each time, a hand that is none is told ErrRange, whatever it is asked for, changes nothing, and stands at 0.
func TestNoHand(t *testing.T) {
	for n := 1; n <= api.MaxHands; n++ {
		b := fresh(t, n)
		for _, a := range drawn(n, 200) {
			before := *b
			for _, p := range noHands(n) {
				for _, value := range []int{0, 1, api.MaxValue, -1, api.MaxValue + 1} {
					if err := b.Write(p, value); plain.Told(err) != api.ErrRange {
						t.Errorf("of %d: write of %d, value %d: got %v", n, p, value, err)
					}
				}
				if err := b.Look(p); plain.Told(err) != api.ErrRange {
					t.Errorf("of %d: look of %d: got %v", n, p, err)
				}
				if done, seen, err := b.Step(p); done || len(seen) != 0 || plain.Told(err) != api.ErrRange {
					t.Errorf("of %d: step of %d: got %v %v %v", n, p, done, seen, err)
				}
				if at := b.At(p); at != 0 {
					t.Errorf("of %d: %d stands at %d", n, p, at)
				}
			}
			if *b != before {
				t.Fatalf("of %d: those that are no hands lead to %s, from %s", n, shown(b, n), shown(&before, n))
			}
			a.in(b)
		}
	}
}

// TestNothing: at each time, a hand that does nothing is told ErrState by Step, which changes nothing, and it may begin; one that does something is told ErrState where it begins.
func TestNothing(t *testing.T) {
	for n := 1; n <= api.MaxHands; n++ {
		b := fresh(t, n)
		for _, a := range drawn(n, 300) {
			for p := range n {
				before, one, other := *b, *b, *b
				wants := []api.Errno{api.ErrState, api.OK, api.OK}
				if b.At(p) != 0 {
					wants = []api.Errno{api.OK, api.ErrState, api.ErrState}
				}
				_, _, err := b.Step(p)
				got := []api.Errno{plain.Told(err), plain.Told(one.Write(p, 3)), plain.Told(other.Look(p))}
				if !slices.Equal(got, wants) {
					t.Fatalf("of %d: step, write and look of hand %d, at %s: got %v, want %v", n, p, shown(&before, n), got, wants)
				}
				if before.At(p) == 0 && *b != before {
					t.Fatalf("of %d: step of hand %d, which does nothing, leads to %s, from %s", n, p, shown(b, n), shown(&before, n))
				}
				*b = before
			}
			a.in(b)
		}
	}
}

// TestAsked: to ask changes nothing.
func TestAsked(t *testing.T) {
	for n := 1; n <= api.MaxHands; n++ {
		b := fresh(t, n)
		for _, a := range drawn(n, 200) {
			before := *b
			for range 3 {
				for p := -1; p <= n; p++ {
					b.At(p)
				}
				b.Values()
			}
			if *b != before {
				t.Fatalf("of %d: to ask leads to %s, from %s", n, shown(b, n), shown(&before, n))
			}
			a.in(b)
		}
	}
}

// scrawl over a list, and what lies behind it.
func scrawl(list []int) {
	list = list[:cap(list)]
	for i := range list {
		list[i] = -7
	}
}

// TestFreshValues: what Values told is the caller's: what it writes there, and behind it, is told by no later call, and no later call writes there.
func TestFreshValues(t *testing.T) {
	for n := 1; n <= api.MaxHands; n++ {
		b, other := fresh(t, n), fresh(t, n)
		for _, a := range drawn(n, 600) {
			one, two := b.Values(), b.Values()
			kept := slices.Clone(two)
			scrawl(one)
			if !slices.Equal(two, kept) || !slices.Equal(b.Values(), kept) {
				t.Fatalf("of %d: what was written into one list is told: got %v and %v, want %v", n, two, b.Values(), kept)
			}
			got, want := a.in(b), a.in(other)
			if got != want || shown(b, n) != shown(other, n) {
				t.Fatalf("of %d: what was written into a list is told: got %v and %s, want %v and %s", n, got, shown(b, n), want, shown(other, n))
			}
			if !slices.Equal(two, kept) {
				t.Fatalf("of %d: a later call wrote into a list: got %v, want %v", n, two, kept)
			}
		}
	}
}

// TestFreshSeen: what Step told is the caller's as well, and no two of these lists share any.
func TestFreshSeen(t *testing.T) {
	for n := 1; n <= api.MaxHands; n++ {
		b, other := fresh(t, n), fresh(t, n)
		var lists, kept [][]int
		for i, a := range drawn(n, 3000) {
			if a.kind != steps {
				a.in(b)
				a.in(other)
				continue
			}
			_, seen, _ := b.Step(a.hand)
			if got, want := fmt.Sprint(seen), a.in(other).seen; got != want {
				t.Fatalf("of %d: what was written into a list is told: got %s, want %s", n, got, want)
			}
			if len(seen) == 0 {
				continue
			}
			if i%2 == 0 {
				scrawl(seen)
			}
			lists, kept = append(lists, seen), append(kept, slices.Clone(seen))
		}
		if len(lists) < 50 || !slices.EqualFunc(lists, kept, slices.Equal) {
			t.Fatalf("of %d: later calls wrote into lists, or there are few: got %v, want %v", n, lists, kept)
		}
	}
}

// TestFreshBorrowed: two hands see what a third one saw, and the lists that they are told share nothing, with one another or with its word.
func TestFreshBorrowed(t *testing.T) {
	b := fresh(t, 4)
	for p := range 3 {
		if err := b.Look(p); err != nil {
			t.Fatal(err)
		}
		plainSteps(t, b, p, 4)
	}
	write(t, b, 4, 3, 8)
	for p := range 3 {
		plainSteps(t, b, p, 4)
	}
	write(t, b, 4, 3, 9)
	var lists [][]int
	for p := range 3 {
		plainSteps(t, b, p, 3)
		done, seen, err := b.Step(p)
		if want := []int{0, 0, 0, 8}; !done || !slices.Equal(seen, want) || err != nil {
			t.Fatalf("hand %d: got %v %v %v, want %v", p, done, seen, err, want)
		}
		for _, list := range lists {
			scrawl(list)
		}
		if want := []int{0, 0, 0, 8}; !slices.Equal(seen, want) {
			t.Fatalf("hand %d shares what another one was told: got %v, want %v", p, seen, want)
		}
		lists = append(lists, seen)
		scrawl(seen)
	}
	look(t, b, 4, 0, 0, 0, 0, 9)
}

// TestApart: two boards share nothing, for as many hands or not, and a new one tells nothing of those before.
func TestApart(t *testing.T) {
	for n := 1; n <= api.MaxHands; n++ {
		for m := 1; m <= api.MaxHands; m++ {
			one, other := fresh(t, n), fresh(t, m)
			first, second := drawn(n, 250), drawn(m, 290)[40:]
			var ones, others []answer
			for i := range first {
				ones, others = append(ones, first[i].in(one)), append(others, second[i].in(other))
			}
			checkAlone(t, n, one, first, ones)
			checkAlone(t, m, other, second, others)
		}
	}
}

// checkAlone: a new board, to which alone the same is done, comes to the same, and tells the same.
func checkAlone(t *testing.T, n int, b *snap.Board, acts []act, told []answer) {
	t.Helper()
	alone := fresh(t, n)
	for i, a := range acts {
		if got := a.in(alone); got != told[i] {
			t.Fatalf("of %d, %v, the %dth one: got %v, beside another board %v", n, a, i, got, told[i])
		}
	}
	if *alone != *b {
		t.Fatalf("of %d: got %s, beside another board %s", n, shown(alone, n), shown(b, n))
	}
}

// TestTurns: however often a word was written between its first reading and its last one, and with whatever value, the turns are not the same, and its hand moved once.
func TestTurns(t *testing.T) {
	for _, times := range []int{1, 2, 3, 128, 255, 256, 257, 1 << 15, 1 << 16} {
		b := fresh(t, 2)
		if err := b.Look(0); err != nil {
			t.Fatal(err)
		}
		plainSteps(t, b, 0, 2)
		for range times {
			write(t, b, 2, 1, 0)
		}
		plainSteps(t, b, 0, 3)
		if done, seen, err := b.Step(0); !done || !slices.Equal(seen, []int{0, 0}) || err != nil {
			t.Errorf("written %d times: got %v %v %v", times, done, seen, err)
		}
	}
}

// ExampleBoard: hand 0 looks, while hand 1 writes twice; so it sees what hand 1 saw when it wrote the second time.
func ExampleBoard() {
	b, err := snap.New(2)
	if err != nil {
		fmt.Println(err)
	}
	fmt.Println(b.Look(0))
	for _, value := range []int{7, 8} {
		fmt.Println(b.Step(0))
		fmt.Println(b.Step(0))
		fmt.Println(b.Write(1, value), b.At(1))
		for range 5 {
			b.Step(1)
		}
	}
	fmt.Println(b.Step(0))
	fmt.Println(b.Step(0))
	fmt.Println(b.Values(), b.At(0), b.At(1))
	fmt.Println(b.Write(0, 1001), b.Look(2))
	_, err = snap.New(5)
	fmt.Println(err)
	// Output:
	// <nil>
	// false [] <nil>
	// false [] <nil>
	// <nil> 1
	// false [] <nil>
	// false [] <nil>
	// <nil> 1
	// false [] <nil>
	// true [0 7] <nil>
	// [0 8] 0 0
	// ErrRange ErrRange
	// ErrRange
}
