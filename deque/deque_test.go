package deque_test

import (
	"fmt"
	"math"
	"slices"
	"testing"

	"latchgarth/api"
	"latchgarth/deque"
	"latchgarth/plain"
)

// noHands are numbers that are no hands of a deque for n.
func noHands(n int) []int {
	return []int{
		-1, n, n + 1, 4, 5, 7, 8, -2, -n, -n - 1, 256, 257, 1 << 32, 1<<32 + 1,
		math.MinInt, math.MinInt + 1, math.MaxInt - 1, math.MaxInt,
	}
}

// noValues are numbers that are not pushed.
func noValues() []int {
	return []int{
		-1, api.MaxValue + 1, -2, -api.MaxValue, -api.MaxValue - 1, api.MaxValue + 2, 1 << 16, 1 << 32, 1<<32 + 1,
		math.MinInt, math.MinInt + 1, math.MaxInt - 1, math.MaxInt,
	}
}

// fresh is a new deque for n hands, of which there may be so many.
func fresh(t *testing.T, n int) *deque.Deque {
	t.Helper()
	d, err := deque.New(n)
	if err != nil {
		t.Fatalf("new deque for %d: got %v", n, err)
	}
	return d
}

// shown is all that a deque for n hands tells unless it is asked to do something: where they stand, the places, and Top and Bottom.
func shown(d *deque.Deque, n int) string {
	lines := ""
	for p := range n {
		lines += fmt.Sprint(d.At(p), " ")
	}
	top, bottom := d.Ends()
	return lines + fmt.Sprint(d.Places(), top, bottom)
}

// check what a deque tells of one act behind another; each has its own.
func check(t *testing.T, d *deque.Deque, acts []act, wants ...answer) {
	t.Helper()
	for i, a := range acts {
		if got := a.in(d); got != wants[i] {
			t.Fatalf("%v, the %dth of %v, which leads to %s: got %v, want %v", a, i, acts, shown(d, api.MaxHands), got, wants[i])
		}
	}
}

// checkWords of a deque whose hands do nothing.
func checkWords(t *testing.T, d *deque.Deque, places [8]int, top, bottom int) {
	t.Helper()
	if got, want := shown(d, 1), fmt.Sprint("0 ", places, top, bottom); got != want {
		t.Fatalf("got %s, want %s", got, want)
	}
}

// pushing is a whole push where there is room, stealing a whole steal where something is in, and nobody else goes on.
func pushing(value int) []act {
	return []act{{kind: pushes, value: value}, {}, {}, {}}
}

func stealing(p int) []act {
	return []act{{hand: p, kind: steals}, {hand: p}, {hand: p}, {hand: p}, {hand: p}}
}

// push whole: there is room.
func push(t *testing.T, d *deque.Deque, value int) {
	t.Helper()
	check(t, d, pushing(value), on, on, on, isIn)
}

// pushNone: a push that finds no room.
func pushNone(t *testing.T, d *deque.Deque, value int) {
	t.Helper()
	check(t, d, pushing(value), on, full, state, state)
}

// pop whole, while no other hand goes on: more than one is in.
func pop(t *testing.T, d *deque.Deque, want int) {
	t.Helper()
	check(t, d, []act{{kind: pops}, {}, {}, {}}, on, on, has(want), state)
}

// popLast likewise: one is in.
func popLast(t *testing.T, d *deque.Deque, want int) {
	t.Helper()
	check(t, d, []act{{kind: pops}, {}, {}, {}, {}, {}}, on, on, on, on, has(want), state)
}

// popNone likewise: nothing is in.
func popNone(t *testing.T, d *deque.Deque) {
	t.Helper()
	check(t, d, []act{{kind: pops}, {}, {}, {}, {}}, on, on, on, empty, state)
}

// steal whole, while no other hand goes on: something is in.
func steal(t *testing.T, d *deque.Deque, p, want int) {
	t.Helper()
	check(t, d, stealing(p), on, on, on, on, has(want))
}

// stealNone likewise: nothing is in.
func stealNone(t *testing.T, d *deque.Deque, p int) {
	t.Helper()
	check(t, d, stealing(p), on, on, empty, state, state)
}

// TestNew: for each number of hands that may be all do nothing, all places are 0, and nothing is in; hand 0 may push and pop, and each other one may steal.
func TestNew(t *testing.T) {
	for i, want := range []string{
		"0 [0 0 0 0 0 0 0 0] 0 0", "0 0 [0 0 0 0 0 0 0 0] 0 0", "0 0 0 [0 0 0 0 0 0 0 0] 0 0", "0 0 0 0 [0 0 0 0 0 0 0 0] 0 0",
	} {
		n := i + 1
		d, err := deque.New(n)
		if err != nil || d == nil {
			t.Fatalf("for %d hands: got %v %v", n, d, err)
		}
		if got := shown(d, n); got != want {
			t.Errorf("for %d hands: got %s, want %s", n, got, want)
		}
		popNone(t, d)
		for p := 1; p < n; p++ {
			stealNone(t, d, p)
			push(t, d, 5+p)
			steal(t, d, p, 5+p)
			stealNone(t, d, p)
		}
		check(t, d, []act{{hand: n, kind: steals}, {hand: 0, kind: steals}}, wrong, wrong)
		push(t, d, 3)
		push(t, d, 4)
		pop(t, d, 4)
		popLast(t, d, 3)
		popNone(t, d)
	}
}

// TestNewNone: for any other number there is no deque, and ErrRange is told.
func TestNewNone(t *testing.T) {
	for _, n := range []int{
		0, -1, -2, -4, 5, 6, 8, 255, 256, 257, 1 << 32, 1<<32 + 1, -1 << 32, 1 - 1<<32,
		math.MinInt, math.MinInt + 1, math.MaxInt - 1, math.MaxInt,
	} {
		if d, err := deque.New(n); plain.Told(err) != api.ErrRange || d != nil {
			t.Errorf("for %d hands: got %v %v", n, d, err)
		}
	}
}

// TestBounds: the least and the greatest value that may be pushed are, and popped, or stolen; what is beyond either is not, whatever hand 0 does, or whether there is room, and changes nothing.
func TestBounds(t *testing.T) {
	for n := 2; n <= api.MaxHands; n++ {
		d := fresh(t, n)
		for _, value := range []int{0, 1000, 1, 999, 0, 500, 1000, 255, 256, 257, 128} {
			checkNoValues(t, d)
			for i, a := range pushing(value) {
				check(t, d, []act{a}, []answer{on, on, on, isIn}[i])
				checkNoValues(t, d)
			}
			push(t, d, value)
			push(t, d, value)
			steal(t, d, n-1, value)
			pop(t, d, value)
			for i, a := range []act{{kind: pops}, {}, {}, {}, {}} {
				check(t, d, []act{a}, []answer{on, on, on, on, has(value)}[i])
				checkNoValues(t, d)
			}
		}
		for range 8 {
			push(t, d, 7)
		}
		checkNoValues(t, d)
	}
}

// checkNoValues: none of them is pushed.
func checkNoValues(t *testing.T, d *deque.Deque) {
	t.Helper()
	before := *d
	for _, value := range noValues() {
		check(t, d, []act{{kind: pushes, value: value}}, wrong)
	}
	if *d != before {
		t.Fatalf("what is not pushed leads to %s, from %s", shown(d, api.MaxHands), shown(&before, api.MaxHands))
	}
}

// TestBusy: at each line of hand 0, of a push or a pop, it begins nothing else, though of a value that is none ErrRange is told, and each other hand may begin to steal; at each line of another hand that one does not begin, and hand 0, and those that do nothing, may.
func TestBusy(t *testing.T) {
	for n := 2; n <= api.MaxHands; n++ {
		for in := range 9 {
			for _, begin := range []act{{kind: pushes, value: 9}, {kind: pops}, {hand: 1, kind: steals}, {hand: n - 1, kind: steals}} {
				d := fresh(t, n)
				for i := range in {
					push(t, d, i+1)
				}
				check(t, d, []act{begin}, on)
				for i := 0; i < 4 && d.At(begin.hand) != 0; i++ {
					checkBusy(t, d, n, begin.hand)
					d.Step(begin.hand)
				}
				checkBusy(t, d, n, -1)
			}
		}
	}
}

// checkBusy: one hand does something, if it is not -1, and begins nothing else; all others do nothing, and may begin.
func checkBusy(t *testing.T, d *deque.Deque, n, busy int) {
	t.Helper()
	checkNoValues(t, d)
	before := *d
	for p := range n {
		begins := []act{{hand: p, kind: steals}}
		if p == 0 {
			begins = []act{{kind: pushes}, {kind: pushes, value: 5}, {kind: pushes, value: 1000}, {kind: pops}}
		}
		for _, a := range begins {
			then, want := before, on
			if p == busy {
				want = state
			}
			if got := a.in(&then); got != want {
				t.Fatalf("%v, at %s: got %v, want %v", a, shown(&before, n), got, want)
			}
			if p == busy && then != before {
				t.Fatalf("%v leads to %s, from %s", a, shown(&then, n), shown(&before, n))
			}
			line := []int{pushes: 1, pops: 4, steals: 9}[a.kind]
			if p != busy && then.At(p) != line {
				t.Fatalf("%v leads to %s, from %s", a, shown(&then, n), shown(&before, n))
			}
		}
	}
}

// TestNoHand: at each time, one that is no hand is told ErrRange, whatever it is asked for, as is hand 0 that is to steal; that changes nothing; and who is no hand stands at 0.
func TestNoHand(t *testing.T) {
	for n := 1; n <= api.MaxHands; n++ {
		d := fresh(t, n)
		for _, a := range drawn(n, 300) {
			before := *d
			for _, p := range noHands(n) {
				check(t, d, []act{{hand: p, kind: steals}, {hand: p}}, wrong, wrong)
				if at := d.At(p); at != 0 {
					t.Errorf("of %d: %d stands at %d", n, p, at)
				}
			}
			check(t, d, []act{{hand: 0, kind: steals}}, wrong)
			if *d != before {
				t.Fatalf("of %d: those that are no hands lead to %s, from %s", n, shown(d, n), shown(&before, n))
			}
			a.in(d)
		}
	}
}

// TestNothing: at each time, a hand that does nothing is told ErrState by Step, which changes nothing; one that does something is not.
func TestNothing(t *testing.T) {
	for n := 1; n <= api.MaxHands; n++ {
		d := fresh(t, n)
		for _, a := range drawn(n, 300) {
			for p := range n {
				then := *d
				got := act{hand: p}.in(&then)
				if nothing := d.At(p) == 0; nothing != (got == state) || nothing && then != *d || !nothing && got.err != api.OK {
					t.Fatalf("of %d: step of hand %d, at %s: got %v, and %s", n, p, shown(d, n), got, shown(&then, n))
				}
			}
			a.in(d)
		}
	}
}

// TestFull: no more is pushed than there are places; where one is popped, or stolen, there is room for one, and for no more.
func TestFull(t *testing.T) {
	for round := range 20 {
		d := fresh(t, 2)
		for i := range round {
			push(t, d, 500+i)
			steal(t, d, 1, 500+i)
		}
		var places [8]int
		for i := range 8 {
			push(t, d, i+1)
			places[(round+i)%8] = i + 1
		}
		for i := range 20 {
			checkWords(t, d, places, round+i, round+i+8)
			pushNone(t, d, 100+i)
			checkWords(t, d, places, round+i, round+i+8)
			pop(t, d, places[(round+i+7)%8])
			push(t, d, 200+i)
			places[(round+i+7)%8] = 200 + i
			pushNone(t, d, 300+i)
			checkWords(t, d, places, round+i, round+i+8)
			steal(t, d, 1, places[(round+i)%8])
			push(t, d, 400+i)
			places[(round+i)%8] = 400 + i
		}
	}
}

// TestEnds: what was pushed last is popped first, and what was pushed first is stolen first, however many of each; places are used again, and Top and Bottom go on rising.
func TestEnds(t *testing.T) {
	for n := 2; n <= api.MaxHands; n++ {
		for in := 1; in <= 8; in++ {
			for stolen := range in + 1 {
				checkEnds(t, n, in, stolen)
			}
		}
	}
}

// checkEnds: so many are pushed, some of them stolen, and the others popped, again and again.
func checkEnds(t *testing.T, n, in, stolen int) {
	t.Helper()
	d, places, from := fresh(t, n), [8]int{}, 0
	for round := range 9 {
		for i := range in {
			push(t, d, 10*round+i)
			places[(from+i)%8] = 10*round + i
			checkWords(t, d, places, from, from+i+1)
		}
		for i := range stolen {
			steal(t, d, 1+(round+i)%(n-1), 10*round+i)
			checkWords(t, d, places, from+i+1, from+in)
		}
		for i := in - 1; i > stolen; i-- {
			pop(t, d, 10*round+i)
			checkWords(t, d, places, from+stolen, from+i)
		}
		from += stolen
		if stolen < in {
			popLast(t, d, 10*round+stolen)
			from++
		}
		popNone(t, d)
		stealNone(t, d, n-1)
		checkWords(t, d, places, from, from)
	}
}

// TestSlides: some are in all the time, while one is pushed behind them, and the one ahead of all is stolen; where all places are taken then, none is pushed.
func TestSlides(t *testing.T) {
	for n := 2; n <= api.MaxHands; n++ {
		for in := range 8 {
			d, places := fresh(t, n), [8]int{}
			for i := range 40 {
				push(t, d, 900-i)
				places[i%8] = 900 - i
				checkWords(t, d, places, max(i-in, 0), i+1)
				if i >= in {
					if in == 7 {
						pushNone(t, d, 1)
					}
					steal(t, d, 1+i%(n-1), 900-i+in)
					checkWords(t, d, places, i-in+1, i+1)
				}
			}
		}
	}
}

// TestRises: Top and Bottom have no bound that few bits would have.
func TestRises(t *testing.T) {
	for n := 1; n <= 2; n++ {
		d := fresh(t, n)
		for i := 1; i <= 1<<17; i++ {
			push(t, d, i%1001)
			if n > 1 {
				steal(t, d, 1, i%1001)
			} else {
				popLast(t, d, i%1001)
			}
			if top, bottom := d.Ends(); top != i || bottom != i {
				t.Fatalf("of %d, behind %d: got %d %d", n, i, top, bottom)
			}
		}
	}
}

// TestPlacesOwn: what Places hands out is the caller's own: nobody else writes into it, and what is written into it, or put behind it, nobody else sees.
func TestPlacesOwn(t *testing.T) {
	for n := 1; n <= api.MaxHands; n++ {
		d := fresh(t, n)
		for _, a := range drawn(n, 200) {
			before, places := *d, d.Places()
			first := slices.Clone(places)
			if len(places) != 8 {
				t.Fatalf("of %d: got %v", n, places)
			}
			other := d.Places()
			for i := range other {
				other[i] = -7
			}
			_ = append(other[:0], slices.Repeat([]int{-8}, cap(other))...)
			if !slices.Equal(places, first) || !slices.Equal(d.Places(), first) || *d != before {
				t.Fatalf("of %d: %v, written into, leads to %v and %v", n, first, places, d.Places())
			}
			a.in(d)
			if !slices.Equal(places, first) {
				t.Fatalf("of %d, %v: %v is %v now", n, a, first, places)
			}
		}
	}
}

// TestAsked: to ask changes nothing.
func TestAsked(t *testing.T) {
	for n := 1; n <= api.MaxHands; n++ {
		d := fresh(t, n)
		for _, a := range drawn(n, 200) {
			before, told := *d, shown(d, n)
			for range 3 {
				if got := shown(d, n); got != told || *d != before {
					t.Fatalf("of %d: got %s, from %s", n, got, told)
				}
			}
			a.in(d)
		}
	}
}

// TestApart: two deques share nothing, for as many hands or not, and a new one tells nothing of those before.
func TestApart(t *testing.T) {
	for n := 1; n <= api.MaxHands; n++ {
		for m := 1; m <= api.MaxHands; m++ {
			one, other := fresh(t, n), fresh(t, m)
			first, second := drawn(n, 250), drawn(m, 290)[40:]
			var ones, others []answer
			for i := range first {
				ones, others = append(ones, first[i].in(one)), append(others, second[i].in(other))
			}
			checkSame(t, n, one, first, ones)
			checkSame(t, m, other, second, others)
		}
	}
}

// checkSame: a new deque, to which alone the same is done, comes to the same, and tells the same.
func checkSame(t *testing.T, n int, d *deque.Deque, acts []act, told []answer) {
	t.Helper()
	alone := fresh(t, n)
	check(t, alone, acts, told...)
	if *alone != *d {
		t.Fatalf("of %d: got %s, beside another deque %s", n, shown(alone, n), shown(d, n))
	}
}

// ExampleDeque: hand 0 pushes three values, and hand 1 steals the first one; hand 0 pops the last one, and begins to pop the other one, which hand 1 is about to steal; hand 0 is first, and hand 1 comes too late.
func ExampleDeque() {
	d, err := deque.New(2)
	if err != nil {
		fmt.Println(err)
	}
	for _, value := range []int{5, 6, 7} {
		fmt.Println(d.Push(value))
		for range 3 {
			fmt.Println(d.Step(0))
		}
	}
	fmt.Println(d.Steal(1))
	for range 4 {
		fmt.Println(d.Step(1))
	}
	fmt.Println(d.Pop())
	for range 2 {
		fmt.Println(d.Step(0))
	}
	fmt.Println(d.Ends())
	fmt.Println(d.Steal(1))
	for range 3 {
		fmt.Println(d.Step(1))
	}
	fmt.Println(d.Pop())
	for range 3 {
		fmt.Println(d.Step(0))
	}
	fmt.Println(d.Ends())
	fmt.Println(d.At(0), d.At(1))
	fmt.Println(d.Step(1))
	fmt.Println(d.Step(0))
	fmt.Println(d.Ends())
	fmt.Println(d.Places())
	fmt.Println(d.Step(0))
	fmt.Println(d.Push(1001), d.Steal(0))
	_, err = deque.New(5)
	fmt.Println(err)
	// Output:
	// <nil>
	// false 0 <nil>
	// false 0 <nil>
	// true -1 <nil>
	// <nil>
	// false 0 <nil>
	// false 0 <nil>
	// true -1 <nil>
	// <nil>
	// false 0 <nil>
	// false 0 <nil>
	// true -1 <nil>
	// <nil>
	// false 0 <nil>
	// false 0 <nil>
	// false 0 <nil>
	// true 5 <nil>
	// <nil>
	// false 0 <nil>
	// true 7 <nil>
	// 1 2
	// <nil>
	// false 0 <nil>
	// false 0 <nil>
	// false 0 <nil>
	// <nil>
	// false 0 <nil>
	// false 0 <nil>
	// false 0 <nil>
	// 2 1
	// 8 12
	// true -2 <nil>
	// true 6 <nil>
	// 2 2
	// [5 6 7 0 0 0 0 0]
	// false 0 ErrState
	// ErrRange ErrRange
	// ErrRange
}
