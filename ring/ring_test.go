package ring_test

import (
	"fmt"
	"math"
	"slices"
	"testing"

	"latchgarth/api"
	"latchgarth/plain"
	"latchgarth/ring"
)

// noValues are numbers that are not put in.
func noValues() []int {
	return []int{
		-1, api.MaxValue + 1, -2, -api.MaxValue, -api.MaxValue - 1, api.MaxValue + 2, 1 << 16, 1 << 32, 1<<32 + 1,
		math.MinInt, math.MinInt + 1, math.MaxInt - 1, math.MaxInt,
	}
}

// fresh is a new ring of so many places, of which there may be so many.
func fresh(t *testing.T, size int) *ring.Ring {
	t.Helper()
	r, err := ring.New(size)
	if err != nil {
		t.Fatalf("new ring of %d: got %v", size, err)
	}
	return r
}

// shown is all that a ring tells unless it is asked to do something.
func shown(r *ring.Ring) string {
	head, tail := r.Ends()
	return fmt.Sprint(r.Places(), head, tail)
}

// checkShown: a ring's places, Head and Tail.
func checkShown(t *testing.T, r *ring.Ring, places []int, head, tail int) {
	t.Helper()
	if got, want := shown(r), fmt.Sprint(places, head, tail); got != want {
		t.Fatalf("got %s, want %s", got, want)
	}
}

// check what a ring tells of one act behind another; each has its own.
func check(t *testing.T, r *ring.Ring, acts []act, wants ...answer) {
	t.Helper()
	for i, a := range acts {
		if got := a.in(r); got != wants[i] {
			t.Fatalf("%v, the %dth of %v, which leads to %s: got %v, want %v", a, i, acts, shown(r), got, wants[i])
		}
	}
}

// putting is a whole put where there is room, getting a whole get where something is in.
func putting(value int) []act {
	return []act{{puts, value}, {kind: putSteps}, {kind: putSteps}, {kind: putSteps}}
}

func getting() []act {
	return []act{{kind: gets}, {kind: getSteps}, {kind: getSteps}, {kind: getSteps}}
}

// put whole: there is room.
func put(t *testing.T, r *ring.Ring, value int) {
	t.Helper()
	check(t, r, putting(value), on, on, on, isIn)
}

// putNone: a put that finds no room.
func putNone(t *testing.T, r *ring.Ring, value int) {
	t.Helper()
	check(t, r, putting(value), on, noRoom, state, state)
}

// get whole: something is in.
func get(t *testing.T, r *ring.Ring, want int) {
	t.Helper()
	check(t, r, getting(), on, on, on, isOut(want))
}

// getNone: a get that finds nothing.
func getNone(t *testing.T, r *ring.Ring) {
	t.Helper()
	check(t, r, getting(), on, empty, state, state)
}

// TestNew: a ring of each size that may be has so many places, all 0; nothing is in, nothing is being put or got, and so many may be put in.
func TestNew(t *testing.T) {
	for size := 1; size <= 8; size++ {
		r, err := ring.New(size)
		if err != nil || r == nil {
			t.Fatalf("of %d: got %v %v", size, r, err)
		}
		checkShown(t, r, make([]int, size), 0, 0)
		check(t, r, []act{{kind: putSteps}, {kind: getSteps}}, state, state)
		getNone(t, r)
		var places []int
		for i := range size {
			put(t, r, i+3)
			places = append(places, i+3)
		}
		checkShown(t, r, places, 0, size)
		putNone(t, r, 9)
		checkShown(t, r, places, 0, size)
	}
}

// TestNewNone: of any other size there is no ring, and ErrRange is told.
func TestNewNone(t *testing.T) {
	for _, size := range []int{
		0, -1, -2, -8, -9, 9, 10, 16, 40, 255, 256, 257, 264, 1 << 32, 1<<32 + 1, 1<<32 + 8, -1 << 32, 1 - 1<<32,
		math.MinInt, math.MinInt + 1, math.MinInt + 8, math.MaxInt - 1, math.MaxInt,
	} {
		if r, err := ring.New(size); plain.Told(err) != api.ErrRange || r != nil {
			t.Errorf("of %d: got %v %v", size, r, err)
		}
	}
}

// TestBounds: the least and the greatest value that may be put in are, and got; what is beyond either is not, whether or not something is being put, or there is room, and changes nothing.
func TestBounds(t *testing.T) {
	for size := 1; size <= api.MaxRing; size++ {
		r := fresh(t, size)
		for _, value := range []int{0, 1000, 1, 999, 0, 500, 1000, 255, 256, 257, 128} {
			checkNoValues(t, r)
			for i, a := range putting(value) {
				check(t, r, []act{a}, []answer{on, on, on, isIn}[i])
				checkNoValues(t, r)
			}
			get(t, r, value)
		}
		for range size {
			put(t, r, 7)
		}
		checkNoValues(t, r)
	}
}

// checkNoValues: none of them is put in.
func checkNoValues(t *testing.T, r *ring.Ring) {
	t.Helper()
	before := *r
	for _, value := range noValues() {
		check(t, r, []act{{puts, value}}, answer{err: api.ErrRange})
	}
	if *r != before {
		t.Fatalf("what is not put in leads to %s, from %s", shown(r), shown(&before))
	}
}

// TestBusy: while something is being put nothing else is begun to be put, though ErrRange is told first; likewise for what is being got; nothing changes, and neither keeps the other side from beginning.
func TestBusy(t *testing.T) {
	for size := 1; size <= api.MaxRing; size++ {
		for high := range size + 1 {
			for putLine := range 4 {
				for getLine := range 4 {
					r := fresh(t, size)
					for i := range high {
						put(t, r, i+1)
					}
					for _, a := range putting(500)[:putLine] {
						a.in(r)
					}
					for _, a := range getting()[:getLine] {
						a.in(r)
					}
					checkBusy(t, r, putLine > 0 && (high < size || putLine == 1), getLine > 0 && (high > 0 || getLine == 1))
				}
			}
		}
	}
}

// checkBusy: whether something is being put, and got, is told by what may not be, as it is to be.
func checkBusy(t *testing.T, r *ring.Ring, isPut, isGot bool) {
	t.Helper()
	checkNoValues(t, r)
	before := *r
	wrong := map[bool][]act{true: {{puts, 0}, {puts, 5}, {puts, 1000}}, false: {{kind: putSteps}}}[isPut]
	wrong = append(wrong, map[bool]act{true: {kind: gets}, false: {kind: getSteps}}[isGot])
	right := []act{{kind: putSteps}, {kind: getSteps}}
	if !isPut {
		right[0] = act{puts, 5}
	}
	if !isGot {
		right[1].kind = gets
	}
	for _, a := range wrong {
		check(t, r, []act{a}, state)
		if *r != before {
			t.Fatalf("%v leads to %s, from %s", a, shown(r), shown(&before))
		}
	}
	for _, a := range right {
		if got := a.in(r); got.err != api.OK {
			t.Fatalf("%v, at %s: got %v", a, shown(&before), got)
		}
	}
}

// TestAround: what was put in first is got first, however many are in; places are used again, and Head and Tail go on rising.
func TestAround(t *testing.T) {
	for size := 1; size <= api.MaxRing; size++ {
		for high := 1; high <= size; high++ {
			r, places := fresh(t, size), make([]int, size)
			for last := 0; last < 5*size; last += high {
				for i := last; i < last+high; i++ {
					put(t, r, 10+i)
					places[i%size] = 10 + i
					checkShown(t, r, places, last, i+1)
				}
				for i := last; i < last+high; i++ {
					get(t, r, 10+i)
					checkShown(t, r, places, i+1, last+high)
				}
				getNone(t, r)
				checkShown(t, r, places, last+high, last+high)
			}
		}
	}
}

// TestSlides: some are in all the time, while one is put behind them, and the one ahead of all is got; where all places are taken then, none goes in.
func TestSlides(t *testing.T) {
	for size := 1; size <= api.MaxRing; size++ {
		for in := range size {
			r, places := fresh(t, size), make([]int, size)
			for i := range 4 * size {
				put(t, r, 900-i)
				places[i%size] = 900 - i
				checkShown(t, r, places, max(i-in, 0), i+1)
				if i >= in {
					if in == size-1 {
						putNone(t, r, 1)
					}
					get(t, r, 900-i+in)
					checkShown(t, r, places, i-in+1, i+1)
				}
			}
		}
	}
}

// TestRises: Head and Tail have no bound that few bits would have.
func TestRises(t *testing.T) {
	for _, size := range []int{1, 3, 8} {
		r := fresh(t, size)
		put(t, r, 0)
		for i := 1; i <= 1<<17; i++ {
			if size > 1 {
				put(t, r, i%1001)
				get(t, r, (i-1)%1001)
			} else {
				get(t, r, (i-1)%1001)
				put(t, r, i%1001)
			}
			if head, tail := r.Ends(); head != i || tail != i+1 {
				t.Fatalf("of %d, behind %d: got %d %d", size, i, head, tail)
			}
		}
	}
}

// TestPlacesOwn: what Places hands out is the caller's own: nobody else writes into it, and what is written into it, or put behind it, nobody else sees.
func TestPlacesOwn(t *testing.T) {
	for size := 1; size <= api.MaxRing; size++ {
		r := fresh(t, size)
		for _, a := range drawn(size, 200) {
			before, places := *r, r.Places()
			first := slices.Clone(places)
			if len(places) != size {
				t.Fatalf("of %d: got %v", size, places)
			}
			other := r.Places()
			for i := range other {
				other[i] = -7
			}
			_ = append(other[:0], slices.Repeat([]int{-8}, cap(other))...)
			if !slices.Equal(places, first) || !slices.Equal(r.Places(), first) || *r != before {
				t.Fatalf("of %d: %v, written into, leads to %v and %v", size, first, places, r.Places())
			}
			a.in(r)
			if !slices.Equal(places, first) {
				t.Fatalf("of %d, %v: %v is %v now", size, a, first, places)
			}
		}
	}
}

// TestAsked: to ask changes nothing.
func TestAsked(t *testing.T) {
	for size := 1; size <= api.MaxRing; size++ {
		r := fresh(t, size)
		for _, a := range drawn(size, 200) {
			before, told := *r, shown(r)
			for range 3 {
				if got := shown(r); got != told || *r != before {
					t.Fatalf("of %d: got %s, from %s", size, got, told)
				}
			}
			a.in(r)
		}
	}
}

// TestApart: two rings share nothing, of one size or not, and a new one tells nothing of those before.
func TestApart(t *testing.T) {
	for size := 1; size <= api.MaxRing; size++ {
		for wide := 1; wide <= api.MaxRing; wide++ {
			one, other := fresh(t, size), fresh(t, wide)
			first, second := drawn(size, 250), drawn(wide, 290)[40:]
			var ones, others []answer
			for i := range first {
				ones, others = append(ones, first[i].in(one)), append(others, second[i].in(other))
			}
			checkSame(t, size, one, first, ones)
			checkSame(t, wide, other, second, others)
		}
	}
}

// checkSame: a new ring, to which alone the same is done, comes to the same, and tells the same.
func checkSame(t *testing.T, size int, r *ring.Ring, acts []act, told []answer) {
	t.Helper()
	alone := fresh(t, size)
	check(t, alone, acts, told...)
	if *alone != *r {
		t.Fatalf("of %d: got %s, beside another ring %s", size, shown(alone), shown(r))
	}
}

// ExampleRing: one fills a ring of two places, and a third value finds no room; then the other one gets the first one, and the third one, which is begun anew, comes to the place that is free.
func ExampleRing() {
	r, err := ring.New(2)
	if err != nil {
		fmt.Println(err)
	}
	for _, value := range []int{5, 6} {
		fmt.Println(r.Put(value))
		for range 3 {
			fmt.Println(r.StepPut())
		}
	}
	fmt.Println(r.Put(7))
	fmt.Println(r.StepPut())
	fmt.Println(r.Get())
	for range 3 {
		fmt.Println(r.StepGet())
	}
	fmt.Println(r.Put(7))
	fmt.Println(r.StepPut())
	fmt.Println(r.StepPut())
	fmt.Println(r.Places())
	fmt.Println(r.Ends())
	fmt.Println(r.StepPut())
	fmt.Println(r.Ends())
	fmt.Println(r.StepPut())
	fmt.Println(r.StepGet())
	fmt.Println(r.Put(1001))
	_, err = ring.New(9)
	fmt.Println(err)
	// Output:
	// <nil>
	// false false <nil>
	// false false <nil>
	// true true <nil>
	// <nil>
	// false false <nil>
	// false false <nil>
	// true true <nil>
	// <nil>
	// true false <nil>
	// <nil>
	// false 0 <nil>
	// false 0 <nil>
	// true 5 <nil>
	// <nil>
	// false false <nil>
	// false false <nil>
	// [7 6]
	// 1 2
	// true true <nil>
	// 1 3
	// false false ErrState
	// false 0 ErrState
	// ErrRange
	// ErrRange
}
