package univ_test

import (
	"fmt"
	"math"
	"slices"
	"testing"

	"latchgarth/api"
	"latchgarth/plain"
	"latchgarth/univ"
)

// noHands are numbers that are no hands of a row for n.
func noHands(n int) []int {
	return []int{
		-1, n, n + 1, 4, 5, 7, 8, -2, -n, -n - 1, 256, 257, 1 << 32, 1<<32 + 1,
		math.MinInt, math.MinInt + 1, math.MaxInt - 1, math.MaxInt,
	}
}

// noAdds are numbers that no deed adds.
func noAdds() []int {
	return []int{
		-1, api.MaxValue + 1, -2, -api.MaxValue, -api.MaxValue - 1, api.MaxValue + 2, 1 << 16, 1 << 32, 1<<32 + 1,
		math.MinInt, math.MinInt + 1, math.MaxInt - 1, math.MaxInt,
	}
}

// fresh is a new row for n hands, of which there may be so many.
func fresh(t *testing.T, n int) *univ.Row {
	t.Helper()
	r, err := univ.New(n)
	if err != nil {
		t.Fatalf("new row for %d: got %v", n, err)
	}
	return r
}

// shown is all that a row for n hands tells: where they stand, and the order of deeds.
func shown(r *univ.Row, n int) string {
	lines := ""
	for p := range n {
		lines += fmt.Sprint(r.At(p), " ")
	}
	return lines + fmt.Sprint(r.Order())
}

// begin a deed of a hand that may begin one.
func begin(t *testing.T, r *univ.Row, p, add int) {
	t.Helper()
	if err := r.Begin(p, add); err != nil {
		t.Fatalf("begin of hand %d, to add %d: got %v", p, add, err)
	}
}

// finish a hand's deed by so many steps: the last one tells that it is done, and what was there before; none ahead of it does.
func finish(t *testing.T, r *univ.Row, p, steps, want int) {
	t.Helper()
	for i := range steps {
		done, sum, err := r.Step(p)
		last := i == steps-1
		if err != nil || done != last || last && sum != want || !last && sum != 0 {
			t.Fatalf("step %d of %d of hand %d, to tell %d: got %v %d %v", i, steps, p, want, done, sum, err)
		}
	}
}

// whole deed of a hand, from its beginning to its end, while no other hand goes on.
func whole(t *testing.T, r *univ.Row, p, add, cells, want int) {
	t.Helper()
	begin(t, r, p, add)
	finish(t, r, p, 2*cells+2, want)
}

// TestNew: for each number of hands that may be, all do nothing, and no cell is decided.
func TestNew(t *testing.T) {
	for i, want := range []string{"0 []", "0 0 []", "0 0 0 []", "0 0 0 0 []"} {
		n := i + 1
		r, err := univ.New(n)
		if err != nil || r == nil {
			t.Fatalf("for %d hands: got %v %v", n, r, err)
		}
		if got := shown(r, n); got != want {
			t.Errorf("for %d hands: got %s, want %s", n, got, want)
		}
		for p := range n {
			whole(t, r, p, 1, p, p)
		}
	}
}

// TestNewNone: for any other number there is no row, and ErrRange is told.
func TestNewNone(t *testing.T) {
	for _, n := range []int{
		0, -1, -2, -4, 5, 6, 8, 255, 256, 257, 1 << 32, 1<<32 + 1, -1 << 32, 1 - 1<<32,
		math.MinInt, math.MinInt + 1, math.MaxInt - 1, math.MaxInt,
	} {
		if r, err := univ.New(n); plain.Told(err) != api.ErrRange || r != nil {
			t.Errorf("for %d hands: got %v %v", n, r, err)
		}
	}
}

// TestBounds: the least and the greatest that a deed may add are added, and what is one beyond either is not.
func TestBounds(t *testing.T) {
	r := fresh(t, 1)
	sum := 0
	for i, add := range []int{0, 1000, 1, 999, 0} {
		for _, wrong := range []int{-1, 1001} {
			if err := r.Begin(0, wrong); plain.Told(err) != api.ErrRange {
				t.Errorf("to add %d: got %v", wrong, err)
			}
		}
		whole(t, r, 0, add, i, sum)
		sum += add
	}
}

// TestAllDeeds: as many deeds as there may be are done, whoever begins them, and none is begun behind them.
func TestAllDeeds(t *testing.T) {
	for n := 1; n <= api.MaxHands; n++ {
		r := fresh(t, n)
		var order []int
		for i := range 40 {
			whole(t, r, i%n, api.MaxValue-i, i, i*api.MaxValue-i*(i-1)/2)
			order = append(order, i)
		}
		checkFull(t, r, n, order)
	}
}

// checkFull: a row tells ErrFull of each hand, all of which do nothing, whatever it is to add, and that changes nothing.
func checkFull(t *testing.T, r *univ.Row, n int, order []int) {
	t.Helper()
	for p := range n {
		for _, add := range []int{0, 1, api.MaxValue} {
			if err := r.Begin(p, add); plain.Told(err) != api.ErrFull {
				t.Errorf("of %d, all deeds begun, of hand %d to add %d: got %v", n, p, add, err)
			}
		}
		if at := r.At(p); at != 0 {
			t.Errorf("of %d, all deeds begun: hand %d is at line %d", n, p, at)
		}
		if done, sum, err := r.Step(p); done || sum != 0 || plain.Told(err) != api.ErrState {
			t.Errorf("of %d, all deeds begun: step of hand %d: got %v %d %v", n, p, done, sum, err)
		}
	}
	if got := r.Order(); !slices.Equal(got, order) {
		t.Errorf("of %d, all deeds begun: got %v, want %v", n, got, order)
	}
}

// TestLast: one deed is begun ahead of all others, and each cell is another one's when it comes there; so it has the last one, behind 80 steps of its own.
func TestLast(t *testing.T) {
	r := fresh(t, 2)
	begin(t, r, 1, 7)
	var order []int
	for i := range 39 {
		whole(t, r, 0, api.MaxValue, i, i*api.MaxValue)
		order = append(order, i+1)
		if plainStep(t, r, 1); r.At(1) != 2 {
			t.Fatalf("cell %d: it is at line %d", i, r.At(1))
		}
		if plainStep(t, r, 1); r.At(1) != 1 {
			t.Fatalf("behind cell %d: it is at line %d", i, r.At(1))
		}
	}
	if err := r.Begin(0, 1); plain.Told(err) != api.ErrFull {
		t.Errorf("all deeds begun, not all done: got %v", err)
	}
	finish(t, r, 1, 2, 39*api.MaxValue)
	checkFull(t, r, 2, append(order, 0))
}

// plainStep is one that ends no deed.
func plainStep(t *testing.T, r *univ.Row, p int) {
	t.Helper()
	if done, sum, err := r.Step(p); done || sum != 0 || err != nil {
		t.Fatalf("step of hand %d: got %v %d %v", p, done, sum, err)
	}
}

// TestBeginFirst: where several things are wrong, ErrRange is told ahead of ErrState, and that one ahead of ErrFull; and nothing changes.
func TestBeginFirst(t *testing.T) {
	for _, begun := range []int{1, 39, 40} {
		r := fresh(t, 2)
		for i := range begun - 1 {
			whole(t, r, 0, 1, i, i)
		}
		begin(t, r, 1, 5)
		before, told := *r, shown(r, 2)
		for _, c := range []struct {
			p, add int
			want   api.Errno
		}{
			{2, 0, api.ErrRange}, {-1, 0, api.ErrRange}, {2, -1, api.ErrRange}, {-1, 1001, api.ErrRange},
			{0, -1, api.ErrRange}, {0, 1001, api.ErrRange},
			{1, -1, api.ErrRange}, {1, 1001, api.ErrRange},
			{1, 0, api.ErrState}, {1, 5, api.ErrState}, {1, 1000, api.ErrState},
		} {
			if err := r.Begin(c.p, c.add); plain.Told(err) != c.want {
				t.Errorf("%d begun, of hand %d to add %d: got %v, want %v", begun, c.p, c.add, err, c.want)
			}
		}
		if *r != before || shown(r, 2) != told {
			t.Errorf("%d begun: what is wrong leads to %s, from %s", begun, shown(r, 2), told)
		}
		finish(t, r, 1, 2*begun, begun-1)
	}
}

// TestNotBegun: what was not begun, for an error, is no deed: it has no number, and is not counted, so as many as there may be are begun all the same.
func TestNotBegun(t *testing.T) {
	r := fresh(t, 2)
	for i := range 40 {
		for _, add := range noAdds() {
			if err := r.Begin(i%2, add); plain.Told(err) != api.ErrRange {
				t.Fatalf("to add %d: got %v", add, err)
			}
		}
		begin(t, r, i%2, 2)
		for range 3 {
			if err := r.Begin(i%2, 3); plain.Told(err) != api.ErrState {
				t.Fatalf("of a hand that does something: got %v", err)
			}
		}
		finish(t, r, i%2, 2*i+2, 2*i)
		if got := r.Order(); len(got) != i+1 || got[i] != i {
			t.Fatalf("behind deed %d: got %v", i, got)
		}
	}
}

// TestNoHand: at each time, a hand that is none is told ErrRange, whatever it is to add, changes nothing, and stands at 0.
func TestNoHand(t *testing.T) {
	for n := 1; n <= api.MaxHands; n++ {
		r := fresh(t, n)
		for _, a := range drawn(n, 200) {
			before := *r
			for _, p := range noHands(n) {
				for _, add := range []int{0, 1, api.MaxValue, -1, api.MaxValue + 1} {
					if err := r.Begin(p, add); plain.Told(err) != api.ErrRange {
						t.Errorf("of %d: begin of %d to add %d: got %v", n, p, add, err)
					}
				}
				if done, sum, err := r.Step(p); done || sum != 0 || plain.Told(err) != api.ErrRange {
					t.Errorf("of %d: step of %d: got %v %d %v", n, p, done, sum, err)
				}
				if at := r.At(p); at != 0 {
					t.Errorf("of %d: %d stands at %d", n, p, at)
				}
			}
			if *r != before {
				t.Fatalf("of %d: those that are no hands lead to %s, from %s", n, shown(r, n), shown(&before, n))
			}
			a.in(r)
		}
	}
}

// TestNothing: at each time, a hand that does nothing is told ErrState, which changes nothing; one that does something is not.
func TestNothing(t *testing.T) {
	for n := 1; n <= api.MaxHands; n++ {
		r := fresh(t, n)
		for _, a := range drawn(n, 200) {
			for p := range n {
				if r.At(p) != 0 {
					continue
				}
				before := *r
				if done, sum, err := r.Step(p); done || sum != 0 || plain.Told(err) != api.ErrState || *r != before {
					t.Fatalf("of %d: step of hand %d, which does nothing: got %v %d %v, and %s, from %s", n, p, done, sum, err, shown(r, n), shown(&before, n))
				}
			}
			a.in(r)
		}
	}
}

// TestAsked: to ask changes nothing.
func TestAsked(t *testing.T) {
	for n := 1; n <= api.MaxHands; n++ {
		r := fresh(t, n)
		for _, a := range drawn(n, 200) {
			before := *r
			for range 3 {
				for p := -1; p <= n; p++ {
					r.At(p)
				}
				r.Order()
			}
			if *r != before {
				t.Fatalf("of %d: to ask leads to %s, from %s", n, shown(r, n), shown(&before, n))
			}
			a.in(r)
		}
	}
}

// TestFresh: what Order told is the caller's: what it writes there, and behind it, is told by no later call, and no later call writes there.
func TestFresh(t *testing.T) {
	for n := 1; n <= api.MaxHands; n++ {
		r, other := fresh(t, n), fresh(t, n)
		for _, a := range drawn(n, 200) {
			one, two := r.Order(), r.Order()
			kept := slices.Clone(two)
			scrawl(one)
			if !slices.Equal(two, kept) || !slices.Equal(r.Order(), kept) {
				t.Fatalf("of %d: what was written into one list is told: got %v and %v, want %v", n, two, r.Order(), kept)
			}
			got, want := a.in(r), a.in(other)
			if got != want || shown(r, n) != shown(other, n) {
				t.Fatalf("of %d: what was written into a list is told: got %v and %s, want %v and %s", n, got, shown(r, n), want, shown(other, n))
			}
			if !slices.Equal(two, kept) {
				t.Fatalf("of %d: a later call wrote into a list: got %v, want %v", n, two, kept)
			}
		}
	}
}

// scrawl over a list, and what lies behind it.
func scrawl(list []int) {
	list = list[:cap(list)]
	for i := range list {
		list[i] = -7
	}
}

// TestApart: two rows share nothing, for as many hands or not, and a new one tells nothing of those before.
func TestApart(t *testing.T) {
	for n := 1; n <= api.MaxHands; n++ {
		for m := 1; m <= api.MaxHands; m++ {
			one, other := fresh(t, n), fresh(t, m)
			first, second := drawn(n, 150), drawn(m, 190)[40:]
			var ones, others []answer
			for i := range first {
				ones, others = append(ones, first[i].in(one)), append(others, second[i].in(other))
			}
			checkAlone(t, n, one, first, ones)
			checkAlone(t, m, other, second, others)
		}
	}
}

// checkAlone: a new row, to which alone the same is done, comes to the same, and tells the same.
func checkAlone(t *testing.T, n int, r *univ.Row, acts []act, told []answer) {
	t.Helper()
	alone := fresh(t, n)
	for i, a := range acts {
		if got := a.in(alone); got != told[i] {
			t.Fatalf("of %d, %v, the %dth one: got %v, beside another row %v", n, a, i, got, told[i])
		}
	}
	if *alone != *r {
		t.Fatalf("of %d: got %s, beside another row %s", n, shown(alone, n), shown(r, n))
	}
}

// ExampleRow: hand 1 comes to the first cell ahead of hand 0, whose deed has the next one; what hand 1 added is there before.
func ExampleRow() {
	r, err := univ.New(2)
	if err != nil {
		fmt.Println(err)
	}
	fmt.Println(r.Begin(0, 5), r.Begin(1, 7))
	for _, p := range []int{1, 0, 1, 0, 0, 0} {
		fmt.Println(r.Step(p))
	}
	fmt.Println(r.Order(), r.At(0), r.At(1))
	fmt.Println(r.Begin(2, 1), r.Begin(0, 1001))
	_, err = univ.New(5)
	fmt.Println(err)
	// Output:
	// <nil> <nil>
	// false 0 <nil>
	// false 0 <nil>
	// true 0 <nil>
	// false 0 <nil>
	// false 0 <nil>
	// true 7 <nil>
	// [1 0] 0 0
	// ErrRange ErrRange
	// ErrRange
}
