package fifo_test

import (
	"fmt"
	"math"
	"slices"
	"testing"

	"latchgarth/api"
	"latchgarth/fifo"
	"latchgarth/plain"
)

// noHands are numbers that are no hands of a queue for n.
func noHands(n int) []int {
	return []int{
		-1, n, n + 1, 4, 5, 7, 8, -2, -n, -n - 1, 256, 257, 1 << 32, 1<<32 + 1,
		math.MinInt, math.MinInt + 1, math.MaxInt - 1, math.MaxInt,
	}
}

// noValues are numbers that no hand puts in.
func noValues() []int {
	return []int{
		-1, api.MaxValue + 1, -2, -api.MaxValue, -api.MaxValue - 1, api.MaxValue + 2, 1 << 16, 1 << 32, 1<<32 + 1,
		math.MinInt, math.MinInt + 1, math.MaxInt - 1, math.MaxInt,
	}
}

// fresh is a new queue for n hands, of which there may be so many.
func fresh(t *testing.T, n int) *fifo.Queue {
	t.Helper()
	q, err := fifo.New(n)
	if err != nil {
		t.Fatalf("new queue for %d: got %v", n, err)
	}
	return q
}

// shown is all that a queue for n hands tells unless it is asked to do something: where they stand, and Head and Tail.
func shown(q *fifo.Queue, n int) string {
	lines := ""
	for p := range n {
		lines += fmt.Sprint(q.At(p), " ")
	}
	head, tail := q.Ends()
	return lines + fmt.Sprint(head, " ", tail)
}

// checkEnds of a queue.
func checkEnds(t *testing.T, q *fifo.Queue, wantHead, wantTail int) {
	t.Helper()
	if head, tail := q.Ends(); head != wantHead || tail != wantTail {
		t.Fatalf("Head and Tail are %d %d, want %d %d", head, tail, wantHead, wantTail)
	}
}

// finish what a hand does by so many steps: the last one tells that it is done, and what is wanted; none ahead of it does.
func finish(t *testing.T, q *fifo.Queue, p, steps, want int) {
	t.Helper()
	for i := range steps {
		done, got, err := q.Step(p)
		last := i == steps-1
		if err != nil || done != last || last && got != want || !last && got != 0 {
			t.Fatalf("step %d of %d of hand %d, to tell %d: got %v %d %v", i, steps, p, want, done, got, err)
		}
	}
	if at := q.At(p); at != 0 {
		t.Fatalf("hand %d is done, and at line %d", p, at)
	}
}

// put whole, by a hand that may begin it, while no other hand goes on, and Tail is the last node.
func put(t *testing.T, q *fifo.Queue, p, value int) {
	t.Helper()
	if err := q.Put(p, value); err != nil || q.At(p) != 1 {
		t.Fatalf("put of hand %d, value %d: got %v, and it is at line %d", p, value, err, q.At(p))
	}
	finish(t, q, p, 4, -1)
}

// get whole, by a hand that may begin it, while no other hand goes on, and Tail is the last node; what is wanted is -1, if nothing is in.
func get(t *testing.T, q *fifo.Queue, p, want int) {
	t.Helper()
	if err := q.Get(p); err != nil || q.At(p) != 6 {
		t.Fatalf("get of hand %d: got %v, and it is at line %d", p, err, q.At(p))
	}
	steps := 4
	if want == -1 {
		steps = 3
	}
	finish(t, q, p, steps, want)
}

// TestNew: for each number of hands that may be all do nothing, and nothing is in; each hand may put and get.
func TestNew(t *testing.T) {
	for i, want := range []string{"0 0 0", "0 0 0 0", "0 0 0 0 0", "0 0 0 0 0 0"} {
		n := i + 1
		q, err := fifo.New(n)
		if err != nil || q == nil {
			t.Fatalf("for %d hands: got %v %v", n, q, err)
		}
		if got := shown(q, n); got != want {
			t.Errorf("for %d hands: got %s, want %s", n, got, want)
		}
		for p := range n {
			get(t, q, p, -1)
			put(t, q, p, 5+p)
			checkEnds(t, q, p, p+1)
			get(t, q, p, 5+p)
			checkEnds(t, q, p+1, p+1)
		}
	}
}

// TestNewNone: for any other number there is no queue, and ErrRange is told.
func TestNewNone(t *testing.T) {
	for _, n := range []int{
		0, -1, -2, -4, 5, 6, 8, 255, 256, 257, 1 << 32, 1<<32 + 1, -1 << 32, 1 - 1<<32,
		math.MinInt, math.MinInt + 1, math.MaxInt - 1, math.MaxInt,
	} {
		if q, err := fifo.New(n); plain.Told(err) != api.ErrRange || q != nil {
			t.Errorf("for %d hands: got %v %v", n, q, err)
		}
	}
}

// TestBounds: the least and the greatest value that may be put in are, by each hand, and got; what is one beyond either is not, and takes no node.
func TestBounds(t *testing.T) {
	for n := 1; n <= api.MaxHands; n++ {
		q, last := fresh(t, n), 0
		for p := range n {
			for _, value := range []int{1000, 0, 1, 999, 0, 1000} {
				for _, wrong := range []int{-1, 1001} {
					if err := q.Put(p, wrong); plain.Told(err) != api.ErrRange || q.At(p) != 0 {
						t.Errorf("put of hand %d, value %d: got %v, and it is at line %d", p, wrong, err, q.At(p))
					}
				}
				put(t, q, p, value)
				last++
				checkEnds(t, q, last-1, last)
				get(t, q, p, value)
				checkEnds(t, q, last, last)
			}
		}
	}
}

// TestFirstIn: what was put in first is got first, whoever does it, however many are in; and Head and Tail go from node to node, up to the last one that may be.
func TestFirstIn(t *testing.T) {
	for n := 1; n <= api.MaxHands; n++ {
		for high := 1; high <= 39; high++ {
			q := fresh(t, n)
			for last := 0; last+high <= 39; last += high {
				for i := last; i < last+high; i++ {
					put(t, q, i%n, 10+i)
					checkEnds(t, q, last, i+1)
				}
				for i := last; i < last+high; i++ {
					get(t, q, (i+high)%n, 10+i)
					checkEnds(t, q, i+1, last+high)
				}
				get(t, q, high%n, -1)
				checkEnds(t, q, last+high, last+high)
			}
		}
	}
}

// TestSlides: some are in all the time, while one is put behind them, and one got ahead of them.
func TestSlides(t *testing.T) {
	for n := 1; n <= api.MaxHands; n++ {
		for in := range 39 {
			q := fresh(t, n)
			for i := range in {
				put(t, q, i%n, 900-i)
			}
			for i := in; i < 39; i++ {
				put(t, q, i%n, 900-i)
				checkEnds(t, q, i-in, i+1)
				get(t, q, i%n, 900-i+in)
				checkEnds(t, q, i-in+1, i+1)
			}
			checkFull(t, q, n)
		}
	}
}

// checkFull: there are all nodes of a queue for n hands, so that no hand, all of which do nothing, may put, whatever the value; that changes nothing.
func checkFull(t *testing.T, q *fifo.Queue, n int) {
	t.Helper()
	before := *q
	for p := range n {
		for _, value := range []int{0, 1, 5, api.MaxValue} {
			if err := q.Put(p, value); plain.Told(err) != api.ErrFull || q.At(p) != 0 {
				t.Errorf("of %d, no more nodes, put of hand %d, value %d: got %v, and it is at line %d", n, p, value, err, q.At(p))
			}
		}
		for _, value := range noValues() {
			if err := q.Put(p, value); plain.Told(err) != api.ErrRange {
				t.Errorf("of %d, no more nodes, put of hand %d, value %d: got %v", n, p, value, err)
			}
		}
	}
	for _, p := range noHands(n) {
		if err := q.Put(p, 5); plain.Told(err) != api.ErrRange {
			t.Errorf("of %d, no more nodes, put of hand %d: got %v", n, p, err)
		}
	}
	if *q != before {
		t.Fatalf("of %d, no more nodes: what is wrong leads to %s, from %s", n, shown(q, n), shown(&before, n))
	}
}

// TestFull: no more is put in than there are nodes behind node 0; what is got gives none back, while all others may be got, and behind that.
func TestFull(t *testing.T) {
	for n := 1; n <= api.MaxHands; n++ {
		q := fresh(t, n)
		for i := range 39 {
			put(t, q, i%n, 10+i)
		}
		checkEnds(t, q, 0, 39)
		for i := range 39 {
			checkFull(t, q, n)
			get(t, q, i%n, 10+i)
		}
		checkEnds(t, q, 39, 39)
		checkFull(t, q, n)
		get(t, q, 0, -1)
		checkFull(t, q, n)
	}
}

// TestFullBegun: a node is there from when a put begins; the last ones are put in all the same, in whichever order.
func TestFullBegun(t *testing.T) {
	for _, order := range orders(3) {
		q := fresh(t, 4)
		for i := range 36 {
			put(t, q, i%4, i)
		}
		for _, p := range order {
			if err := q.Put(p, 50+p); err != nil {
				t.Fatalf("put of hand %d: got %v", p, err)
			}
		}
		for i, p := range slices.Backward(order) {
			if err := q.Put(3, 5); plain.Told(err) != api.ErrFull || q.At(3) != 0 {
				t.Errorf("hands %v put into the last nodes, %d is at line %d: put of hand 3: got %v", order, p, q.At(p), err)
			}
			finish(t, q, p, 4, -1)
			checkEnds(t, q, 0, 37+i)
		}
		checkFull(t, q, 4)
		for i := range 36 {
			get(t, q, 3, i)
		}
		for i, p := range slices.Backward(order) {
			get(t, q, 3, 50+p)
			checkEnds(t, q, 37+i, 37)
		}
		get(t, q, 3, -1)
	}
}

// TestNext: a put takes the next node, whichever hand's it is, and in whichever order they are put in; which one it took is told by Tail.
func TestNext(t *testing.T) {
	for _, began := range orders(4) {
		for _, ended := range orders(4) {
			q, nodes := fresh(t, 4), map[int]int{}
			for round := range 9 {
				for i, p := range began {
					if err := q.Put(p, 20*p+round); err != nil {
						t.Fatal(err)
					}
					nodes[p] = 4*round + i + 1
				}
				for _, p := range ended {
					finish(t, q, p, 4, -1)
					checkEnds(t, q, 0, nodes[p])
				}
			}
			for i := range 36 {
				get(t, q, 0, 20*ended[i%4]+i/4)
			}
		}
	}
}

// TestBeginFirst: where several things are wrong, ErrRange is told ahead of ErrState, and that one ahead of ErrFull; nothing changes, at whichever line the hand is, and whatever it does.
func TestBeginFirst(t *testing.T) {
	const putting, getting = "1 2 3 5", "6 7 8 10"
	for _, begin := range []act{{0, puts, 5}, {0, gets, 0}} {
		for _, taken := range []int{1, 20, 38, 39} {
			if begin.kind == puts {
				taken--
			}
			q, lines := fresh(t, 2), []int{}
			for range taken {
				put(t, q, 1, 9)
			}
			if got := begin.in(q); got.err != api.OK {
				t.Fatalf("%v: got %v", begin, got)
			}
			for q.At(0) != 0 && len(lines) < 4 {
				checkBeginFirst(t, q)
				lines = append(lines, q.At(0))
				q.Step(0)
			}
			want := map[int]string{puts: putting, gets: getting}[begin.kind]
			if got := fmt.Sprint(lines); got != "["+want+"]" {
				t.Errorf("%v: asked at lines %s, want %s", begin, got, want)
			}
		}
	}
}

// checkBeginFirst: hand 0 of two does something, and what is wrong is told as it is to be.
func checkBeginFirst(t *testing.T, q *fifo.Queue) {
	t.Helper()
	before := *q
	for _, value := range noValues() {
		for _, p := range []int{0, 1, 2, -1} {
			if err := q.Put(p, value); plain.Told(err) != api.ErrRange {
				t.Errorf("put of hand %d, value %d: got %v", p, value, err)
			}
		}
	}
	for _, value := range []int{0, 1, 5, 1000} {
		for p, want := range map[int]api.Errno{0: api.ErrState, 2: api.ErrRange, -1: api.ErrRange} {
			if err := q.Put(p, value); plain.Told(err) != want {
				t.Errorf("hand 0 at line %d, put of hand %d, value %d: got %v, want %v", q.At(0), p, value, err, want)
			}
		}
	}
	if err := q.Get(0); plain.Told(err) != api.ErrState {
		t.Errorf("get of hand 0, at line %d: got %v", q.At(0), err)
	}
	if *q != before {
		t.Fatalf("what is wrong leads to %s, from %s", shown(q, 2), shown(&before, 2))
	}
}

// TestNoHand: at each time, a hand that is none is told ErrRange, whatever it is asked for, changes nothing, and stands at 0.
func TestNoHand(t *testing.T) {
	for n := 1; n <= api.MaxHands; n++ {
		q := fresh(t, n)
		for _, a := range drawn(n, 200) {
			before := *q
			for _, p := range noHands(n) {
				for _, value := range []int{0, 1, api.MaxValue, -1, api.MaxValue + 1} {
					if err := q.Put(p, value); plain.Told(err) != api.ErrRange {
						t.Errorf("of %d: put of %d, value %d: got %v", n, p, value, err)
					}
				}
				if err := q.Get(p); plain.Told(err) != api.ErrRange {
					t.Errorf("of %d: get of %d: got %v", n, p, err)
				}
				if done, got, err := q.Step(p); done || got != 0 || plain.Told(err) != api.ErrRange {
					t.Errorf("of %d: step of %d: got %v %d %v", n, p, done, got, err)
				}
				if at := q.At(p); at != 0 {
					t.Errorf("of %d: %d stands at %d", n, p, at)
				}
			}
			if *q != before {
				t.Fatalf("of %d: those that are no hands lead to %s, from %s", n, shown(q, n), shown(&before, n))
			}
			a.in(q)
		}
	}
}

// TestNothing: at each time, a hand that does nothing is told ErrState by Step, which changes nothing, and it may begin to get; one that does something is told ErrState where it begins.
func TestNothing(t *testing.T) {
	for n := 1; n <= api.MaxHands; n++ {
		q := fresh(t, n)
		for _, a := range drawn(n, 300) {
			for p := range n {
				before, one := *q, *q
				wants := []api.Errno{api.ErrState, api.OK}
				if q.At(p) != 0 {
					wants = []api.Errno{api.OK, api.ErrState}
				}
				done, value, err := q.Step(p)
				got := []api.Errno{plain.Told(err), plain.Told(one.Get(p))}
				if !slices.Equal(got, wants) {
					t.Fatalf("of %d: step and get of hand %d, at %s: got %v, want %v", n, p, shown(&before, n), got, wants)
				}
				if before.At(p) == 0 && (done || value != 0 || *q != before) {
					t.Fatalf("of %d: step of hand %d, which does nothing: got %v %d, and %s, from %s", n, p, done, value, shown(q, n), shown(&before, n))
				}
				*q = before
			}
			a.in(q)
		}
	}
}

// TestAsked: to ask changes nothing.
func TestAsked(t *testing.T) {
	for n := 1; n <= api.MaxHands; n++ {
		q := fresh(t, n)
		for _, a := range drawn(n, 200) {
			before := *q
			for range 3 {
				for p := -1; p <= n; p++ {
					q.At(p)
				}
				q.Ends()
			}
			if *q != before {
				t.Fatalf("of %d: to ask leads to %s, from %s", n, shown(q, n), shown(&before, n))
			}
			a.in(q)
		}
	}
}

// TestApart: two queues share nothing, for as many hands or not, and a new one tells nothing of those before.
func TestApart(t *testing.T) {
	for n := 1; n <= api.MaxHands; n++ {
		for m := 1; m <= api.MaxHands; m++ {
			one, other := fresh(t, n), fresh(t, m)
			first, second := drawn(n, 250), drawn(m, 290)[40:]
			var ones, others []answer
			for i := range first {
				ones, others = append(ones, first[i].in(one)), append(others, second[i].in(other))
			}
			checkSame(t, n, one, first, ones)
			checkSame(t, m, other, second, others)
		}
	}
}

// checkSame: a new queue, to which alone the same is done, comes to the same, and tells the same.
func checkSame(t *testing.T, n int, q *fifo.Queue, acts []act, told []answer) {
	t.Helper()
	alone := fresh(t, n)
	for i, a := range acts {
		if got := a.in(alone); got != told[i] {
			t.Fatalf("of %d, %v, the %dth one: got %v, beside another queue %v", n, a, i, got, told[i])
		}
	}
	if *alone != *q {
		t.Fatalf("of %d: got %s, beside another queue %s", n, shown(alone, n), shown(q, n))
	}
}

// ExampleQueue: hand 0 puts, and has its value in, but has not moved Tail on yet; hand 1, which gets, finds Tail behind, moves it on, and gets that value. Then hand 0 is done.
func ExampleQueue() {
	q, err := fifo.New(2)
	if err != nil {
		fmt.Println(err)
	}
	fmt.Println(q.Put(0, 5))
	for range 3 {
		fmt.Println(q.Step(0))
	}
	fmt.Println(q.At(0))
	fmt.Println(q.Ends())
	fmt.Println(q.Get(1))
	for range 4 {
		fmt.Println(q.Step(1))
	}
	fmt.Println(q.At(1))
	fmt.Println(q.Ends())
	for range 4 {
		fmt.Println(q.Step(1))
	}
	fmt.Println(q.Ends())
	fmt.Println(q.Step(0))
	fmt.Println(q.Ends())
	fmt.Println(q.Step(0))
	fmt.Println(q.Put(0, 1001), q.Get(2))
	_, err = fifo.New(5)
	fmt.Println(err)
	// Output:
	// <nil>
	// false 0 <nil>
	// false 0 <nil>
	// false 0 <nil>
	// 5
	// 0 0
	// <nil>
	// false 0 <nil>
	// false 0 <nil>
	// false 0 <nil>
	// false 0 <nil>
	// 6
	// 0 1
	// false 0 <nil>
	// false 0 <nil>
	// false 0 <nil>
	// true 5 <nil>
	// 1 1
	// true -1 <nil>
	// 1 1
	// false 0 ErrState
	// ErrRange ErrRange
	// ErrRange
}
