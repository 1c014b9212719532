package stack_test

import (
	"fmt"
	"math"
	"slices"
	"testing"

	"latchgarth/api"
	"latchgarth/plain"
	"latchgarth/stack"
)

// both ways in which a stack is made: without tags, and with them.
var both = []bool{false, true}

// noHands are numbers that are no hands of a stack for n.
func noHands(n int) []int {
	return []int{
		-1, n, n + 1, 4, 5, 7, 8, -2, -n, -n - 1, 256, 257, 1 << 32, 1<<32 + 1,
		math.MinInt, math.MinInt + 1, math.MaxInt - 1, math.MaxInt,
	}
}

// noValues are numbers that no hand pushes.
func noValues() []int {
	return []int{
		-1, api.MaxValue + 1, -2, -api.MaxValue, -api.MaxValue - 1, api.MaxValue + 2, 1 << 16, 1 << 32, 1<<32 + 1,
		math.MinInt, math.MinInt + 1, math.MaxInt - 1, math.MaxInt,
	}
}

// fresh is a new stack for n hands, of which there may be so many.
func fresh(t *testing.T, n int, tags bool) *stack.Stack {
	t.Helper()
	s, err := stack.New(n, tags)
	if err != nil {
		t.Fatalf("new stack for %d, tags %v: got %v", n, tags, err)
	}
	return s
}

// shown is all that a stack for n hands tells unless it is asked to do something: where they stand, and Top.
func shown(s *stack.Stack, n int) string {
	lines := ""
	for p := range n {
		lines += fmt.Sprint(s.At(p), " ")
	}
	node, tag := s.Top()
	return lines + fmt.Sprint(node, " ", tag)
}

// tagged is a tag, if there are tags; else 0.
func tagged(tags bool, tag int) int {
	if tags {
		return tag
	}
	return 0
}

// checkTop of a stack: the node, and the tag, if there are tags.
func checkTop(t *testing.T, s *stack.Stack, tags bool, wantNode, wantTag int) {
	t.Helper()
	if node, tag := s.Top(); node != wantNode || tag != tagged(tags, wantTag) {
		t.Fatalf("tags %v: Top is %d %d, want %d %d", tags, node, tag, wantNode, tagged(tags, wantTag))
	}
}

// finish what a hand does by so many steps: the last one tells that it is done, and what is wanted; none ahead of it does.
func finish(t *testing.T, s *stack.Stack, p, steps, want int) {
	t.Helper()
	for i := range steps {
		done, got, err := s.Step(p)
		last := i == steps-1
		if err != nil || done != last || last && got != want || !last && got != 0 {
			t.Fatalf("step %d of %d of hand %d, to tell %d: got %v %d %v", i, steps, p, want, done, got, err)
		}
	}
	if at := s.At(p); at != 0 {
		t.Fatalf("hand %d is done, and at line %d", p, at)
	}
}

// push whole, by a hand that may begin it, while no other hand goes on.
func push(t *testing.T, s *stack.Stack, p, value int) {
	t.Helper()
	if err := s.Push(p, value); err != nil || s.At(p) != 1 {
		t.Fatalf("push of hand %d, value %d: got %v, and it is at line %d", p, value, err, s.At(p))
	}
	finish(t, s, p, 2, -1)
}

// pop whole, by a hand that may begin it, while no other hand goes on; what is wanted is -1, if nothing is on the stack.
func pop(t *testing.T, s *stack.Stack, p, want int) {
	t.Helper()
	if err := s.Pop(p); err != nil || s.At(p) != 3 {
		t.Fatalf("pop of hand %d: got %v, and it is at line %d", p, err, s.At(p))
	}
	steps := 3
	if want == -1 {
		steps = 1
	}
	finish(t, s, p, steps, want)
}

// TestNew: for each number of hands that may be, with tags and without, all do nothing, and nothing is on the stack; each hand may push and pop.
func TestNew(t *testing.T) {
	for i, want := range []string{"0 -1 0", "0 0 -1 0", "0 0 0 -1 0", "0 0 0 0 -1 0"} {
		for _, tags := range both {
			n := i + 1
			s, err := stack.New(n, tags)
			if err != nil || s == nil {
				t.Fatalf("for %d hands, tags %v: got %v %v", n, tags, s, err)
			}
			if got := shown(s, n); got != want {
				t.Errorf("for %d hands, tags %v: got %s, want %s", n, tags, got, want)
			}
			for p := range n {
				pop(t, s, p, -1)
				push(t, s, p, 5+p)
				checkTop(t, s, tags, 0, 2*p+1)
				pop(t, s, p, 5+p)
				checkTop(t, s, tags, -1, 2*p+2)
			}
		}
	}
}

// TestNewNone: for any other number there is no stack, and ErrRange is told.
func TestNewNone(t *testing.T) {
	for _, n := range []int{
		0, -1, -2, -4, 5, 6, 8, 255, 256, 257, 1 << 32, 1<<32 + 1, -1 << 32, 1 - 1<<32,
		math.MinInt, math.MinInt + 1, math.MaxInt - 1, math.MaxInt,
	} {
		for _, tags := range both {
			if s, err := stack.New(n, tags); plain.Told(err) != api.ErrRange || s != nil {
				t.Errorf("for %d hands, tags %v: got %v %v", n, tags, s, err)
			}
		}
	}
}

// TestBounds: the least and the greatest value that may be pushed are, by each hand, and popped; what is one beyond either is not, and takes no node.
func TestBounds(t *testing.T) {
	for n := 1; n <= api.MaxHands; n++ {
		s := fresh(t, n, true)
		for p := range n {
			for _, value := range []int{1000, 0, 1, 999, 0, 1000} {
				for _, wrong := range []int{-1, 1001} {
					if err := s.Push(p, wrong); plain.Told(err) != api.ErrRange || s.At(p) != 0 {
						t.Errorf("push of hand %d, value %d: got %v, and it is at line %d", p, wrong, err, s.At(p))
					}
				}
				push(t, s, p, value)
				if node, _ := s.Top(); node != 0 {
					t.Errorf("push of hand %d, value %d: node %d is on top", p, value, node)
				}
				pop(t, s, p, value)
			}
		}
	}
}

// TestLastIn: what was pushed last is popped first, whoever does it, as many as there may be; and the nodes go up and down.
func TestLastIn(t *testing.T) {
	for n := 1; n <= api.MaxHands; n++ {
		for _, tags := range both {
			s, tag := fresh(t, n, tags), 0
			for high := range api.MaxFew + 1 {
				for i := range high {
					push(t, s, i%n, 100*high+i)
					tag++
					checkTop(t, s, tags, i, tag)
				}
				for i := high - 1; i >= 0; i-- {
					pop(t, s, (i+high)%n, 100*high+i)
					tag++
					checkTop(t, s, tags, i-1, tag)
				}
				pop(t, s, high%n, -1)
				checkTop(t, s, tags, -1, tag)
			}
		}
	}
}

// checkFull: all nodes of a stack for n hands are used, so that no hand, all of which do nothing, may push, whatever the value; that changes nothing.
func checkFull(t *testing.T, s *stack.Stack, n int) {
	t.Helper()
	before := *s
	for p := range n {
		for _, value := range []int{0, 1, 5, api.MaxValue} {
			if err := s.Push(p, value); plain.Told(err) != api.ErrFull || s.At(p) != 0 {
				t.Errorf("of %d, all nodes used, push of hand %d, value %d: got %v, and it is at line %d", n, p, value, err, s.At(p))
			}
		}
		for _, value := range noValues() {
			if err := s.Push(p, value); plain.Told(err) != api.ErrRange {
				t.Errorf("of %d, all nodes used, push of hand %d, value %d: got %v", n, p, value, err)
			}
		}
	}
	for _, p := range noHands(n) {
		if err := s.Push(p, 5); plain.Told(err) != api.ErrRange {
			t.Errorf("of %d, all nodes used, push of hand %d: got %v", n, p, err)
		}
	}
	if *s != before {
		t.Fatalf("of %d, all nodes used: what is wrong leads to %s, from %s", n, shown(s, n), shown(&before, n))
	}
}

// TestFull: no more is pushed than there are nodes; behind a pop there is one again.
func TestFull(t *testing.T) {
	for n := 1; n <= api.MaxHands; n++ {
		for _, tags := range both {
			s := fresh(t, n, tags)
			for i := range 4 {
				push(t, s, i%n, 10+i)
			}
			checkFull(t, s, n)
			for p := range n {
				pop(t, s, p, 13+7*p)
				push(t, s, p, 20+7*p)
				checkFull(t, s, n)
			}
			checkTop(t, s, tags, 3, 4+2*n)
		}
	}
}

// TestFullBegun: a node is used from when a push begins, and until a pop is done.
func TestFullBegun(t *testing.T) {
	for _, tags := range both {
		s := fresh(t, 4, tags)
		for p := range 3 {
			push(t, s, p, 10+p)
		}
		last := []act{{3, pushes, 13}, {hand: 3}, {hand: 3}, {3, pops, 0}, {hand: 3}, {hand: 3}, {hand: 3}}
		for i, a := range last {
			if got := a.in(s); got.err != api.OK {
				t.Fatalf("tags %v, %v, the %dth one: got %v", tags, a, i, got)
			}
			for q := range 3 {
				if err := s.Push(q, 5); i < len(last)-1 && plain.Told(err) != api.ErrFull {
					t.Errorf("tags %v, the last node is that of hand 3, at line %d, push of hand %d: got %v", tags, s.At(3), q, err)
				}
			}
		}
		for q, want := range []int{1, 0, 0} {
			if at := s.At(q); at != want {
				t.Errorf("tags %v, the last node is not used any more: hand %d is at line %d, want %d", tags, q, at, want)
			}
		}
		finish(t, s, 0, 2, -1)
		checkTop(t, s, tags, 3, 6)
	}
}

// TestLeast: whichever nodes are used, a push takes the least one that is not; which ones are is chosen by who pushed, in each order, and what is popped then.
func TestLeast(t *testing.T) {
	for _, tags := range both {
		for _, order := range orders(api.MaxFew) {
			for pops := range api.MaxFew + 1 {
				s := fresh(t, api.MaxHands, tags)
				for p := range order {
					if err := s.Push(p, 10+p); err != nil {
						t.Fatal(err)
					}
				}
				for i, p := range order {
					finish(t, s, p, 2, -1)
					checkTop(t, s, tags, p, i+1)
				}
				left := api.MaxFew - pops
				for _, node := range slices.Backward(order[left:]) {
					pop(t, s, order[0], 10+node)
				}
				free := slices.Sorted(slices.Values(order[left:]))
				for i, node := range free {
					push(t, s, order[0], 20+node)
					checkTop(t, s, tags, node, api.MaxFew+pops+i+1)
				}
				checkFull(t, s, api.MaxHands)
			}
		}
	}
}

// TestBeginFirst: where several things are wrong, ErrRange is told ahead of ErrState, and that one ahead of ErrFull; nothing changes, at whichever line the hand is, and whatever it does.
func TestBeginFirst(t *testing.T) {
	for _, begin := range []act{{0, pushes, 5}, {0, pops, 0}} {
		for high := 1; high <= api.MaxFew; high++ {
			s := fresh(t, 2, true)
			for range high {
				push(t, s, 1, 9)
			}
			if begin.kind == pushes {
				pop(t, s, 1, 9)
			}
			begin.in(s)
			for s.At(0) != 0 {
				checkBeginFirst(t, s)
				s.Step(0)
			}
		}
	}
}

// checkBeginFirst: hand 0 of two does something, and what is wrong is told as it is to be.
func checkBeginFirst(t *testing.T, s *stack.Stack) {
	t.Helper()
	before := *s
	for _, value := range noValues() {
		for _, p := range []int{0, 1, 2, -1} {
			if err := s.Push(p, value); plain.Told(err) != api.ErrRange {
				t.Errorf("push of hand %d, value %d: got %v", p, value, err)
			}
		}
	}
	for _, value := range []int{0, 1, 5, 1000} {
		for p, want := range map[int]api.Errno{0: api.ErrState, 2: api.ErrRange, -1: api.ErrRange} {
			if err := s.Push(p, value); plain.Told(err) != want {
				t.Errorf("hand 0 at line %d, push of hand %d, value %d: got %v, want %v", s.At(0), p, value, err, want)
			}
		}
	}
	if err := s.Pop(0); plain.Told(err) != api.ErrState {
		t.Errorf("pop of hand 0, at line %d: got %v", s.At(0), err)
	}
	if *s != before {
		t.Fatalf("what is wrong leads to %s, from %s", shown(s, 2), shown(&before, 2))
	}
}

// TestNoHand: at each time, a hand that is none is told ErrRange, whatever it is asked for, changes nothing, and stands at 0.
func TestNoHand(t *testing.T) {
	for n := 1; n <= api.MaxHands; n++ {
		s := fresh(t, n, n%2 == 0)
		for _, a := range drawn(n, 200) {
			before := *s
			for _, p := range noHands(n) {
				for _, value := range []int{0, 1, api.MaxValue, -1, api.MaxValue + 1} {
					if err := s.Push(p, value); plain.Told(err) != api.ErrRange {
						t.Errorf("of %d: push of %d, value %d: got %v", n, p, value, err)
					}
				}
				if err := s.Pop(p); plain.Told(err) != api.ErrRange {
					t.Errorf("of %d: pop of %d: got %v", n, p, err)
				}
				if done, got, err := s.Step(p); done || got != 0 || plain.Told(err) != api.ErrRange {
					t.Errorf("of %d: step of %d: got %v %d %v", n, p, done, got, err)
				}
				if at := s.At(p); at != 0 {
					t.Errorf("of %d: %d stands at %d", n, p, at)
				}
			}
			if *s != before {
				t.Fatalf("of %d: those that are no hands lead to %s, from %s", n, shown(s, n), shown(&before, n))
			}
			a.in(s)
		}
	}
}

// TestNothing: at each time, a hand that does nothing is told ErrState by Step, which changes nothing, and it may begin to pop; one that does something is told ErrState where it begins.
func TestNothing(t *testing.T) {
	for n := 1; n <= api.MaxHands; n++ {
		s := fresh(t, n, n%2 == 1)
		for _, a := range drawn(n, 300) {
			for p := range n {
				before, one := *s, *s
				wants := []api.Errno{api.ErrState, api.OK}
				if s.At(p) != 0 {
					wants = []api.Errno{api.OK, api.ErrState}
				}
				done, value, err := s.Step(p)
				got := []api.Errno{plain.Told(err), plain.Told(one.Pop(p))}
				if !slices.Equal(got, wants) {
					t.Fatalf("of %d: step and pop of hand %d, at %s: got %v, want %v", n, p, shown(&before, n), got, wants)
				}
				if before.At(p) == 0 && (done || value != 0 || *s != before) {
					t.Fatalf("of %d: step of hand %d, which does nothing: got %v %d, and %s, from %s", n, p, done, value, shown(s, n), shown(&before, n))
				}
				*s = before
			}
			a.in(s)
		}
	}
}

// TestAsked: to ask changes nothing.
func TestAsked(t *testing.T) {
	for n := 1; n <= api.MaxHands; n++ {
		s := fresh(t, n, n%2 == 0)
		for _, a := range drawn(n, 200) {
			before := *s
			for range 3 {
				for p := -1; p <= n; p++ {
					s.At(p)
				}
				s.Top()
			}
			if *s != before {
				t.Fatalf("of %d: to ask leads to %s, from %s", n, shown(s, n), shown(&before, n))
			}
			a.in(s)
		}
	}
}

// TestApart: two stacks share nothing, for as many hands or not, with tags or not, and a new one tells nothing of those before.
func TestApart(t *testing.T) {
	for n := 1; n <= api.MaxHands; n++ {
		for m := 1; m <= api.MaxHands; m++ {
			for _, tags := range both {
				one, other := fresh(t, n, tags), fresh(t, m, n%2 == m%2)
				first, second := drawn(n, 250), drawn(m, 290)[40:]
				var ones, others []answer
				for i := range first {
					ones, others = append(ones, first[i].in(one)), append(others, second[i].in(other))
				}
				checkAlone(t, n, tags, one, first, ones)
				checkAlone(t, m, n%2 == m%2, other, second, others)
			}
		}
	}
}

// checkAlone: a new stack, to which alone the same is done, comes to the same, and tells the same.
func checkAlone(t *testing.T, n int, tags bool, s *stack.Stack, acts []act, told []answer) {
	t.Helper()
	alone := fresh(t, n, tags)
	for i, a := range acts {
		if got := a.in(alone); got != told[i] {
			t.Fatalf("of %d, %v, the %dth one: got %v, beside another stack %v", n, a, i, got, told[i])
		}
	}
	if *alone != *s {
		t.Fatalf("of %d: got %s, beside another stack %s", n, shown(alone, n), shown(s, n))
	}
}

// TestTags: with tags Top never comes back, however often a node is pushed and popped; without tags it does each time.
func TestTags(t *testing.T) {
	for _, times := range []int{1, 2, 3, 64, 127, 128, 129, 255, 256, 257, 1 << 15, 1 << 16} {
		for _, tags := range both {
			s := fresh(t, 2, tags)
			if err := s.Push(0, 3); err != nil {
				t.Fatal(err)
			}
			if done, got, err := s.Step(0); done || got != 0 || err != nil {
				t.Fatalf("line 1: got %v %d %v", done, got, err)
			}
			for range times {
				push(t, s, 1, 8)
				pop(t, s, 1, 8)
			}
			checkTop(t, s, tags, -1, 2*times)
			if done, got, err := s.Step(0); done == tags || got != tagged(tags, 1)-1 || err != nil {
				t.Errorf("tags %v, %d times: got %v %d %v", tags, times, done, got, err)
			}
		}
	}
}

// ExampleStack: hand 0 is to pop, and sees node 0 on top, and node 1 next; meanwhile hand 1 pops both, and pushes again, for which node 0 is used again. By its tag hand 0 sees that Top is another one now.
func ExampleStack() {
	s, err := stack.New(2, true)
	if err != nil {
		fmt.Println(err)
	}
	fmt.Println(s.Push(0, 5), s.Push(1, 7))
	for _, p := range []int{1, 1, 0, 0} {
		fmt.Println(s.Step(p))
	}
	fmt.Println(s.Top())
	fmt.Println(s.Pop(0))
	fmt.Println(s.Step(0))
	fmt.Println(s.Step(0))
	for range 2 {
		fmt.Println(s.Pop(1))
		fmt.Println(s.Step(1))
		fmt.Println(s.Step(1))
		fmt.Println(s.Step(1))
	}
	fmt.Println(s.Push(1, 8))
	fmt.Println(s.Step(1))
	fmt.Println(s.Step(1))
	fmt.Println(s.Top())
	fmt.Println(s.Step(0))
	fmt.Println(s.At(0), s.At(1))
	fmt.Println(s.Push(1, 1001), s.Pop(2))
	_, err = stack.New(5, true)
	fmt.Println(err)
	// Output:
	// <nil> <nil>
	// false 0 <nil>
	// true -1 <nil>
	// false 0 <nil>
	// true -1 <nil>
	// 0 2
	// <nil>
	// false 0 <nil>
	// false 0 <nil>
	// <nil>
	// false 0 <nil>
	// false 0 <nil>
	// true 5 <nil>
	// <nil>
	// false 0 <nil>
	// false 0 <nil>
	// true 7 <nil>
	// <nil>
	// false 0 <nil>
	// true -1 <nil>
	// 0 5
	// false 0 <nil>
	// 3 0
	// ErrRange ErrRange
	// ErrRange
}
