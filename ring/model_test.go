package ring_test

import (
	"fmt"
	"slices"
	"testing"

	"latchgarth/api"
	"latchgarth/plain"
	"latchgarth/ring"
)

// What a ring may be asked for.
const (
	puts = iota
	gets
	putSteps
	getSteps
)

// act is what a ring is asked for; only what puts has a value.
type act struct{ kind, value int }

// answer to it, as far as its call tells so much.
type answer struct {
	done, put bool
	got       int
	err       api.Errno
}

// in a ring it is done.
func (a act) in(r *ring.Ring) answer {
	var out answer
	var err error
	switch a.kind {
	case puts:
		err = r.Put(a.value)
	case gets:
		err = r.Get()
	case putSteps:
		out.done, out.put, err = r.StepPut()
	case getSteps:
		out.done, out.got, err = r.StepGet()
	}
	out.err = plain.Told(err)
	return out
}

// draw gives numbers from 0 to below n by a short rule, the same ones each time.
type draw uint64

func (d *draw) below(n int) int {
	*d = *d*6364136223846793005 + 1442695040888963407
	return int(uint64(*d) >> 33 % uint64(n))
}

// acts of both sides: one of them is asked for some, then one is again, of so many in a hundred times the one that puts; seldom to put what is not to be. The rarer beginnings are, the more steps are taken by a side that does something.
func (d *draw) acts(count, longest, rarer, putting int) []act {
	var out []act
	for len(out) < count {
		begin, step := gets, getSteps
		if d.below(100) < putting {
			begin, step = puts, putSteps
		}
		for range 1 + d.below(longest) {
			a := act{kind: step}
			if d.below(rarer) == 0 {
				a.kind = begin
			}
			if a.kind == puts {
				a.value = d.below(api.MaxValue + 1)
				if d.below(10) == 0 {
					a.value = []int{-1, 0, api.MaxValue, api.MaxValue + 1}[d.below(4)]
				}
			}
			out = append(out, a)
		}
	}
	return out[:count]
}

// drawn is what a ring is asked for, the same each time.
func drawn(size, count int) []act {
	d := draw(size)
	return d.acts(count, 7, 4, 55)
}

// model is another way to tell what a ring does. It has no places: all that ever was written stands in a row, as it came, and the rest is looked up in it.
type model struct {
	size    int
	written []int
	in      int // how many of them were put
	out     int // how many of them were got
	putting doing
	getting doing
}

// doing of a side.
type doing struct {
	begun int // how often it began
	is    bool
	steps int // since it began
	value int
}

// clone shares with the model what is never written into alone.
func (w *model) clone() model {
	out := *w
	out.written = slices.Clip(w.written)
	return out
}

// ended is a side that did something, and does nothing any more.
func ended(d doing) doing { return doing{begun: d.begun} }

// do what is asked.
func (w *model) do(a act) answer {
	var out answer
	switch {
	case a.kind == puts && (a.value < 0 || a.value > 1000):
		out.err = api.ErrRange
	case a.kind == puts && w.putting.is, a.kind == gets && w.getting.is,
		a.kind == putSteps && !w.putting.is, a.kind == getSteps && !w.getting.is:
		out.err = api.ErrState
	case a.kind == puts:
		w.putting = doing{w.putting.begun + 1, true, 0, a.value}
	case a.kind == gets:
		w.getting = doing{w.getting.begun + 1, true, 0, 0}
	case a.kind == putSteps:
		w.stepPut(&out)
	default:
		w.stepGet(&out)
	}
	return out
}

// stepPut: it asks for room, then writes, then all may see it.
func (w *model) stepPut(out *answer) {
	d := &w.putting
	d.steps++
	switch {
	case d.steps == 1 && w.in == w.out+w.size:
		out.done = true
	case d.steps == 2:
		w.written = append(w.written, d.value)
	case d.steps == 3:
		w.in++
		out.done, out.put = true, true
	}
	if out.done {
		*d = ended(*d)
	}
}

// stepGet: it asks whether something is in, then sees it, then all may see that it is out.
func (w *model) stepGet(out *answer) {
	d := &w.getting
	d.steps++
	switch {
	case d.steps == 1 && w.in == w.out:
		out.done, out.got = true, -1
	case d.steps == 2:
		d.value = w.written[w.out]
	case d.steps == 3:
		w.out++
		out.done, out.got = true, d.value
	}
	if out.done {
		*d = ended(*d)
	}
}

// places as they are to be: each has what was written to it last.
func (w *model) places() []int {
	out := make([]int, w.size)
	for i, value := range w.written {
		out[i%w.size] = value
	}
	return out
}

// values that are in, in their order.
func (w *model) values() []int { return w.written[w.out:w.in] }

// shown is all that a ring is to tell where the model is.
func (w *model) shown() string { return fmt.Sprint(w.places(), w.out, w.in) }

// known is all on which it hangs what the model tells from here on.
func (w *model) known() string { return fmt.Sprint(w.written, w.in, w.out, w.putting, w.getting) }

// spot is one of the things that a ring may come to, and what the model says of it.
type spot struct {
	ring ring.Ring
	told model
}

func freshSpot(t *testing.T, size int) spot {
	t.Helper()
	return spot{*fresh(t, size), model{size: size}}
}

// checkAct: an act is told of, and leads to, what the model says; what is told is given back.
func checkAct(t *testing.T, then *spot, a act) answer {
	t.Helper()
	w := &then.told
	before := slices.Clone(w.values())
	got, want := a.in(&then.ring), w.do(a)
	if got != want {
		t.Fatalf("of %d, %v, which leads to %s: got %v, want %v", w.size, a, w.shown(), got, want)
	}
	if shown := shown(&then.ring); shown != w.shown() {
		t.Fatalf("of %d, %v: got %s, want %s", w.size, a, shown, w.shown())
	}
	checkOneByOne(t, &then.ring, w.size, a, got, before)
	return got
}

// checkOneByOne: what both sides do together happens one by one, at a step of the side itself: who puts puts behind all at the step that ends it, or finds all places taken then; who gets takes the one ahead of all at the step that ends it, or finds nothing then; and nothing else changes what is in, which stands in the places from Head up to Tail.
func checkOneByOne(t *testing.T, r *ring.Ring, size int, a act, got answer, before []int) {
	t.Helper()
	head, tail := r.Ends()
	places := r.Places()
	var after []int
	for i := head; i < tail; i++ {
		after = append(after, places[i%size])
	}
	ok := slices.Equal(after, before)
	switch {
	case got.put:
		ok = len(after) > 0 && slices.Equal(after[:len(after)-1], before)
	case a.kind == putSteps && got.done:
		ok = ok && len(before) == size
	case a.kind == getSteps && got.done && got.got == -1:
		ok = ok && len(before) == 0
	case a.kind == getSteps && got.done:
		ok = slices.Equal(append([]int{got.got}, after...), before)
	}
	if !ok || len(after) > size {
		t.Fatalf("of %d, %v, which tells %v: %v was in, %v is", size, a, got, before, after)
	}
}

// ending is an act of a kind, and what it tells, whatever the value.
type ending struct {
	kind int
	answer
}

// TestModel: much of what may be asked, right and wrong, against another way to tell what a ring does.
func TestModel(t *testing.T) {
	d := draw(5)
	for size := 1; size <= api.MaxRing; size++ {
		told := map[ending]int{}
		for round := range 60 {
			here := freshSpot(t, size)
			for _, a := range d.acts(600, 1+round%9, 2+round%7, 20+10*(round%7)) {
				got := checkAct(t, &here, a)
				got.got = min(got.got, 0)
				told[ending{a.kind, got}]++
			}
		}
		for _, want := range []ending{
			{puts, answer{}}, {puts, answer{err: api.ErrRange}}, {puts, answer{err: api.ErrState}},
			{gets, answer{}}, {gets, answer{err: api.ErrState}},
			{putSteps, answer{}}, {putSteps, answer{done: true}}, {putSteps, answer{done: true, put: true}}, {putSteps, answer{err: api.ErrState}},
			{getSteps, answer{}}, {getSteps, answer{done: true}}, {getSteps, answer{done: true, got: -1}}, {getSteps, answer{err: api.ErrState}},
		} {
			if told[want] < 100 {
				t.Errorf("of %d: %v was told %d times", size, want, told[want])
			}
			delete(told, want)
		}
		if len(told) > 0 {
			t.Errorf("of %d: what is never to be told was: %v", size, told)
		}
	}
}

// plan is how often each side may begin, and what is put: told by how often it began, or by how much was written.
type plan struct {
	size, puts, gets int
	byBegun          bool
}

// TestEverywhere: a ring tells what the model does whoever goes on, in all that both sides may come to while they begin so often.
func TestEverywhere(t *testing.T) {
	for size := 1; size <= api.MaxRing; size++ {
		for _, p := range []plan{
			{size, 2*size + 3, 2*size + 3, false}, {size, 6, 6, true}, {size, size + 2, 2, true}, {size, 2, size + 2, true},
		} {
			t.Run(fmt.Sprint(p), func(t *testing.T) {
				t.Parallel()
				checkPlan(t, p)
			})
		}
	}
}

// checkPlan: it leans on a ring being a value: two that are the same do the same. All that so many acts lead to is looked through behind what one less does; an act that is wrong is none, since it changes nothing.
func checkPlan(t *testing.T, p plan) {
	t.Helper()
	known := map[string]ring.Ring{}
	for layer := []spot{freshSpot(t, p.size)}; len(layer) > 0; {
		var next []spot
		for i := range layer {
			next = append(next, actOn(t, p, &layer[i], known)...)
		}
		layer = next
	}
	if len(known) == 0 {
		t.Errorf("%v: nothing was looked through", p)
	}
}

// actOn is all to which an act leads and none ahead of it did, each once.
func actOn(t *testing.T, p plan, here *spot, known map[string]ring.Ring) []spot {
	t.Helper()
	var next []spot
	for _, a := range p.acts(t, here) {
		then := spot{here.ring, here.told.clone()}
		checkAct(t, &then, a)
		key := then.told.known()
		other, found := known[key]
		if !found {
			known[key] = then.ring
			next = append(next, then)
		} else if other != then.ring {
			t.Fatalf("%v: two ways lead to what is not the same: %s", p, shown(&then.ring))
		}
	}
	return next
}

// acts that both sides may go on with; each that they may not is told ErrState, and changes nothing.
func (p plan) acts(t *testing.T, here *spot) []act {
	t.Helper()
	w := &here.told
	value := 2*len(w.written) + 1
	if p.byBegun {
		value = w.putting.begun + 1
	}
	var out, wrong []act
	put, get, stepPut, stepGet := act{puts, value}, act{kind: gets}, act{kind: putSteps}, act{kind: getSteps}
	if w.putting.is {
		out, wrong = append(out, stepPut), append(wrong, put)
	} else {
		wrong = append(wrong, stepPut)
		if w.putting.begun < p.puts {
			out = append(out, put)
		}
	}
	if w.getting.is {
		out, wrong = append(out, stepGet), append(wrong, get)
	} else {
		wrong = append(wrong, stepGet)
		if w.getting.begun < p.gets {
			out = append(out, get)
		}
	}
	for _, a := range wrong {
		then := here.ring
		if got := a.in(&then); got != (answer{err: api.ErrState}) || then != here.ring {
			t.Fatalf("%v, at %s, %v: got %v, and %s", p, w.shown(), a, got, shown(&then))
		}
	}
	return out
}
