package lin_test

import (
	"testing"

	"latchgarth/api"
	"latchgarth/fifo"
	"latchgarth/lin"
	"latchgarth/ring"
	"latchgarth/stack"
	"latchgarth/univ"
)

// machine is what hands do together without any lock, as a history is to be told of it. A hand that may not begin what it is to do does nothing.
type machine struct {
	hands int
	begin func(op api.Op) error
	step  func(hand int) (done bool, got int, err error)
}

// rowOf deeds is a count to which hands add.
func rowOf(hands int) machine {
	r, _ := univ.New(hands)
	return machine{hands, func(op api.Op) error {
		if op.Kind == api.Out {
			return r.Begin(op.Hand, 0) // what there was is what there is, if nothing is added
		}
		return r.Begin(op.Hand, op.Arg)
	}, r.Step}
}

func stackOf(hands int, tags bool) machine {
	s, _ := stack.New(hands, tags)
	return machine{hands, func(op api.Op) error {
		if op.Kind == api.Out {
			return s.Pop(op.Hand)
		}
		return s.Push(op.Hand, op.Arg)
	}, s.Step}
}

func queueOf(hands int) machine {
	q, _ := fifo.New(hands)
	return machine{hands, func(op api.Op) error {
		if op.Kind == api.Out {
			return q.Get(op.Hand)
		}
		return q.Put(op.Hand, op.Arg)
	}, q.Step}
}

// ringOf two hands, of which the first one puts, and the other one gets; there is room for all.
func ringOf() machine {
	r, _ := ring.New(api.MaxOps)
	return machine{2, func(op api.Op) error {
		switch {
		case op.Hand == 0 && op.Kind == api.In:
			return r.Put(op.Arg)
		case op.Hand == 1 && op.Kind == api.Out:
			return r.Get()
		}
		return api.ErrRange
	}, func(hand int) (bool, int, error) {
		if hand == 1 {
			return r.StepGet()
		}
		done, _, err := r.StepPut()
		return done, -1, err
	}}
}

// watch of a machine: what is begun and done is noted, by a time that goes on with each of that.
type watch struct {
	m    machine
	time int
	busy [api.MaxHands]bool
	ops  [api.MaxHands]api.Op
	h    []api.Op // in the order in which ops are done
}

// begin an op: may it be begun?
func (w *watch) begin(op api.Op) bool {
	w.time++
	if w.m.begin(op) != nil {
		return false
	}
	op.From = w.time
	w.busy[op.Hand], w.ops[op.Hand] = true, op
	return true
}

// step of a hand that does something: is it done?
func (w *watch) step(p int) bool {
	w.time++
	done, got, _ := w.m.step(p)
	if done {
		w.busy[p] = false
		w.ops[p].Got, w.ops[p].To = got, w.time
		w.h = append(w.h, w.ops[p])
	}
	return done
}

// finish what a hand does.
func (w *watch) finish(p int) {
	for !w.step(p) {
	}
}

// run a machine by a drawn script, up to so many ops, all of which come to their ends: the history of it.
func (m machine) run(d *draw, many int) []api.Op {
	w := watch{m: m}
	for begun := 0; len(w.h) < many; {
		p := d.below(m.hands)
		switch {
		case w.busy[p]:
			w.step(p)
		case begun < many && w.begin(api.Op{Hand: p, Kind: d.below(2), Arg: d.below(9)}):
			begun++
		}
	}
	return w.h
}

// TestMachines: what hands do together without any lock may have happened one by one.
func TestMachines(t *testing.T) {
	var d draw
	for range 3000 {
		many, hands := 1+d.below(api.MaxOps), 1+d.below(api.MaxHands)
		for _, c := range []struct {
			kind int
			m    machine
		}{
			{api.Count, rowOf(hands)},
			{api.Stack, stackOf(hands, true)},
			{api.Queue, queueOf(hands)},
			{api.Queue, ringOf()},
		} {
			h := c.m.run(&d, many)
			if is, row, err := lin.Row(c.kind, h); !is || len(row) != len(h) || err != nil {
				t.Fatalf("%d, %+v: got %v %v %v", c.kind, h, is, row, err)
			}
		}
	}
}

// TestMachineBroken: on a stack without tags it seldom may not, where a node went away and came back; another way to tell it finds no row there, either.
func TestMachineBroken(t *testing.T) {
	var d draw
	broken := 0
	for range 20000 {
		h := stackOf(4, false).run(&d, api.MaxOps)
		is, _, err := lin.Row(api.Stack, h)
		if err != nil {
			t.Fatalf("%+v: got %v", h, err)
		}
		if !is {
			broken++
			checkModel(t, api.Stack, h)
		}
	}
	if broken < 20 {
		t.Errorf("%d only were broken", broken)
	}
}

// TestNoTags: hand 0 is to pop what is on top, node 0, and sees node 1 behind it; meanwhile hand 1 pops both, and pushes 8, on node 0. Without tags hand 0 pops 8 then, and leaves node 1 on top, so that what was on that is popped once more.
func TestNoTags(t *testing.T) {
	want := history(put(7, -1), put(5, -1), get(5), get(7), put(8, -1), get(8), get(-1))
	for _, tags := range []bool{false, true} {
		w := watch{m: stackOf(2, tags)}
		w.begin(in(0, 5, 0, 0, 0))
		w.begin(in(1, 7, 0, 0, 0))
		w.finish(1)
		w.finish(0)
		w.begin(out(0, 0, 0, 0))
		w.step(0)
		w.step(0)
		for _, op := range history(out(1, 0, 0, 0), out(1, 0, 0, 0), in(1, 8, 0, 0, 0)) {
			w.begin(op)
			w.finish(1)
		}
		w.finish(0)
		w.begin(out(1, 0, 0, 0))
		w.finish(1)
		want[6].Got = 7
		if tags {
			want[6].Got = -1
		}
		for i, op := range w.h {
			if op.Kind != want[i].Kind || op.Arg != want[i].Arg || op.Got != want[i].Got {
				t.Fatalf("with tags %v: got %+v, want %+v", tags, op, want[i])
			}
		}
		if tags {
			checkRow(t, api.Stack, w.h, 0, 1, 2, 3, 4, 5, 6)
		} else {
			checkNone(t, api.Stack, w.h)
		}
	}
}
