package lin_test

import (
	"slices"
	"testing"

	"latchgarth/api"
	"latchgarth/lin"
)

// draw gives numbers from 0 to below n by a short rule, the same ones each time.
type draw uint64

func (d *draw) below(n int) int {
	*d = *d*6364136223846793005 + 1442695040888963407
	return int(uint64(*d) >> 33 % uint64(n))
}

// loose history of so many ops, with each of which something may be wrong.
func (d *draw) loose(many int) []api.Op {
	edges := [][]int{{-1, 4}, {-1, 2}, {-1, 1001}, {-2, 8001}, {-1, 1001}, {-1, 1001}}
	var h []api.Op
	for i := range many {
		from := d.below(5) + d.below(2)*40*i
		op := api.Op{Hand: d.below(4), Kind: d.below(2), Arg: d.below(1001), Got: d.below(8002) - 1, From: from, To: from + d.below(12)}
		if d.below(30) == 0 {
			which := d.below(6)
			*fields[which].of(&op) = edges[which][d.below(2)]
		}
		h = append(h, op)
	}
	return h
}

// wrong is another way to tell what is wrong: all that is, and of that the first.
func wrong(object int, h []api.Op) api.Errno {
	type found struct {
		place int
		rank  int
		err   api.Errno
	}
	least := found{len(h), 0, api.OK}
	note := func(f found) {
		if f.place < least.place || f.place == least.place && f.rank < least.rank {
			least = f
		}
	}
	for i, op := range h {
		for _, f := range fields {
			if n := *f.of(&op); n < f.least || n > f.most {
				note(found{i, 0, api.ErrRange})
			}
		}
		if op.To-op.From < 1 {
			note(found{i, 1, api.ErrShape})
		}
		for j, o := range h[:i] {
			if o.Hand == op.Hand && max(o.From, op.From) < min(o.To, op.To) {
				note(found{max(i, j), 2, api.ErrClash})
			}
		}
	}
	switch {
	case !slices.Contains(kinds, object):
		return api.ErrRange
	case len(h) > 8:
		return api.ErrFull
	}
	return least.err
}

// mayStand tells of a whole row whether each op stands behind all that were over when it began: none stands ahead of such a one.
func mayStand(h []api.Op, row []int) bool {
	for i, early := range row {
		for _, late := range row[i+1:] {
			if h[late].To <= h[early].From {
				return false
			}
		}
	}
	return true
}

// mayGet tells whether the op at a place of a row gets what it Got, if all ahead of it do; nothing is done for that.
func mayGet(kind int, h []api.Op, row []int, place int) bool {
	op := h[row[place]]
	ahead := make([]api.Op, 0, 8)
	for _, i := range row[:place] {
		ahead = append(ahead, h[i])
	}
	switch {
	case kind == api.Count:
		return op.Got == added(ahead)
	case op.Kind == api.In:
		return op.Got == -1
	case kind == api.Queue:
		return op.Got == oldest(ahead)
	}
	return op.Got == topmost(ahead)
}

// added is what was added in all.
func added(ahead []api.Op) int {
	sum := 0
	for _, op := range ahead {
		if op.Kind == api.In {
			sum += op.Arg
		}
	}
	return sum
}

// oldest of a queue: as many values were put in ahead of it as were got.
func oldest(ahead []api.Op) int {
	got := 0
	for _, op := range ahead {
		if op.Kind == api.Out && op.Got != -1 {
			got++
		}
	}
	for _, op := range ahead {
		if op.Kind == api.In {
			if got == 0 {
				return op.Arg
			}
			got--
		}
	}
	return -1
}

// topmost of a stack: what was put in last, behind which as many values were got as were put in.
func topmost(ahead []api.Op) int {
	got := 0
	for i := len(ahead) - 1; i >= 0; i-- {
		switch {
		case ahead[i].Kind == api.Out && ahead[i].Got != -1:
			got++
		case ahead[i].Kind == api.In && got == 0:
			return ahead[i].Arg
		case ahead[i].Kind == api.In:
			got--
		}
	}
	return -1
}

// following is the row that is next, rising, if there is any; made of the row that it follows.
func following(row []int) bool {
	i := len(row) - 2
	for i >= 0 && row[i] > row[i+1] {
		i--
	}
	if i < 0 {
		return false
	}
	j := len(row) - 1
	for row[j] < row[i] {
		j--
	}
	row[i], row[j] = row[j], row[i]
	slices.Reverse(row[i+1:])
	return true
}

// leastRow looks through all rows, rising, and tells the first one that may be, and how many are.
func leastRow(kind int, h []api.Op) (least []int, many int) {
	row := upTo(len(h))
	for more := true; more; more = following(row) {
		may := mayStand(h, row)
		for place := 0; may && place < len(row); place++ {
			may = mayGet(kind, h, row, place)
		}
		if may {
			if many == 0 {
				least = slices.Clone(row)
			}
			many++
		}
	}
	return least, many
}

// checkModel: what Row tells of a history with which nothing is wrong is what another way to tell it tells; how many rows there are.
func checkModel(t *testing.T, kind int, h []api.Op) int {
	t.Helper()
	least, many := leastRow(kind, h)
	if many == 0 {
		checkNone(t, kind, h)
	} else {
		checkRow(t, kind, h, least...)
	}
	return many
}

// play is how a history is drawn: hands begin what they do, do it at once at some time, and are done at a later one.
type play struct {
	d     *draw
	kind  int
	time  int
	done  []api.Op // all that is done on the object, in that order
	hands [api.MaxHands]struct {
		op    api.Op
		stage int // 0: it does nothing, 1: it has begun, 2: it has done it
	}
	h []api.Op
}

// next that a hand does, unless there are as many ops as there are to be.
func (p *play) next(hand, left int) (begun bool) {
	o := &p.hands[hand]
	switch {
	case o.stage == 0 && left > 0:
		o.op = api.Op{Hand: hand, Kind: p.d.below(2), Arg: p.d.below(4), From: p.time}
		o.stage = 1
		return true
	case o.stage == 1:
		o.op.Got = got(p.kind, o.op, p.done)
		p.done = append(p.done, o.op)
		o.stage = 2
	case o.stage == 2:
		if o.op.From == p.time {
			p.time++
		}
		o.op.To = p.time
		p.h = append(p.h, o.op)
		o.stage = 0
	}
	return false
}

// got is what an op gets behind those ahead of it.
func got(kind int, op api.Op, ahead []api.Op) int {
	switch {
	case kind == api.Count:
		return added(ahead)
	case op.Kind == api.In:
		return -1
	case kind == api.Queue:
		return oldest(ahead)
	}
	return topmost(ahead)
}

// history of so many ops that may have happened, or nearly: where one hand is done when another begins it may have been done later.
func (d *draw) history(kind, many int) []api.Op {
	p := play{d: d, kind: kind}
	for begun := 0; len(p.h) < many; {
		if p.next(d.below(api.MaxHands), many-begun) {
			begun++
		}
		p.time += d.below(3) / 2
	}
	for i := range p.h {
		j := i + d.below(many-i)
		p.h[i], p.h[j] = p.h[j], p.h[i]
	}
	return p.h
}

// spoil a history a little: what an op got, its Arg, or its times; whether nothing is wrong with it then.
func (d *draw) spoil(h []api.Op) bool {
	op := &h[d.below(len(h))]
	switch d.below(4) {
	case 0:
		op.Got += d.below(3) - 1
	case 1:
		op.Got = h[d.below(len(h))].Got
	case 2:
		op.Arg = d.below(5)
	case 3:
		op.From, op.To = op.From+d.below(5)-2, op.To+d.below(5)-2
	}
	return wrong(api.Count, h) == api.OK
}

// TestDrawn: drawn histories, as they are and spoiled, of each kind of object and of another one than that for which they were drawn.
func TestDrawn(t *testing.T) {
	var d draw
	none, one, several := 0, 0, 0
	for i := range 4000 {
		kind := i % 3
		h := d.history(kind, 1+d.below(6))
		for range 3 {
			switch many := checkModel(t, kind, h); many {
			case 0:
				none++
			case 1:
				one++
			default:
				several++
			}
			for _, other := range kinds {
				checkModel(t, other, h)
			}
			if !d.spoil(h) {
				break
			}
		}
	}
	if none < 1000 || one < 1000 || several < 1000 {
		t.Errorf("%d have no row, %d one, %d several", none, one, several)
	}
}

// TestDrawnWhole: the same of eight ops.
func TestDrawnWhole(t *testing.T) {
	var d draw
	none, one, several := 0, 0, 0
	for i := range 600 {
		kind := i % 3
		h := d.history(kind, 8)
		for range 2 {
			switch many := checkModel(t, kind, h); many {
			case 0:
				none++
			case 1:
				one++
			default:
				several++
			}
			if !d.spoil(h) {
				break
			}
		}
	}
	if none < 30 || one < 30 || several < 30 {
		t.Errorf("%d have no row, %d one, %d several", none, one, several)
	}
}

// TestTurned: in whatever order the ops of a history are listed, there is a row, or there is none.
func TestTurned(t *testing.T) {
	var d draw
	for i := range 300 {
		kind := i % 3
		h := d.history(kind, 1+d.below(5))
		d.spoil(h)
		if wrong(kind, h) != api.OK {
			continue
		}
		may, _, _ := lin.Row(kind, h)
		order := upTo(len(h))
		for more := true; more; more = following(order) {
			turned := make([]api.Op, len(h))
			for i, place := range order {
				turned[i] = h[place]
			}
			if is, row, err := lin.Row(kind, turned); is != may || err != nil {
				t.Fatalf("%d, %+v: got %v %v %v, of %+v %v", kind, turned, is, row, err, h, may)
			}
		}
	}
}

// TestEverywhere: all histories of up to three ops, each of its own hand, in which values and times are few.
func TestEverywhere(t *testing.T) {
	var all []api.Op
	for _, s := range spans(3) {
		for got := -1; got < 3; got++ {
			all = append(all, in(0, 1, got, s.from, s.to), in(0, 2, got, s.from, s.to), out(0, got, s.from, s.to))
		}
	}
	var more func(h []api.Op)
	more = func(h []api.Op) {
		for _, kind := range kinds {
			checkModel(t, kind, h)
		}
		if len(h) == 3 {
			return
		}
		for _, op := range all {
			op.Hand = 3 - len(h)
			more(append(slices.Clip(h), op))
		}
	}
	more(nil)
}
