package lin_test

import (
	"slices"
	"testing"

	"latchgarth/api"
	"latchgarth/lin"
)

// put and get are ops whose hand and times are told by where they stand in rounds.
func put(arg, got int) api.Op { return api.Op{Kind: api.In, Arg: arg, Got: got} }
func get(got int) api.Op      { return api.Op{Kind: api.Out, Got: got} }

// rounds of ops: those of one round are done at once, by a hand each, and those of the next round begin just when they are over.
func rounds(groups ...[]api.Op) []api.Op {
	var h []api.Op
	for i, group := range groups {
		for hand, op := range group {
			op.Hand, op.From, op.To = hand, 10*i, 10*i+10
			h = append(h, op)
		}
	}
	return h
}

// line of ops, each of which begins just when the one ahead of it is over.
func line(ops ...api.Op) []api.Op {
	var groups [][]api.Op
	for _, op := range ops {
		groups = append(groups, history(op))
	}
	return rounds(groups...)
}

// upTo are the numbers below n.
func upTo(n int) []int {
	var row []int
	for i := range n {
		row = append(row, i)
	}
	return row
}

// checkRow: there is a row, and it is that one.
func checkRow(t *testing.T, kind int, h []api.Op, want ...int) {
	t.Helper()
	if is, row, err := lin.Row(kind, h); !is || err != nil || !slices.Equal(row, want) {
		t.Fatalf("%d, %+v: got %v %v %v, want %v", kind, h, is, row, err, want)
	}
}

// checkNone: there is no row, and nothing is wrong with the history.
func checkNone(t *testing.T, kind int, h []api.Op) {
	t.Helper()
	if is, row, err := lin.Row(kind, h); is || err != nil || len(row) != 0 {
		t.Fatalf("%d, %+v: got %v %v %v, want none", kind, h, is, row, err)
	}
}

// checkLine: ops in line, all of which may have happened, or only those ahead of the last one.
func checkLine(t *testing.T, kind int, may bool, ops ...api.Op) {
	t.Helper()
	if !may {
		checkNone(t, kind, line(ops...))
		ops = ops[:len(ops)-1]
	}
	checkRow(t, kind, line(ops...), upTo(len(ops))...)
}

// TestNoOp: there is a row of no op, in which nothing is.
func TestNoOp(t *testing.T) {
	for _, kind := range kinds {
		checkRow(t, kind, nil)
		checkRow(t, kind, []api.Op{})
	}
}

// TestCount: an In gets what there was ahead of it, an Out what there is, which stays.
func TestCount(t *testing.T) {
	for _, got := range []int{-1, 1, 4, 5, 6, 8000} {
		checkLine(t, api.Count, false, put(5, got))
		checkLine(t, api.Count, false, get(got))
		checkLine(t, api.Count, got == 5, put(5, 0), get(got))
		checkLine(t, api.Count, got == 5, put(5, 0), put(7, got))
		checkLine(t, api.Count, got == 5, put(5, 0), put(0, got))
		checkLine(t, api.Count, got == 5, put(5, 0), get(5), get(got))
		checkLine(t, api.Count, got == 5, put(2, 0), put(3, 2), get(got))
	}
	checkLine(t, api.Count, true, get(0), get(0), put(0, 0), put(0, 0), get(0), put(1, 0), get(1), put(0, 1))
	checkLine(t, api.Count, true, put(5, 0), put(7, 5), get(12), get(12), put(5, 12), get(17), put(1000, 17), get(1017))
	checkLine(t, api.Count, false, put(5, 0), put(7, 5), get(12), get(7))
	checkLine(t, api.Count, false, put(5, 0), put(7, 5), get(12), get(0))
	checkLine(t, api.Count, false, put(5, 0), put(7, 5), put(5, 7))
	checkLine(t, api.Count, false, put(5, 0), put(7, 0))
	var all []api.Op
	for i := range 7 {
		all = append(all, put(1000, 1000*i))
	}
	for _, last := range []api.Op{put(1000, 7000), get(7000), put(0, 7000)} {
		checkLine(t, api.Count, true, append(all, last)...)
	}
	for _, last := range []api.Op{put(1000, 8000), get(8000), get(6000), get(7001)} {
		checkLine(t, api.Count, false, append(all, last)...)
	}
}

// TestStack: an In gets -1, an Out what was put in last of what is in; -1, if nothing is.
func TestStack(t *testing.T) {
	testPile(t, api.Stack)
	checkLine(t, api.Stack, true, put(5, -1), put(7, -1), get(7), get(5), get(-1), put(0, -1), get(0), get(-1))
	checkLine(t, api.Stack, true, put(5, -1), put(7, -1), get(7), put(9, -1), get(9), get(5), get(-1), get(-1))
	checkLine(t, api.Stack, true, put(1, -1), put(2, -1), put(3, -1), put(4, -1), get(4), get(3), get(2), get(1))
	checkLine(t, api.Stack, true, put(1, -1), put(2, -1), put(3, -1), put(4, -1), put(5, -1), put(6, -1), put(7, -1), get(7))
	checkLine(t, api.Stack, false, put(1, -1), put(2, -1), put(3, -1), put(4, -1), put(5, -1), put(6, -1), put(7, -1), get(1))
	checkLine(t, api.Stack, false, put(5, -1), put(7, -1), get(5))
	checkLine(t, api.Stack, false, put(5, -1), put(7, -1), get(7), get(7))
	checkLine(t, api.Stack, false, put(5, -1), put(7, -1), get(7), get(-1))
	checkLine(t, api.Stack, false, put(5, -1), put(7, -1), get(7), put(9, -1), get(5))
	checkLine(t, api.Stack, false, put(1, -1), put(2, -1), put(3, -1), get(3), get(1))
}

// TestQueue: an In gets -1, an Out what was put in first of what is in; -1, if nothing is.
func TestQueue(t *testing.T) {
	testPile(t, api.Queue)
	checkLine(t, api.Queue, true, put(5, -1), put(7, -1), get(5), get(7), get(-1), put(0, -1), get(0), get(-1))
	checkLine(t, api.Queue, true, put(5, -1), put(7, -1), get(5), put(9, -1), get(7), get(9), get(-1), get(-1))
	checkLine(t, api.Queue, true, put(1, -1), put(2, -1), put(3, -1), put(4, -1), get(1), get(2), get(3), get(4))
	checkLine(t, api.Queue, true, put(1, -1), put(2, -1), put(3, -1), put(4, -1), put(5, -1), put(6, -1), put(7, -1), get(1))
	checkLine(t, api.Queue, false, put(1, -1), put(2, -1), put(3, -1), put(4, -1), put(5, -1), put(6, -1), put(7, -1), get(7))
	checkLine(t, api.Queue, false, put(5, -1), put(7, -1), get(7))
	checkLine(t, api.Queue, false, put(5, -1), put(7, -1), get(5), get(5))
	checkLine(t, api.Queue, false, put(5, -1), put(7, -1), get(5), get(-1))
	checkLine(t, api.Queue, false, put(5, -1), put(7, -1), get(5), put(9, -1), get(9))
	checkLine(t, api.Queue, false, put(1, -1), put(2, -1), put(3, -1), get(1), get(3))
}

// testPile: what stacks and queues have in common.
func testPile(t *testing.T, kind int) {
	t.Helper()
	for _, value := range []int{0, 1, 5, 999, 1000} {
		for _, got := range []int{-1, 0, 1, 5, 999, 1000, 8000} {
			checkLine(t, kind, got == -1, put(value, got))
			checkLine(t, kind, got == -1, get(got))
			checkLine(t, kind, got == -1, put(5, -1), put(value, got))
			checkLine(t, kind, got == value, put(value, -1), get(got))
			checkLine(t, kind, got == value, get(-1), put(value, -1), get(got))
			checkLine(t, kind, got == -1, put(value, -1), get(value), get(got))
			checkLine(t, kind, got == value, put(value, -1), put(value, -1), get(value), get(got))
			checkLine(t, kind, got == value, put(1, -1), get(1), get(-1), put(value, -1), get(got))
		}
	}
	checkLine(t, kind, true, get(-1), get(-1), get(-1), get(-1), get(-1), get(-1), get(-1), get(-1))
	checkLine(t, kind, true, put(1, -1), put(1, -1), put(0, -1), put(1, -1), put(1, -1), put(0, -1), put(1, -1), put(1000, -1))
}

// TestOutArg: the Arg of an Out is any that may be, and changes nothing.
func TestOutArg(t *testing.T) {
	for _, arg := range []int{0, 1, 5, 7, 999, 1000} {
		for _, c := range []struct {
			kind int
			h    []api.Op
		}{
			{api.Count, line(get(0), put(5, 0), get(5), put(7, 5), get(12), get(12))},
			{api.Stack, line(get(-1), put(5, -1), put(7, -1), get(7), get(5), get(-1))},
			{api.Queue, line(get(-1), put(5, -1), put(7, -1), get(5), get(7), get(-1))},
		} {
			for i := range c.h {
				if c.h[i].Kind == api.Out {
					c.h[i].Arg = arg
				}
			}
			checkRow(t, c.kind, c.h, 0, 1, 2, 3, 4, 5)
		}
	}
}

// TestBehind: an op stands behind one whose To is not above its From, also where they only touch; where they share a time either may be first. That of two ops, an In and an Out, whichever of them stands first in the list.
func TestBehind(t *testing.T) {
	for _, kind := range kinds {
		nothing := -1
		if kind == api.Count {
			nothing = 0
		}
		for _, one := range spans(5) {
			for _, other := range spans(5) {
				put, early, late := in(1, 5, nothing, one.from, one.to), out(2, nothing, other.from, other.to), out(2, 5, other.from, other.to)
				checkPair(t, kind, put, late, one.to <= other.from || one.share(other))
				checkPair(t, kind, early, put, other.to <= one.from || one.share(other))
			}
		}
	}
}

// checkPair: two ops, of which the first one must have happened first; whether it may.
func checkPair(t *testing.T, kind int, first, last api.Op, may bool) {
	t.Helper()
	if !may {
		checkNone(t, kind, history(first, last))
		checkNone(t, kind, history(last, first))
		return
	}
	checkRow(t, kind, history(first, last), 0, 1)
	checkRow(t, kind, history(last, first), 1, 0)
}

// TestEither: of two ops that change nothing the first one of the list stands first, unless it must stand behind the other one.
func TestEither(t *testing.T) {
	for _, kind := range kinds {
		nothing := -1
		if kind == api.Count {
			nothing = 0
		}
		for _, one := range spans(5) {
			for _, other := range spans(5) {
				h := history(out(0, nothing, one.from, one.to), out(3, nothing, other.from, other.to))
				if other.to <= one.from {
					checkRow(t, kind, h, 1, 0)
				} else {
					checkRow(t, kind, h, 0, 1)
				}
			}
		}
	}
}

// TestLeast: of all rows that do the least one is told, also where what seems less at first leads nowhere.
func TestLeast(t *testing.T) {
	for _, kind := range kinds {
		nothing := -1
		if kind == api.Count {
			nothing = 0
		}
		n := get(nothing)
		checkRow(t, kind, rounds(history(n, n, n, n), history(n, n, n, n)), 0, 1, 2, 3, 4, 5, 6, 7)
		turned := rounds(history(n, n, n, n), history(n, n, n, n))
		slices.Reverse(turned)
		checkRow(t, kind, turned, 4, 5, 6, 7, 0, 1, 2, 3)
		// Op 0 is at it all the time of ops 1, 2 and 3; op 3 is over when op 1 begins.
		checkRow(t, kind, history(out(0, nothing, 0, 9), out(1, nothing, 5, 7), out(2, nothing, 1, 8), out(1, nothing, 2, 5)), 0, 2, 3, 1)
		// Op 0 begins when op 2 is over, op 2 when op 1 is.
		checkRow(t, kind, history(out(3, nothing, 6, 9), out(1, nothing, 0, 3), out(3, nothing, 3, 6), out(2, nothing, 2, 8)), 1, 2, 0, 3)
	}
	at := func(values ...int) []api.Op {
		var ops []api.Op
		for _, v := range values {
			ops = append(ops, put(v, -1))
		}
		return ops
	}
	one := func(got int) []api.Op { return history(get(got)) }
	checkRow(t, api.Stack, rounds(at(1, 2, 3, 4), one(1), one(2), one(3), one(4)), 3, 2, 1, 0, 4, 5, 6, 7)
	checkRow(t, api.Queue, rounds(at(1, 2, 3, 4), one(4), one(3), one(2), one(1)), 3, 2, 1, 0, 4, 5, 6, 7)
	checkRow(t, api.Stack, rounds(at(1, 2, 3, 4), one(3), one(1), one(4), one(2)), 1, 3, 0, 2, 4, 5, 6, 7)
	checkRow(t, api.Queue, rounds(at(1, 2, 3, 4), one(3), one(1), one(4), one(2)), 2, 0, 3, 1, 4, 5, 6, 7)
	checkRow(t, api.Queue, rounds(at(1, 2, 3, 4), history(get(2), get(1), get(4), get(3))), 0, 1, 2, 3, 5, 4, 7, 6)
	checkRow(t, api.Stack, rounds(at(1, 2, 3, 4), history(get(2), get(1), get(4), get(3))), 0, 1, 2, 3, 6, 7, 4, 5)
	checkRow(t, api.Queue, rounds(at(5, 7, 5), one(5), one(7), one(5)), 0, 1, 2, 3, 4, 5)
	checkRow(t, api.Queue, rounds(at(5, 7, 5), one(5), one(5), one(7)), 0, 2, 1, 3, 4, 5)
	checkRow(t, api.Queue, rounds(at(5, 7, 5), one(7), one(5), one(5)), 1, 0, 2, 3, 4, 5)
	checkRow(t, api.Stack, rounds(at(5, 7, 5), one(7), one(5), one(5)), 0, 2, 1, 3, 4, 5)
	checkRow(t, api.Stack, rounds(at(5, 7, 5), one(5), one(5), one(7)), 1, 0, 2, 3, 4, 5)
	checkRow(t, api.Count, rounds(history(put(1, 6), put(2, 4), put(4, 0), get(4)), history(get(7), put(0, 7))), 2, 3, 1, 0, 4, 5)
}

// TestAtOnce: ops of one round, each with what it got, told of all three kinds of objects.
func TestAtOnce(t *testing.T) {
	// An Out that is at it while something is put in may find it, or not; one that begins later finds it.
	for _, kind := range []int{api.Stack, api.Queue} {
		checkRow(t, kind, rounds(history(put(5, -1), get(5), get(-1), get(-1))), 0, 1, 2, 3)
		checkRow(t, kind, rounds(history(get(5), get(-1), put(5, -1), get(-1))), 1, 2, 0, 3)
		checkNone(t, kind, rounds(history(get(5), get(5), put(5, -1), get(-1))))
		checkNone(t, kind, rounds(history(get(-1), put(5, -1)), history(get(-1))))
		checkRow(t, kind, rounds(history(get(-1), put(5, -1)), history(get(5))), 0, 1, 2)
		checkRow(t, kind, rounds(history(get(5), put(5, -1)), history(get(-1))), 1, 0, 2)
	}
	checkRow(t, api.Count, rounds(history(get(5), get(0), put(5, 0), get(0))), 1, 3, 2, 0)
	checkRow(t, api.Count, rounds(history(get(5), get(5), put(5, 0), get(0))), 3, 2, 0, 1)
	checkRow(t, api.Count, rounds(history(get(12), get(5), put(7, 5), put(5, 0))), 3, 1, 2, 0)
	checkNone(t, api.Count, rounds(history(get(12), get(7), put(7, 5), put(5, 0))))
	checkNone(t, api.Count, rounds(history(put(7, 5), put(5, 7))))
	checkNone(t, api.Count, rounds(history(put(7, 0), put(5, 0))))
	checkRow(t, api.Count, rounds(history(put(0, 0), put(5, 0))), 0, 1)
	checkRow(t, api.Count, rounds(history(put(5, 0), put(0, 0))), 1, 0)
	checkNone(t, api.Count, rounds(history(get(0), put(5, 0)), history(get(0))))
	// What two hands see of two that put in at once is the same order.
	checkNone(t, api.Queue, rounds(history(put(1, -1), put(2, -1)), history(put(1, -1), put(2, -1)), history(get(1)), history(get(1)), history(get(2)), history(get(2))))
	checkRow(t, api.Queue, rounds(history(put(1, -1), put(2, -1)), history(put(1, -1), put(2, -1)), history(get(1)), history(get(2)), history(get(2)), history(get(1))), 0, 1, 3, 2, 4, 5, 6, 7)
	checkNone(t, api.Stack, rounds(history(put(1, -1), put(2, -1)), history(put(1, -1), put(2, -1)), history(get(1)), history(get(1)), history(get(2)), history(get(2))))
	checkRow(t, api.Stack, rounds(history(put(1, -1), put(2, -1)), history(put(1, -1), put(2, -1)), history(get(1)), history(get(2)), history(get(2)), history(get(1))), 0, 1, 3, 2, 4, 5, 6, 7)
}

// TestChain: what is behind is behind by the times of two ops alone: ops that share times with one and the same need share none with each other.
func TestChain(t *testing.T) {
	// Op 1 shares times with op 0 and with op 2, and op 0 is over when op 2 begins.
	h := func(first, middle, last int) []api.Op {
		return history(in(0, first, -1, 0, 10), in(1, middle, -1, 5, 15), in(0, last, -1, 10, 20), out(2, 1, 30, 40), out(2, 2, 40, 50), out(2, 3, 50, 60))
	}
	checkRow(t, api.Queue, h(1, 2, 3), 0, 1, 2, 3, 4, 5)
	checkRow(t, api.Queue, h(1, 3, 2), 0, 2, 1, 3, 4, 5)
	checkRow(t, api.Queue, h(2, 1, 3), 1, 0, 2, 3, 4, 5)
	checkNone(t, api.Queue, h(2, 3, 1))
	checkNone(t, api.Queue, h(3, 1, 2))
	checkNone(t, api.Queue, h(3, 2, 1))
	checkRow(t, api.Stack, h(3, 2, 1), 0, 1, 2, 3, 4, 5)
	checkRow(t, api.Stack, h(3, 1, 2), 0, 2, 1, 3, 4, 5)
	checkRow(t, api.Stack, h(2, 3, 1), 1, 0, 2, 3, 4, 5)
	checkNone(t, api.Stack, h(2, 1, 3))
	checkNone(t, api.Stack, h(1, 3, 2))
	checkNone(t, api.Stack, h(1, 2, 3))
}

// TestEnds: a call ends soon, too, where all hands are at it all the time, and only the last op, or none, fails.
func TestEnds(t *testing.T) {
	for _, kind := range kinds {
		nothing := -1
		if kind == api.Count {
			nothing = 0
		}
		h := rounds(history(get(nothing), get(nothing), get(nothing), get(nothing)), history(get(nothing), get(nothing), get(nothing), get(nothing)))
		for i := range h {
			h[i].From, h[i].To = i/4*500, i/4*500+500
		}
		checkRow(t, kind, h, 0, 1, 2, 3, 4, 5, 6, 7)
		for i := range h {
			h[i].Got = 8000
			checkNone(t, kind, h)
			h[i].Got = nothing
		}
	}
}
