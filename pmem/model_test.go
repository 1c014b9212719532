package pmem_test

import (
	"fmt"
	"slices"
	"testing"

	"latchgarth/api"
)

// draw gives numbers from 0 to below n by a short rule, the same ones each time.
type draw uint64

func (d *draw) below(n int) int {
	*d = *d*6364136223846793005 + 1442695040888963407
	return int(uint64(*d) >> 33 % uint64(n))
}

// acts on n cells, of which nothing is wrong. Of values there are few, so that some are written again.
func (d *draw) acts(n, count int) []act {
	var out []act
	for range count {
		switch d.below(10) {
		case 0:
			out = append(out, crash(d.below(1<<n)))
		case 1, 2:
			out = append(out, fence())
		case 3, 4, 5:
			out = append(out, flush(d.below(n)))
		default:
			out = append(out, write(d.below(n), d.below(4)))
		}
	}
	return out
}

// row of all that was done to cells, of which nothing was refused. It is another way to tell what they have: nothing is kept but the row, in which what a cell has is looked up from its end on.
type row []act

// now is what a cell has.
func (r row) now(i int) int {
	for k, a := range slices.Backward(r) {
		switch {
		case a.kind == writes && a.which == i:
			return a.value
		case a.kind == crashes && !slices.Contains(members(a.which), i):
			return r[:k].lasts(i)
		}
	}
	return 0
}

// lasts is what of a cell lasts.
func (r row) lasts(i int) int {
	for k, a := range slices.Backward(r) {
		if a.kind == crashes && slices.Contains(members(a.which), i) {
			return r[:k].now(i)
		}
		if at := r[:k].flushed(i); a.kind == fences && at >= 0 {
			return r[:at].now(i)
		}
	}
	return 0
}

// flushed is the place at which a cell was flushed last, if no fence, and no crash, stands behind it; else -1.
func (r row) flushed(i int) int {
	for k, a := range slices.Backward(r) {
		switch {
		case a.kind == flushes && a.which == i:
			return k
		case a.kind == fences, a.kind == crashes:
			return -1
		}
	}
	return -1
}

// cells are what all n cells have.
func (r row) cells(n int) []int {
	var out []int
	for i := range n {
		out = append(out, r.now(i))
	}
	return out
}

// TestDrawn: drawn acts, of few cells and of all, against the row of them.
func TestDrawn(t *testing.T) {
	for n := 1; n <= api.MaxCells; n++ {
		t.Run(fmt.Sprint(n), func(t *testing.T) {
			t.Parallel()
			d := draw(n)
			for range 60 {
				m := fresh(t, n)
				var r row
				for _, a := range d.acts(n, 250) {
					play(t, m, a)
					r = append(r, a)
					checkCells(t, m, r.cells(n)...)
				}
			}
		})
	}
}

// every act that may be done to n cells; that of a write tells when it was written.
func every(n, when int) []act {
	acts := []act{fence()}
	for i := range n {
		acts = append(acts, write(i, when), flush(i))
	}
	for keep := range 1 << n {
		acts = append(acts, crash(keep))
	}
	return acts
}

// TestEvery: all rows of few acts.
func TestEvery(t *testing.T) {
	for n, most := range []int{1: 8, 2: 6, 3: 5} {
		if n == 0 {
			continue
		}
		t.Run(fmt.Sprint(n), func(t *testing.T) {
			t.Parallel()
			checkEvery(t, n, most, nil)
		})
	}
}

// checkEvery row of so many more acts, behind those that are there.
func checkEvery(t *testing.T, n, more int, r row) {
	t.Helper()
	if more == 0 {
		checkRow(t, n, r)
		return
	}
	for _, a := range every(n, len(r)+1) {
		checkEvery(t, n, more-1, append(r[:len(r):len(r)], a))
	}
}

// checkRow of acts, from new cells on. All that is told on the way is held, since what is flushed, or lasts, is told later alone.
func checkRow(t *testing.T, n int, r row) {
	t.Helper()
	m := fresh(t, n)
	for k, a := range r {
		if got := a.in(m); got != api.OK {
			t.Fatalf("%v of %v: got %v", a, r, got)
		}
		if got, want := m.Cells(), r[:k+1].cells(n); !slices.Equal(got, want) {
			t.Fatalf("%v: got %v, want %v", r[:k+1], got, want)
		}
	}
}
