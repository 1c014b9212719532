package lin_test

import (
	"slices"
	"testing"

	"latchgarth/api"
	"latchgarth/lin"
	"latchgarth/plain"
)

// room is a copy of a history, with so many wrong ops behind its length.
func room(h []api.Op, many int) []api.Op {
	odd := api.Op{Hand: -7, Kind: -7, Arg: -7, Got: -7, From: -7, To: -7}
	return append(slices.Clone(h), slices.Repeat(history(odd), many)...)[:len(h)]
}

// asked are histories of each kind: with a row, without one, and with something wrong.
func asked() [][]api.Op {
	all := [][]api.Op{
		nil,
		rounds(history(put(5, 5), put(5, 0), get(5)), history(get(10), put(0, 10))),
		rounds(history(put(5, -1), put(7, -1)), history(get(7)), history(get(5), get(-1))),
		rounds(history(put(5, -1), put(7, -1)), history(get(9))),
		history(in(0, 5, -1, 3, 3)),
		history(in(0, 5, -1, 3, 7), out(0, 5, 2, 5)),
		history(in(0, 5, -1, 3, 7), out(4, 5, 2, 5)),
		slices.Repeat(history(in(0, 5, -1, 3, 7)), 9),
	}
	var d draw
	for i := range 60 {
		all = append(all, d.history(i%3, 1+i%8))
	}
	return all
}

// TestKeepsIn: what is handed in, and what lies behind its length, is neither turned nor asked, whatever is told.
func TestKeepsIn(t *testing.T) {
	for _, h := range asked() {
		for _, many := range []int{0, 1, 9} {
			for object := -1; object < 4; object++ {
				roomy := room(h, many)
				before := slices.Clone(roomy[:cap(roomy)])
				for range 2 {
					want := plain.Told(lin.Check(object, slices.Clone(h)))
					may, first, _ := lin.Row(object, slices.Clone(h))
					if got := plain.Told(lin.Check(object, roomy)); got != want {
						t.Fatalf("%d, %+v: got %v, want %v", object, h, got, want)
					}
					is, row, err := lin.Row(object, roomy)
					if got := plain.Told(err); got != want || is != may || !slices.Equal(row, first) {
						t.Fatalf("%d, %+v: got %v %v %v, want %v %v %v", object, h, is, row, got, may, first, want)
					}
				}
				if !slices.Equal(roomy[:cap(roomy)], before) {
					t.Fatalf("%d: handed in was %+v, is now %+v", object, before, roomy[:cap(roomy)])
				}
			}
		}
	}
}

// TestKeepsOut: a row is the caller's own: what is written into it, or behind it, nobody else sees, and it stays as it is, whatever comes of what was handed in.
func TestKeepsOut(t *testing.T) {
	for _, h := range asked() {
		for _, kind := range kinds {
			is, row, err := lin.Row(kind, h)
			first := slices.Clone(row)
			for range 2 {
				again, other, errAgain := lin.Row(kind, h)
				if again != is || plain.Told(errAgain) != plain.Told(err) || !slices.Equal(other, first) {
					t.Fatalf("%d, %+v: got %v %v %v, at first %v %v %v", kind, h, again, other, errAgain, is, first, err)
				}
				for i := range other[:cap(other)] {
					other[:cap(other)][i] = -7
				}
				if !slices.Equal(row, first) {
					t.Fatalf("%d, %+v: %v is now %v", kind, h, first, row)
				}
			}
			gone := slices.Clone(h)
			for i := range gone {
				gone[i] = out(0, -1, 2*i, 2*i+1)
			}
			if _, _, err := lin.Row(kind, gone); len(gone) < 9 && err != nil || !slices.Equal(row, first) {
				t.Fatalf("%d, %+v: %v is now %v", kind, h, first, row)
			}
		}
	}
}

// TestApart: what a call answers hangs on nothing that was asked before, of whatever kind.
func TestApart(t *testing.T) {
	all := asked()
	for _, kind := range kinds {
		for i, h := range all {
			is, row, err := lin.Row(kind, h)
			for j := range 5 {
				for other := -1; other < 4; other++ {
					_, _, _ = lin.Row(other, all[(i+7*j+1)%len(all)])
					_ = lin.Check(other, all[(i+5*j+2)%len(all)])
				}
				if again, other, errAgain := lin.Row(kind, h); again != is || !slices.Equal(other, row) || plain.Told(errAgain) != plain.Told(err) {
					t.Fatalf("%d, %+v: got %v %v %v, at first %v %v %v", kind, h, again, other, errAgain, is, row, err)
				}
			}
		}
	}
}
