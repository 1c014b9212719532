package ticket_test

import (
	"fmt"
	"iter"
	"slices"
	"testing"

	"latchgarth/api"
	"latchgarth/ticket"
)

// draw gives numbers from 0 to below n by a short rule, the same ones each time.
type draw uint64

func (d *draw) below(n int) int {
	*d = *d*6364136223846793005 + 1442695040888963407
	return int(uint64(*d) >> 33 % uint64(n))
}

// steps of n hands: one of them takes some, then one does again.
func (d *draw) steps(n, count, longest int) []int {
	var out []int
	for len(out) < count {
		p := d.below(n)
		for range 1 + d.below(longest) {
			out = append(out, p)
		}
	}
	return out[:count]
}

// drawn is a script of n hands, the same one each time.
func drawn(n, count int) []int {
	d := draw(n)
	return d.steps(n, count, 4)
}

// model is another way to tell what hands do, without tickets: all that have drawn stand in one row.
type model struct {
	row []int // the hands that have drawn, in order
	out int   // how many of the row are out
}

// hand says at which line it stands, and does it when it is asked for the next one.
func (w *model) hand(p int) iter.Seq[int] {
	return func(stands func(int) bool) {
		for stands(1) {
			w.row = append(w.row, p)
			for first := false; !first; first = w.row[w.out] == p {
				if !stands(2) {
					return
				}
			}
			if !stands(3) || !stands(4) {
				return
			}
			w.out++
		}
	}
}

// TestModel: many scripts, against another way to tell what hands do.
func TestModel(t *testing.T) {
	d := draw(5)
	for n := 1; n <= api.MaxHands; n++ {
		for round := range 300 {
			checkModel(t, n, d.steps(n, 200, 1+round%6))
		}
	}
}

func checkModel(t *testing.T, n int, steps []int) {
	t.Helper()
	w := model{}
	at := make([]int, n)
	next := make([]func() (int, bool), n)
	for p := range n {
		var stop func()
		next[p], stop = iter.Pull(w.hand(p))
		defer stop()
		at[p], _ = next[p]()
	}
	l := fresh(t, n)
	for i, p := range steps {
		at[p], _ = next[p]()
		err := l.Step(p)
		want := ""
		for _, line := range at {
			want += fmt.Sprint(line, " ")
		}
		want += fmt.Sprint([]int{len(w.row), w.out})
		if err != nil || shown(l, n) != want {
			t.Fatalf("of %d, after %v: got %s %v, want %s", n, steps[:i+1], shown(l, n), err, want)
		}
	}
}

// place is a lock, and the hands that have drawn and are not out, in order.
type place struct {
	lock ticket.Lock
	row  [api.MaxHands]int
	many int
}

// then is the place that a step of a hand leads to.
func (a place) then(t *testing.T, p int) place {
	t.Helper()
	switch a.lock.At(p) {
	case 1:
		a.row[a.many] = p
		a.many++
	case 4:
		copy(a.row[:], a.row[1:])
		a.many--
		a.row[a.many] = 0
	}
	step(t, &a.lock, p)
	return a
}

// everywhere is all that n hands may come to while no more tickets are drawn than the most, each once, the new lock first. It leans on a lock being a value: two that are the same do the same.
func everywhere(t *testing.T, n, most int) []place {
	t.Helper()
	found := []place{{lock: *fresh(t, n)}}
	known := map[place]struct{}{found[0]: {}}
	for i := 0; i < len(found); i++ {
		for p := range n {
			a := found[i].then(t, p)
			if _, ok := known[a]; ok || a.lock.Words()[0] > most {
				continue
			}
			known[a] = struct{}{}
			found = append(found, a)
		}
	}
	return found
}

// mostTickets is how far all that may be is gone through.
const mostTickets = 40

// TestEverywhere: by whatever script, all but the first one that has drawn and is not out stay where they are, and that one goes on at each step; who is in is that one. So one hand at most is in, and who draws ahead comes in ahead.
func TestEverywhere(t *testing.T) {
	for n := 1; n <= api.MaxHands; n++ {
		often := make([]int, n)
		for _, a := range everywhere(t, n, mostTickets) {
			words := a.lock.Words()
			if words[0] != words[1]+a.many {
				t.Fatalf("%d have drawn and are not out: %s", a.many, shown(&a.lock, n))
			}
			for i, p := range a.row[:a.many] {
				b := a.then(t, p)
				switch line := a.lock.At(p); {
				case i > 0 && (line != 2 || a != b):
					t.Fatalf("hand %d does not stay, behind hand %d: %s", p, a.row[0], shown(&a.lock, n))
				case i == 0 && (line < 2 || b.lock.At(p) != line%4+1):
					t.Fatalf("hand %d does not go on, and none is ahead: %s", p, shown(&a.lock, n))
				case line == 3:
					often[p]++
				}
			}
			for p := range n {
				if a.lock.At(p) == 1 == slices.Contains(a.row[:a.many], p) {
					t.Fatalf("hand %d has drawn, or is at line 1: %s", p, shown(&a.lock, n))
				}
			}
		}
		for p, count := range often {
			if count == 0 {
				t.Errorf("of %d, hand %d is never in", n, p)
			}
		}
	}
}

// TestNoneWaits: wherever a script leads, each hand comes in while all take steps turn by turn.
func TestNoneWaits(t *testing.T) {
	for n := 1; n <= api.MaxHands; n++ {
		for _, a := range everywhere(t, n, mostTickets) {
			l := a.lock
			came := make([]int, n)
			for range 4 * n {
				for p := range n {
					step(t, &l, p)
					if l.At(p) == 3 {
						came[p]++
					}
				}
			}
			if slices.Min(came) == 0 {
				t.Errorf("of %d, from %s on, turn by turn, the hands came in %v times", n, shown(&a.lock, n), came)
			}
		}
	}
}
