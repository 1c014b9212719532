package pmem_test

import (
	"fmt"
	"math"
	"slices"
	"testing"

	"latchgarth/api"
	"latchgarth/plain"
	"latchgarth/pmem"
)

// What may be done to cells.
const (
	writes = iota
	flushes
	fences
	crashes
)

// act is what is done to cells; of a crash which is the set that is kept.
type act struct{ kind, which, value int }

// Acts as tests write them.
func write(i, value int) act { return act{writes, i, value} }
func flush(i int) act        { return act{flushes, i, 0} }
func fence() act             { return act{fences, 0, 0} }
func crash(keep int) act     { return act{crashes, keep, 0} }

// in cells it is done.
func (a act) in(m *pmem.Mem) api.Errno {
	switch a.kind {
	case writes:
		return plain.Told(m.Write(a.which, a.value))
	case flushes:
		return plain.Told(m.Flush(a.which))
	case crashes:
		return plain.Told(m.Crash(a.which))
	}
	m.Fence()
	return api.OK
}

// fresh cells, of which there may be so many.
func fresh(t *testing.T, n int) *pmem.Mem {
	t.Helper()
	m, err := pmem.New(n)
	if err != nil || m == nil {
		t.Fatalf("%d cells: got %v %v", n, m, err)
	}
	return m
}

// played are fresh cells to which acts are done, of which nothing is wrong.
func played(t *testing.T, n int, acts ...act) *pmem.Mem {
	t.Helper()
	m := fresh(t, n)
	play(t, m, acts...)
	return m
}

// play acts of which nothing is wrong.
func play(t *testing.T, m *pmem.Mem, acts ...act) {
	t.Helper()
	for _, a := range acts {
		if got := a.in(m); got != api.OK {
			t.Fatalf("%v: got %v", a, got)
		}
	}
}

// checkCells: what Cells and Read tell.
func checkCells(t *testing.T, m *pmem.Mem, want ...int) {
	t.Helper()
	if got := m.Cells(); !slices.Equal(got, want) {
		t.Fatalf("got %v, want %v", got, want)
	}
	for i, value := range want {
		if got := m.Read(i); got != value {
			t.Fatalf("cell %d of %v: got %d", i, want, got)
		}
	}
	if got := m.Read(len(want)); got != -1 {
		t.Fatalf("behind the last cell of %v: got %d", want, got)
	}
}

// script of acts on so many cells, and what the cells are in the end.
type script struct {
	n    int
	acts []act
	want []int
}

func checkScripts(t *testing.T, scripts []script) {
	t.Helper()
	for _, s := range scripts {
		if got := played(t, s.n, s.acts...).Cells(); !slices.Equal(got, s.want) {
			t.Errorf("%v: got %v, want %v", s.acts, got, s.want)
		}
	}
}

// far are numbers that are nothing of n cells: neither how many there may be, nor a cell, nor a set, nor a value; also such as would be if few of their bits were looked at.
var far = []int{
	math.MinInt, math.MinInt + 1, math.MinInt + 2, math.MaxInt - 1, math.MaxInt, 1 << 16, 1<<16 + 1, 1 << 32, 1<<32 + 1, -1 << 32, 1 - 1<<32,
	1 << 62, 1<<62 + 1, -1001, -1000, -257, -256, -255, -254, -128, -9, -8, -7, -4, -3, -2, -1,
}

// TestNew: there are one to eight cells, each of them 0, and that lasts.
func TestNew(t *testing.T) {
	for n := 1; n <= 8; n++ {
		want := make([]int, n)
		m := fresh(t, n)
		checkCells(t, m, want...)
		play(t, m, crash(0))
		checkCells(t, m, want...)
		play(t, m, fence(), crash(0))
		checkCells(t, m, want...)
		for i := range n {
			play(t, m, write(i, 10+i))
			want[i] = 10 + i
			checkCells(t, m, want...)
		}
		play(t, m, crash(0))
		checkCells(t, m, make([]int, n)...)
	}
}

// TestNewNone: of any other number there are none, and ErrRange is told.
func TestNewNone(t *testing.T) {
	for _, n := range append([]int{0, 9, 10, 16, 63, 64, 65, 255, 256, 257, 1000}, far...) {
		if m, err := pmem.New(n); plain.Told(err) != api.ErrRange || m != nil {
			t.Errorf("%d cells: got %v %v", n, m, err)
		}
	}
}

// noCells are numbers that are none of n cells.
func noCells(n int) []int {
	return append([]int{n, n + 1, 8, 9, 15, 16, 63, 64, 256, 257, 1000}, far...)
}

// noSets are numbers that are no sets of n cells: below 0, with a bit beyond the cells alone, or beside others.
func noSets(n int) []int {
	sets := append([]int{1 << n, 1<<n + 1, 2<<n - 1, 256, 257, 511, 1<<31 - 1, 1 << 63 >> 1}, far...)
	for i := range 63 - n {
		sets = append(sets, 1<<(n+i), 1<<(n+i)|(1<<n-1), 1<<(n+i)|1)
	}
	return sets
}

// noValues are numbers that no cell has.
func noValues() []int { return append([]int{1001, 1002, 1024, 2000, 65536}, far...) }

// wrong are acts on n cells that are refused.
func wrong(n int) []act {
	var acts []act
	for _, i := range noCells(n) {
		acts = append(acts, flush(i), write(i, 0), write(i, 7), write(i, 1000), write(i, 1001), write(i, -1))
	}
	for _, value := range noValues() {
		for i := range n {
			acts = append(acts, write(i, value))
		}
	}
	for _, keep := range noSets(n) {
		acts = append(acts, crash(keep))
	}
	return acts
}

// TestCells: each cell that there is may be written, read and flushed, and one beyond either bound may not.
func TestCells(t *testing.T) {
	for n := 1; n <= 8; n++ {
		m, want := fresh(t, n), make([]int, n)
		for i := range n {
			play(t, m, write(i, 10*i+1), flush(i))
			want[i] = 10*i + 1
			checkCells(t, m, want...)
		}
		for _, i := range noCells(n) {
			if got := flush(i).in(m); got != api.ErrRange {
				t.Errorf("of %d: flush of %d: got %v", n, i, got)
			}
			if got := write(i, 5).in(m); got != api.ErrRange {
				t.Errorf("of %d: write of %d: got %v", n, i, got)
			}
			if got := m.Read(i); got != -1 {
				t.Errorf("of %d: read of %d: got %d", n, i, got)
			}
		}
		play(t, m, fence(), crash(0))
		checkCells(t, m, want...)
	}
}

// TestValues: each value from 0 to 1000 may be written, and lasts; one beyond either bound may not.
func TestValues(t *testing.T) {
	for value := range 1001 {
		i := value % 8
		want := make([]int, 8)
		want[i] = value
		m := played(t, 8, write(i, value), flush(i))
		checkCells(t, m, want...)
		play(t, m, fence(), write(i, 1000-value), crash(0))
		checkCells(t, m, want...)
	}
	for _, value := range noValues() {
		for i := range 8 {
			m := played(t, 8, write(i, 3))
			if got := write(i, value).in(m); got != api.ErrRange || m.Read(i) != 3 {
				t.Errorf("%d into cell %d: got %v, and it is %d", value, i, got, m.Read(i))
			}
		}
	}
}

// TestRefused: each act that is wrong tells ErrRange, and turns nothing, neither what is told at once nor what is told behind other acts.
func TestRefused(t *testing.T) {
	for n := 1; n <= 8; n++ {
		var d draw
		acts, refused := d.acts(n, 300), wrong(n)
		m, calm := fresh(t, n), fresh(t, n)
		for _, a := range acts {
			for _, w := range refused {
				if got := w.in(m); got != api.ErrRange {
					t.Fatalf("of %d: %v: got %v", n, w, got)
				}
			}
			checkCells(t, m, calm.Cells()...)
			play(t, m, a)
			play(t, calm, a)
			checkCells(t, m, calm.Cells()...)
		}
	}
}

// TestRefusedEach: each act that is wrong turns nothing by itself, where a cell's value, the one that was flushed and the one that lasts are three.
func TestRefusedEach(t *testing.T) {
	for _, n := range []int{1, 2, 7, 8} {
		var ready []act
		want := map[string][]int{}
		for i := range n {
			ready = append(ready, write(i, 100+i), flush(i))
			want["lasts"] = append(want["lasts"], 100+i)
		}
		ready = append(ready, fence())
		for i := range n {
			ready = append(ready, write(i, 200+i), flush(i), write(i, 300+i))
			want["flushed"] = append(want["flushed"], 200+i)
			want["now"] = append(want["now"], 300+i)
		}
		for _, w := range wrong(n) {
			m, other := played(t, n, ready...), played(t, n, ready...)
			if one, two := w.in(m), w.in(other); one != api.ErrRange || two != api.ErrRange {
				t.Fatalf("of %d: %v: got %v and %v", n, w, one, two)
			}
			checkCells(t, m, want["now"]...)
			play(t, m, crash(0))
			checkCells(t, m, want["lasts"]...)
			play(t, other, fence(), crash(0))
			checkCells(t, other, want["flushed"]...)
		}
	}
}

// TestAsked: to ask turns nothing.
func TestAsked(t *testing.T) {
	var d draw
	m, calm := fresh(t, 3), fresh(t, 3)
	for _, a := range d.acts(3, 2000) {
		for range 3 {
			for i := -1; i <= 3; i++ {
				m.Read(i)
			}
			m.Cells()
		}
		play(t, m, a)
		play(t, calm, a)
		checkCells(t, m, calm.Cells()...)
	}
}

// TestLost: what was written alone, or flushed as well and not fenced, is gone behind a crash that does not keep it; what was fenced is there.
func TestLost(t *testing.T) {
	checkScripts(t, []script{
		{1, []act{write(0, 5)}, []int{5}},
		{1, []act{write(0, 5), crash(0)}, []int{0}},
		{1, []act{write(0, 5), fence(), crash(0)}, []int{0}},
		{1, []act{write(0, 5), flush(0)}, []int{5}},
		{1, []act{write(0, 5), flush(0), crash(0)}, []int{0}},
		{1, []act{flush(0), write(0, 5), fence(), crash(0)}, []int{0}},
		{1, []act{fence(), write(0, 5), flush(0), crash(0)}, []int{0}},
		{1, []act{write(0, 5), flush(0), fence()}, []int{5}},
		{1, []act{write(0, 5), flush(0), fence(), crash(0)}, []int{5}},
		{1, []act{write(0, 5), flush(0), fence(), crash(0), crash(0), fence(), crash(0)}, []int{5}},
		{1, []act{write(0, 5), flush(0), fence(), write(0, 6)}, []int{6}},
		{1, []act{write(0, 5), flush(0), fence(), write(0, 6), crash(0)}, []int{5}},
		{1, []act{write(0, 5), flush(0), fence(), write(0, 6), flush(0), crash(0)}, []int{5}},
		{1, []act{write(0, 5), flush(0), fence(), write(0, 6), flush(0), fence(), crash(0)}, []int{6}},
		{1, []act{write(0, 5), flush(0), fence(), write(0, 0), flush(0), fence(), crash(0)}, []int{0}},
		{1, []act{write(0, 5), flush(0), fence(), write(0, 0), crash(0)}, []int{5}},
		{3, []act{write(0, 5), write(1, 6), write(2, 7), flush(1), crash(0)}, []int{0, 0, 0}},
		{3, []act{write(0, 5), write(1, 6), write(2, 7), flush(1), fence(), crash(0)}, []int{0, 6, 0}},
		{3, []act{write(0, 5), write(1, 6), write(2, 7), flush(2), flush(0), fence(), crash(0)}, []int{5, 0, 7}},
		{3, []act{write(0, 5), flush(0), write(1, 6), fence(), flush(1), write(2, 7), crash(0)}, []int{5, 0, 0}},
	})
}

// TestFlush: a flush takes the value as it is then, whatever is written behind it, and a second one ahead of the fence takes its place.
func TestFlush(t *testing.T) {
	checkScripts(t, []script{
		{1, []act{write(0, 5), flush(0), write(0, 6), fence()}, []int{6}},
		{1, []act{write(0, 5), flush(0), write(0, 6), fence(), crash(0)}, []int{5}},
		{1, []act{write(0, 5), flush(0), write(0, 6), write(0, 7), fence(), write(0, 8), crash(0)}, []int{5}},
		{1, []act{write(0, 5), flush(0), write(0, 6), flush(0), fence(), crash(0)}, []int{6}},
		{1, []act{write(0, 6), flush(0), write(0, 5), flush(0), fence(), crash(0)}, []int{5}},
		{1, []act{write(0, 5), flush(0), write(0, 6), flush(0), write(0, 7), fence(), crash(0)}, []int{6}},
		{1, []act{write(0, 5), flush(0), write(0, 0), flush(0), fence(), crash(0)}, []int{0}},
		{1, []act{write(0, 5), flush(0), flush(0), fence(), crash(0)}, []int{5}},
		{1, []act{flush(0), write(0, 5), flush(0), fence(), crash(0)}, []int{5}},
		{1, []act{write(0, 5), flush(0), fence(), write(0, 6), flush(0), write(0, 5), flush(0), fence(), crash(0)}, []int{5}},
		{1, []act{write(0, 5), flush(0), fence(), write(0, 6), flush(0), write(0, 5), fence(), crash(0)}, []int{6}},
		{2, []act{write(0, 5), flush(0), write(1, 6), flush(1), write(0, 7), fence(), crash(0)}, []int{5, 6}},
		{2, []act{write(0, 5), flush(0), write(1, 6), flush(1), write(0, 7), flush(0), fence(), crash(0)}, []int{7, 6}},
		{2, []act{write(0, 5), write(1, 6), flush(1), flush(0), write(1, 8), write(0, 7), flush(1), fence(), crash(0)}, []int{5, 8}},
	})
}

// TestFence: a fence makes last what was flushed since the last fence, or crash, alone.
func TestFence(t *testing.T) {
	checkScripts(t, []script{
		{1, []act{write(0, 5), flush(0), fence(), write(0, 6), fence(), crash(0)}, []int{5}},
		{1, []act{write(0, 5), flush(0), fence(), fence(), fence(), crash(0)}, []int{5}},
		{1, []act{write(0, 5), flush(0), write(0, 6), fence(), fence(), crash(0)}, []int{5}},
		{1, []act{flush(0), write(0, 5), fence(), fence(), crash(0)}, []int{0}},
		{1, []act{write(0, 5), flush(0), fence(), write(0, 6), crash(1), fence(), crash(0)}, []int{6}},
		{2, []act{write(0, 5), flush(0), fence(), write(0, 6), write(1, 7), flush(1), fence(), crash(0)}, []int{5, 7}},
		{2, []act{write(0, 5), flush(0), fence(), write(0, 6), crash(1), write(1, 7), flush(1), fence(), crash(0)}, []int{6, 7}},
		{2, []act{write(0, 5), flush(0), fence(), write(0, 6), write(1, 7), flush(1), fence(), write(0, 8), write(1, 9), fence(), crash(0)}, []int{5, 7}},
	})
}

// TestCrashFlushed: behind a crash nothing is flushed, whether the cell was kept or not.
func TestCrashFlushed(t *testing.T) {
	checkScripts(t, []script{
		{1, []act{write(0, 5), flush(0), crash(0), fence()}, []int{0}},
		{1, []act{write(0, 5), flush(0), crash(0), fence(), crash(0)}, []int{0}},
		{1, []act{write(0, 5), flush(0), crash(0), write(0, 6), fence(), crash(0)}, []int{0}},
		{1, []act{write(0, 5), flush(0), fence(), write(0, 6), flush(0), crash(0), fence(), crash(0)}, []int{5}},
		{1, []act{write(0, 5), flush(0), write(0, 6), crash(1)}, []int{6}},
		{1, []act{write(0, 5), flush(0), write(0, 6), crash(1), fence(), crash(0)}, []int{6}},
		{1, []act{write(0, 5), flush(0), crash(0), write(0, 6), flush(0), fence(), crash(0)}, []int{6}},
		{2, []act{write(0, 5), flush(0), write(1, 6), flush(1), crash(2), fence(), crash(0)}, []int{0, 6}},
		{2, []act{write(0, 5), flush(0), write(1, 6), flush(1), crash(0), write(1, 7), flush(1), fence(), crash(0)}, []int{0, 7}},
		{2, []act{write(0, 5), flush(0), write(1, 6), flush(1), write(0, 7), write(1, 8), crash(1), fence(), crash(0)}, []int{7, 0}},
	})
}

// TestKeep: for each set of the cells, a crash keeps those in it, and no others: what it kept lasts from then on, and what it did not keep has the value that lasts, which is another one than was flushed.
func TestKeep(t *testing.T) {
	for n := 1; n <= 8; n++ {
		for keep := range 1 << n {
			m, want := fresh(t, n), make([]int, n)
			for i := range n {
				play(t, m, write(i, 100+i), flush(i))
			}
			play(t, m, fence())
			for i := range n {
				play(t, m, write(i, 200+i), flush(i), write(i, 300+i))
				want[i] = 100 + i
				if slices.Contains(members(keep), i) {
					want[i] = 300 + i
				}
			}
			for _, a := range []act{crash(keep), fence(), crash(0), crash(1<<n - 1), fence(), crash(0)} {
				play(t, m, a)
				checkCells(t, m, want...)
			}
			for i := range n {
				play(t, m, write(i, 400+i))
			}
			play(t, m, fence(), crash(0))
			checkCells(t, m, want...)
		}
	}
}

// members of a set of cells, found by taking halves.
func members(set int) []int {
	var all []int
	for i := 0; set > 0; i++ {
		if set%2 == 1 {
			all = append(all, i)
		}
		set /= 2
	}
	return all
}

// TestNoSet: what is no set of the cells is none, and the greatest one that is is one; where it is refused there is no crash.
func TestNoSet(t *testing.T) {
	for n := 1; n <= 8; n++ {
		for _, keep := range noSets(n) {
			m, want := fresh(t, n), make([]int, n)
			for i := range n {
				play(t, m, write(i, 10+i), flush(i))
				want[i] = 10 + i
			}
			if got := crash(keep).in(m); got != api.ErrRange {
				t.Fatalf("of %d: crash that keeps %d: got %v", n, keep, got)
			}
			checkCells(t, m, want...)
			play(t, m, fence(), crash(0))
			checkCells(t, m, want...)
			play(t, m, crash(1<<n-1))
			checkCells(t, m, want...)
		}
	}
}

// TestCrashes: what a crash kept lasts through others, until something else does.
func TestCrashes(t *testing.T) {
	checkScripts(t, []script{
		{1, []act{write(0, 5), crash(1)}, []int{5}},
		{1, []act{write(0, 5), crash(1), write(0, 6), crash(0)}, []int{5}},
		{1, []act{write(0, 5), crash(1), write(0, 6), crash(1)}, []int{6}},
		{1, []act{write(0, 5), crash(1), write(0, 6), flush(0), fence(), crash(0)}, []int{6}},
		{1, []act{write(0, 5), crash(1), write(0, 0), crash(1), crash(0)}, []int{0}},
		{1, []act{write(0, 5), crash(0), crash(1)}, []int{0}},
		{1, []act{write(0, 5), crash(1), crash(0), flush(0), fence(), crash(0)}, []int{5}},
		{2, []act{write(0, 5), write(1, 6), crash(1)}, []int{5, 0}},
		{2, []act{write(0, 5), write(1, 6), crash(2)}, []int{0, 6}},
		{2, []act{write(0, 5), write(1, 6), crash(1), write(0, 7), write(1, 8), crash(2)}, []int{5, 8}},
		{2, []act{write(0, 5), write(1, 6), crash(3), write(0, 7), write(1, 8), crash(0)}, []int{5, 6}},
	})
}

// scrawl over a list, and what lies behind it.
func scrawl(list []int) {
	list = list[:cap(list)]
	for i := range list {
		list[i] = -7
	}
}

// TestFresh: what Cells told is the caller's: what it writes there, and behind it, no later call tells, and no later call writes there.
func TestFresh(t *testing.T) {
	for n := 1; n <= 8; n++ {
		var d draw
		m, calm := fresh(t, n), fresh(t, n)
		var lists, kept [][]int
		for _, a := range d.acts(n, 500) {
			one, two := m.Cells(), m.Cells()
			scrawl(one)
			checkCells(t, m, calm.Cells()...)
			lists, kept = append(lists, two), append(kept, calm.Cells())
			play(t, m, a)
			play(t, calm, a)
			checkCells(t, m, calm.Cells()...)
		}
		if !slices.EqualFunc(lists, kept, slices.Equal) {
			t.Fatalf("of %d: later calls wrote into lists", n)
		}
	}
}

// TestApart: two of them share nothing, of as many cells or not, and a new one tells nothing of those before.
func TestApart(t *testing.T) {
	for n := 1; n <= 8; n++ {
		for many := 1; many <= 8; many++ {
			d := draw(n)
			one, other := fresh(t, n), fresh(t, many)
			ones, others := d.acts(n, 150), d.acts(many, 150)
			var first, second [][]int
			for i := range ones {
				play(t, one, ones[i])
				play(t, other, others[i])
				first, second = append(first, one.Cells()), append(second, other.Cells())
			}
			checkAlone(t, n, ones, first)
			checkAlone(t, many, others, second)
		}
	}
}

// checkAlone: to new cells alone the same is done, and they tell the same.
func checkAlone(t *testing.T, n int, acts []act, told [][]int) {
	t.Helper()
	m := fresh(t, n)
	for i, a := range acts {
		play(t, m, a)
		checkCells(t, m, told[i]...)
	}
}

// ExampleMem: what was fenced lasts, as it was when it was flushed; what was flushed alone is gone; and what is kept by chance lasts as it is.
func ExampleMem() {
	m, err := pmem.New(3)
	if err != nil {
		fmt.Println(err)
	}
	fmt.Println(m.Write(0, 5), m.Flush(0), m.Write(0, 6))
	m.Fence()
	fmt.Println(m.Write(1, 7), m.Write(2, 8), m.Flush(2))
	fmt.Println(m.Cells())
	fmt.Println(m.Crash(2), m.Cells())
	m.Fence()
	fmt.Println(m.Crash(0), m.Cells())
	fmt.Println(m.Read(1), m.Read(3))
	fmt.Println(m.Write(3, 5), m.Write(0, 1001), m.Flush(-1), m.Crash(8))
	_, err = pmem.New(9)
	fmt.Println(err)
	// Output:
	// <nil> <nil> <nil>
	// <nil> <nil> <nil>
	// [6 7 8]
	// <nil> [5 7 0]
	// <nil> [5 7 0]
	// 7 -1
	// ErrRange ErrRange ErrRange ErrRange
	// ErrRange
}
