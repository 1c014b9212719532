package tso_test

import (
	"math"
	"slices"
	"testing"

	"latchgarth/api"
	"latchgarth/plain"
	"latchgarth/prog"
	"latchgarth/sc"
	"latchgarth/tso"
)

// Lines as tests write them; what a line does not need is 0.
func put(reg, value int) api.Line  { return api.Line{Kind: api.Put, Reg: reg, Value: value} }
func load(reg, word int) api.Line  { return api.Line{Kind: api.Load, Reg: reg, Word: word} }
func store(reg, word int) api.Line { return api.Line{Kind: api.Store, Reg: reg, Word: word} }
func swap(reg, word int) api.Line  { return api.Line{Kind: api.Swap, Reg: reg, Word: word} }
func fence() api.Line              { return api.Line{Kind: api.Fence} }
func leave(reg, many int) api.Line { return api.Line{Kind: api.Leave, Reg: reg, Value: many} }

func hand(lines ...api.Line) []api.Line { return lines }

func program(words int, hands ...[]api.Line) api.Prog { return api.Prog{Words: words, Hands: hands} }

func same(a, b [][]int) bool { return slices.EqualFunc(a, b, slices.Equal) }

type asked struct {
	name string
	p    api.Prog
	want [][]int
}

func testAsked(t *testing.T, cases []asked) {
	t.Helper()
	for _, c := range cases {
		if got, err := tso.Results(c.p); err != nil || !same(got, c.want) {
			t.Errorf("%s: got %v %v, want %v", c.name, got, err, c.want)
		}
	}
}

// TestOneHand: a hand alone does not tell that what it stores waits.
func TestOneHand(t *testing.T) {
	testAsked(t, []asked{
		{"no line", program(1, nil), [][]int{{0, 0, 0}}},
		{"an empty hand that is not nil", program(4, []api.Line{}), [][]int{make([]int, 6)}},
		{"a store comes in the end", program(2, hand(put(0, 7), store(0, 1))), [][]int{{7, 0, 0, 7}}},
		{"what was stored is seen", program(1, hand(put(0, 7), store(0, 0), load(1, 0))), [][]int{{7, 7, 7}}},
		{"the last that was stored is seen", program(1, hand(put(0, 7), store(0, 0), store(1, 0), load(0, 0))), [][]int{{0, 0, 0}}},
		{"the last of a word, between others", program(2, hand(put(0, 7), store(0, 1), store(1, 0), load(1, 1))), [][]int{{7, 7, 0, 7}}},
		{"what was stored is not seen in another word", program(2, hand(put(0, 7), store(0, 0), load(0, 1))), [][]int{{0, 0, 7, 0}}},
		{"the number at the store counts, not a later one", program(1, hand(put(0, 7), store(0, 0), put(0, 8))), [][]int{{8, 0, 7}}},
		{"the last store to a word stays", program(1, hand(put(0, 7), store(0, 0), put(0, 8), store(0, 0), store(1, 0))), [][]int{{8, 0, 0}}},
		{"a swap behind a store to its word", program(1, hand(put(0, 7), store(0, 0), put(0, 8), swap(0, 0))), [][]int{{7, 0, 8}}},
		{"a store behind a swap of its word", program(1, hand(put(0, 7), swap(0, 0), put(0, 8), store(0, 0))), [][]int{{8, 0, 8}}},
		{"all kinds", program(2, hand(put(0, 7), store(0, 1), swap(1, 1), leave(0, 1), fence())), [][]int{{7, 7, 0, 0}}},
		{"as many stores as can be", program(2, hand(store(0, 0), store(1, 1), store(0, 1), store(1, 0), store(0, 1))), [][]int{{0, 0, 0, 0}}},
		{"the end left out", program(1, hand(leave(0, 5), put(0, 1), store(0, 0))), [][]int{{0, 0, 0}}},
		{"by what waits nothing is left out", program(1, hand(put(1, 3), store(1, 0), load(0, 0), leave(0, 1), put(1, 4))), [][]int{{3, 4, 3}}},
	})
}

// TestStoresWait: each stores, and looks at what the other one stores; where all is done one by one, one of them at least sees it.
func TestStoresWait(t *testing.T) {
	of := func(mine, other int, between ...api.Line) []api.Line {
		return append(append(hand(put(0, 1), store(0, mine)), between...), load(1, other))
	}
	three := [][]int{{1, 0, 1, 1, 1, 1}, {1, 1, 1, 0, 1, 1}, {1, 1, 1, 1, 1, 1}}
	four := append([][]int{{1, 0, 1, 0, 1, 1}}, three...)
	unneeded := api.Line{Kind: api.Fence, Reg: math.MinInt, Word: math.MaxInt, Value: -1}
	testAsked(t, []asked{
		{"nothing between", program(2, of(0, 1), of(1, 0)), four},
		{"fences", program(2, of(0, 1, fence()), of(1, 0, fence())), three},
		{"fences with numbers that they don't need", program(2, of(0, 1, unneeded), of(1, 0, unneeded)), three},
		{"a fence of the first alone", program(2, of(0, 1, fence()), of(1, 0)), four},
		{"a fence of the last alone", program(2, of(0, 1), of(1, 0, fence())), four},
		{"lines that are no fence", program(2, of(0, 1, put(1, 5)), of(1, 0, leave(1, 0))), four},
		{"looked at one's own between", program(2, of(0, 1, load(0, 0)), of(1, 0, load(0, 1))), four},
		{"a fence that is left out", program(2, of(0, 1, leave(1, 1), fence()), of(1, 0, fence())), four},
	})
	swapped := func(mine, other int) []api.Line { return hand(put(0, 1), swap(0, mine), load(1, other)) }
	apart := func(mine, other, own int) []api.Line { return of(mine, other, swap(1, own)) }
	testAsked(t, []asked{
		{"a swap does not wait", program(2, swapped(0, 1), swapped(1, 0)),
			[][]int{{0, 0, 0, 1, 1, 1}, {0, 1, 0, 0, 1, 1}, {0, 1, 0, 1, 1, 1}}},
		{"a swap and a store", program(2, swapped(0, 1), of(1, 0)),
			[][]int{{0, 0, 1, 0, 1, 1}, {0, 0, 1, 1, 1, 1}, {0, 1, 1, 0, 1, 1}, {0, 1, 1, 1, 1, 1}}},
		{"a swap of another word lets nothing wait", program(4, apart(0, 1, 2), apart(1, 0, 3)),
			[][]int{{1, 0, 1, 1, 1, 1, 0, 0}, {1, 1, 1, 0, 1, 1, 0, 0}, {1, 1, 1, 1, 1, 1, 0, 0}}},
	})
}

// TestOwnAhead: what a hand stored it sees ahead of others.
func TestOwnAhead(t *testing.T) {
	of := func(mine, other int) []api.Line {
		return hand(put(0, 1), store(0, mine), load(0, mine), load(1, other))
	}
	testAsked(t, []asked{
		{"each its own alone", program(2, of(0, 1), of(1, 0)),
			[][]int{{1, 0, 1, 0, 1, 1}, {1, 0, 1, 1, 1, 1}, {1, 1, 1, 0, 1, 1}, {1, 1, 1, 1, 1, 1}}},
		{"its own, and then another's over it", program(1, hand(put(0, 1), store(0, 0), load(0, 0), load(1, 0)), hand(put(0, 2), store(0, 0))),
			[][]int{{1, 1, 2, 0, 1}, {1, 1, 2, 0, 2}, {1, 2, 2, 0, 2}, {2, 2, 2, 0, 2}}},
		{"both, and the words tell whose came last", program(1, hand(put(0, 1), store(0, 0), load(1, 0)), hand(put(0, 2), store(0, 0), load(1, 0))),
			[][]int{{1, 1, 2, 1, 1}, {1, 1, 2, 2, 1}, {1, 1, 2, 2, 2}, {1, 2, 2, 2, 2}}},
	})
}

// TestInOrder: what a hand stores comes in order, and no load waits.
func TestInOrder(t *testing.T) {
	testAsked(t, []asked{
		{"stored first, seen first", program(2, hand(put(0, 1), store(0, 0), store(0, 1)), hand(load(0, 1), load(1, 0))),
			[][]int{{1, 0, 0, 0, 1, 1}, {1, 0, 0, 1, 1, 1}, {1, 0, 1, 1, 1, 1}}},
		{"one word's numbers rise", program(1, hand(put(0, 1), store(0, 0), put(0, 2), store(0, 0)), hand(load(0, 0), load(1, 0))),
			[][]int{{2, 0, 0, 0, 2}, {2, 0, 0, 1, 2}, {2, 0, 0, 2, 2}, {2, 0, 1, 1, 2}, {2, 0, 1, 2, 2}, {2, 0, 2, 2, 2}}},
		{"each looks first, and stores then", program(2, hand(put(1, 1), load(0, 0), store(1, 1)), hand(put(1, 1), load(0, 1), store(1, 0))),
			[][]int{{0, 1, 0, 1, 1, 1}, {0, 1, 1, 1, 1, 1}, {1, 1, 0, 1, 1, 1}}},
		{"two words, over each other", program(2, hand(put(0, 1), put(1, 2), store(0, 0), store(1, 1)), hand(put(0, 3), put(1, 4), store(0, 1), store(1, 0))),
			[][]int{{1, 2, 3, 4, 1, 2}, {1, 2, 3, 4, 4, 2}, {1, 2, 3, 4, 4, 3}}},
	})
}

func TestThreeHands(t *testing.T) {
	testAsked(t, []asked{
		{"no lines", program(1, nil, nil, nil), [][]int{make([]int, 7)}},
		{"what was seen through another one is there", program(2,
			hand(put(0, 1), store(0, 0)), hand(load(0, 0), store(0, 1)), hand(load(0, 1), load(1, 0))), [][]int{
			{1, 0, 0, 0, 0, 0, 1, 0}, {1, 0, 0, 0, 0, 1, 1, 0}, {1, 0, 1, 0, 0, 0, 1, 1},
			{1, 0, 1, 0, 0, 1, 1, 1}, {1, 0, 1, 0, 1, 1, 1, 1}}},
		{"the last two, and one that does nothing", program(2, nil, hand(put(0, 1), store(0, 0), load(0, 1)), hand(put(0, 1), store(0, 1), load(0, 0))),
			[][]int{{0, 0, 0, 0, 0, 0, 1, 1}, {0, 0, 0, 0, 1, 0, 1, 1}, {0, 0, 1, 0, 0, 0, 1, 1}, {0, 0, 1, 0, 1, 0, 1, 1}}},
		{"all in a ring see nothing", program(3,
			hand(put(0, 1), store(0, 0), load(0, 1)), hand(put(0, 1), store(0, 1), load(0, 2)), hand(put(0, 1), store(0, 2), load(0, 0))), [][]int{
			{0, 0, 0, 0, 0, 0, 1, 1, 1}, {0, 0, 0, 0, 1, 0, 1, 1, 1}, {0, 0, 1, 0, 0, 0, 1, 1, 1}, {0, 0, 1, 0, 1, 0, 1, 1, 1},
			{1, 0, 0, 0, 0, 0, 1, 1, 1}, {1, 0, 0, 0, 1, 0, 1, 1, 1}, {1, 0, 1, 0, 0, 0, 1, 1, 1}, {1, 0, 1, 0, 1, 0, 1, 1, 1}}},
	})
}

// TestLeaves: what was seen too soon leaves out lines.
func TestLeaves(t *testing.T) {
	both := func(mine, other int, between api.Line) []api.Line {
		return hand(put(0, 1), store(0, mine), between, load(1, other), leave(1, 5))
	}
	in := func(mine, other int) []api.Line {
		return hand(put(0, 1), store(0, mine), load(0, other), leave(0, 1), put(1, 9))
	}
	testAsked(t, []asked{
		{"both leave out", program(2, in(0, 1), in(1, 0)),
			[][]int{{0, 0, 0, 0, 1, 1}, {0, 0, 1, 9, 1, 1}, {1, 9, 0, 0, 1, 1}, {1, 9, 1, 9, 1, 1}}},
		{"with a fence, not both", program(2, both(0, 1, fence()), both(1, 0, fence())),
			[][]int{{1, 0, 1, 1, 1, 1}, {1, 1, 1, 0, 1, 1}, {1, 1, 1, 1, 1, 1}}},
		{"done past the end, or at it, and the same is told", program(2, hand(load(0, 0), leave(0, 5), load(0, 1)), hand(put(0, 1), store(0, 0))),
			[][]int{{0, 0, 1, 0, 1, 0}}},
	})
}

// TestRisingByNumbers: numbers rise by their worth, and not as they are written; the first place counts most.
func TestRisingByNumbers(t *testing.T) {
	p := program(1, hand(put(0, 9), store(0, 0)), hand(put(0, 1000), store(0, 0)), hand(put(0, 100), swap(0, 0)))
	testAsked(t, []asked{{"9, 100, 1000", p, [][]int{
		{9, 0, 1000, 0, 0, 0, 9}, {9, 0, 1000, 0, 0, 0, 1000}, {9, 0, 1000, 0, 9, 0, 100},
		{9, 0, 1000, 0, 9, 0, 1000}, {9, 0, 1000, 0, 1000, 0, 9}, {9, 0, 1000, 0, 1000, 0, 100}}}})
}

// TestGreatest: programs of as many lines as can be, with as much that waits; where nobody loads, and nobody swaps, nobody tells that it waits.
func TestGreatest(t *testing.T) {
	of := func(n int) []api.Line { return hand(put(0, n), store(0, 0), store(0, 1), store(0, 2), store(0, 3)) }
	back := hand(put(1, 1000), store(1, 3), store(1, 2), store(1, 1), store(1, 0))
	for _, p := range []api.Prog{program(4, of(1), of(2), back), program(4, of(1), of(2), of(3))} {
		want, _ := sc.Results(p)
		testAsked(t, []asked{{"stores alone", p, want}})
		if len(want) < 15 {
			t.Errorf("%v alone is told", want)
		}
	}
}

// TestWrong: of each fault of a program what is told, and nothing beside it; of several the one that chapter 1 names first.
func TestWrong(t *testing.T) {
	six, bad := make([]api.Line, api.MaxLines+1), hand(fence(), api.Line{Kind: 6})
	line := func(l api.Line) api.Prog { return program(2, nil, hand(fence(), l)) }
	for _, c := range []struct {
		name string
		p    api.Prog
		want api.Errno
	}{
		{"the zero program", api.Prog{}, api.ErrRange},
		{"no words", program(0, nil), api.ErrRange},
		{"five words", program(5, nil), api.ErrRange},
		{"least number of words", program(math.MinInt, nil), api.ErrRange},
		{"no words, and no hand", program(0), api.ErrRange},
		{"five words, and four hands", program(5, nil, nil, nil, nil), api.ErrRange},
		{"no hand", program(1), api.ErrNone},
		{"no hand that is not nil", api.Prog{Words: 1, Hands: [][]api.Line{}}, api.ErrNone},
		{"four hands", program(1, nil, nil, nil, nil), api.ErrFull},
		{"four hands, the first wrong", program(1, bad, nil, nil, nil), api.ErrFull},
		{"six lines", program(1, nil, six), api.ErrFull},
		{"six lines, one of them wrong", program(1, append(bad, six...)), api.ErrFull},
		{"six lines ahead of a wrong hand", program(1, six, bad), api.ErrFull},
		{"six lines behind a wrong hand", program(1, bad, six), api.ErrRange},
		{"a kind below", line(api.Line{Kind: -1}), api.ErrRange},
		{"a kind above", line(api.Line{Kind: 6}), api.ErrRange},
		{"greatest kind", line(api.Line{Kind: math.MaxInt}), api.ErrRange},
		{"put, no register", line(put(2, 0)), api.ErrRange},
		{"load, no register", line(load(-1, 0)), api.ErrRange},
		{"store, no register", line(store(2, 0)), api.ErrRange},
		{"swap, no register", line(swap(math.MinInt, 0)), api.ErrRange},
		{"leave, no register", line(leave(2, 0)), api.ErrRange},
		{"load, no word", line(load(0, 2)), api.ErrRange},
		{"store, no word", line(store(0, -1)), api.ErrRange},
		{"swap, no word", line(swap(0, math.MaxInt)), api.ErrRange},
		{"put of less than 0", line(put(0, -1)), api.ErrRange},
		{"put of 1001", line(put(0, 1001)), api.ErrRange},
		{"leave of less than 0", line(leave(0, -1)), api.ErrRange},
		{"leave of 6", line(leave(0, 6)), api.ErrRange},
		{"a wrong line that would be left out", program(1, hand(leave(0, 1), load(0, 1))), api.ErrRange},
	} {
		if got, err := tso.Results(c.p); got != nil || plain.Told(err) != c.want {
			t.Errorf("%s: got %v %v, want %v", c.name, got, err, c.want)
		}
		if want := plain.Told(prog.Check(c.p)); want != c.want {
			t.Errorf("%s: Check tells %v, want %v", c.name, want, c.want)
		}
	}
}
