package prog_test

import (
	"math"
	"testing"

	"latchgarth/api"
	"latchgarth/plain"
	"latchgarth/prog"
)

// Lines as tests write them; what a line does not need is 0.
func put(reg, value int) api.Line  { return api.Line{Kind: api.Put, Reg: reg, Value: value} }
func load(reg, word int) api.Line  { return api.Line{Kind: api.Load, Reg: reg, Word: word} }
func store(reg, word int) api.Line { return api.Line{Kind: api.Store, Reg: reg, Word: word} }
func swap(reg, word int) api.Line  { return api.Line{Kind: api.Swap, Reg: reg, Word: word} }
func fence() api.Line              { return api.Line{Kind: api.Fence} }
func leave(reg, many int) api.Line { return api.Line{Kind: api.Leave, Reg: reg, Value: many} }

func hand(lines ...api.Line) []api.Line { return lines }

func program(words int, hands ...[]api.Line) api.Prog { return api.Prog{Words: words, Hands: hands} }

// fences is a hand of so many lines.
func fences(n int) []api.Line {
	var lines []api.Line
	for range n {
		lines = append(lines, fence())
	}
	return lines
}

type checked struct {
	name string
	p    api.Prog
	want api.Errno
}

// testChecked asks Check and Run; Run of a wrong program also with scripts that are wrong themselves: the program's fault comes ahead of theirs.
func testChecked(t *testing.T, cases []checked) {
	t.Helper()
	for _, c := range cases {
		if got := plain.Told(prog.Check(c.p)); got != c.want {
			t.Errorf("%s: Check: got %v, want %v", c.name, got, c.want)
		}
		l, err := prog.Run(c.p, nil)
		if got := plain.Told(err); got != c.want || (l == nil) != (c.want != api.OK) {
			t.Errorf("%s: Run: got %v %v, want %v", c.name, l, got, c.want)
		}
		if c.want == api.OK {
			continue
		}
		for _, script := range [][]int{make([]int, api.MaxNodes+1), {-1}, {3}} {
			if l, err := prog.Run(c.p, script); plain.Told(err) != c.want || l != nil {
				t.Errorf("%s: Run with a wrong script: got %v %v, want %v", c.name, l, err, c.want)
			}
		}
	}
}

func TestCheckShape(t *testing.T) {
	five, six := fences(api.MaxLines), fences(api.MaxLines+1)
	testChecked(t, []checked{
		{"one word, one hand without lines", program(1, nil), api.OK},
		{"an empty hand that is not nil", program(1, []api.Line{}), api.OK},
		{"two hands, two words", program(2, hand(fence()), nil), api.OK},
		{"four words, three hands of five lines", program(4, five, five, five), api.OK},
		{"no words", program(0, nil), api.ErrRange},
		{"less than no words", program(-1, nil), api.ErrRange},
		{"five words", program(5, nil), api.ErrRange},
		{"least number of words", program(math.MinInt, nil), api.ErrRange},
		{"greatest number of words", program(math.MaxInt, nil), api.ErrRange},
		{"no hand, nil", program(1), api.ErrNone},
		{"no hand, empty", api.Prog{Words: 4, Hands: [][]api.Line{}}, api.ErrNone},
		{"four hands", program(1, nil, nil, nil, nil), api.ErrFull},
		{"nine hands", program(1, make([][]api.Line, 9)...), api.ErrFull},
		{"six lines of the only hand", program(1, six), api.ErrFull},
		{"six lines of the last hand", program(4, five, nil, six), api.ErrFull},
	})
}

func TestCheckKind(t *testing.T) {
	for _, kind := range []int{math.MinInt, -1, 6, 7, math.MaxInt} {
		testChecked(t, []checked{{"no kind", program(1, hand(fence(), api.Line{Kind: kind})), api.ErrRange}})
	}
	for kind := range 6 {
		testChecked(t, []checked{{"a kind", program(1, hand(api.Line{Kind: kind})), api.OK}})
	}
}

// TestCheckField asks, of each field of each kind of line, at all edges, whether it is looked at, and how.
func TestCheckField(t *testing.T) {
	const unread = math.MaxInt // the field is not looked at
	bounds := []struct{ kind, reg, word, value int }{
		{api.Put, 1, unread, 1000},
		{api.Load, 1, 2, unread},
		{api.Store, 1, 2, unread},
		{api.Swap, 1, 2, unread},
		{api.Fence, unread, unread, unread},
		{api.Leave, 1, unread, 5},
	}
	numbers := []int{math.MinInt, -1, 0, 1, 2, 3, 4, 5, 6, 999, 1000, 1001, math.MaxInt}
	for _, b := range bounds {
		for _, n := range numbers {
			want := func(most int) api.Errno {
				if most != unread && (n < 0 || n > most) {
					return api.ErrRange
				}
				return api.OK
			}
			testChecked(t, []checked{
				{"Reg", program(3, nil, hand(fence(), api.Line{Kind: b.kind, Reg: n})), want(b.reg)},
				{"Word", program(3, nil, hand(fence(), api.Line{Kind: b.kind, Word: n})), want(b.word)},
				{"Value", program(3, nil, hand(fence(), api.Line{Kind: b.kind, Value: n})), want(b.value)},
			})
		}
	}
}

// TestCheckWords: what is a word hangs on the program, not on what a program may have.
func TestCheckWords(t *testing.T) {
	for words := 1; words <= api.MaxWords; words++ {
		for word := range api.MaxWords + 1 {
			want := api.ErrRange
			if word < words {
				want = api.OK
			}
			testChecked(t, []checked{
				{"load", program(words, hand(load(0, word))), want},
				{"store", program(words, hand(store(0, word))), want},
				{"swap", program(words, hand(swap(0, word))), want},
			})
		}
	}
}

// TestCheckFirst: of several faults the one that the chapter names first is told.
func TestCheckFirst(t *testing.T) {
	six, wrong := fences(api.MaxLines+1), hand(api.Line{Kind: 6})
	sixWrong := append(hand(api.Line{Kind: -1}), fences(api.MaxLines)...)
	testChecked(t, []checked{
		{"words, and no hand", program(0), api.ErrRange},
		{"words, and four hands", program(5, nil, nil, nil, nil), api.ErrRange},
		{"words, and six lines", program(0, six), api.ErrRange},
		{"four hands, the first with a wrong line", program(1, wrong, nil, nil, nil), api.ErrFull},
		{"six lines, the first of them wrong", program(1, sixWrong), api.ErrFull},
		{"a wrong line ahead of a hand with six", program(1, nil, wrong, six), api.ErrRange},
		{"a hand with six lines ahead of a wrong one", program(1, nil, six, wrong), api.ErrFull},
		{"a wrong line behind good ones, ahead of a hand with six", program(1, hand(fence(), load(0, 1)), six), api.ErrRange},
		{"a line wrong in all", program(1, hand(api.Line{Kind: 9, Reg: -1, Word: -1, Value: -1})), api.ErrRange},
	})
}
