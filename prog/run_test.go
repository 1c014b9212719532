package prog_test

import (
	"fmt"
	"math"
	"slices"
	"testing"

	"latchgarth/api"
	"latchgarth/plain"
	"latchgarth/prog"
)

type ran struct {
	name   string
	p      api.Prog
	script []int
	want   []int
}

func testRan(t *testing.T, cases []ran) {
	t.Helper()
	for _, c := range cases {
		if got, err := prog.Run(c.p, c.script); err != nil || !slices.Equal(got, c.want) {
			t.Errorf("%s: got %v %v, want %v", c.name, got, err, c.want)
		}
	}
}

// TestRunLines: what each kind of line does.
func TestRunLines(t *testing.T) {
	testRan(t, []ran{
		{"nothing", program(1, nil), nil, []int{0, 0, 0}},
		{"nothing, of three hands and four words", program(4, nil, nil, nil), nil, make([]int, 10)},
		{"put of 0 over another number", program(1, hand(put(0, 7), put(1, 8), put(0, 0))), nil, []int{0, 8, 0}},
		{"put of 1000", program(1, hand(put(1, 1000))), nil, []int{0, 1000, 0}},
		{"store, and the register stays", program(2, hand(put(1, 5), store(1, 1))), nil, []int{0, 5, 0, 5}},
		{"store of 0 over another number", program(1, hand(put(1, 5), store(1, 0), store(0, 0))), nil, []int{0, 5, 0}},
		{"load, and the word stays", program(2, hand(put(0, 5), store(0, 1), load(1, 1))), nil, []int{5, 5, 0, 5}},
		{"load of 0 over another number", program(1, hand(put(0, 5), load(0, 0))), nil, []int{0, 0, 0}},
		{"swap changes places", program(1, hand(put(0, 1), store(0, 0), put(0, 2), swap(0, 0))), nil, []int{1, 0, 2}},
		{"swap of the other register", program(4, hand(put(1, 9), swap(1, 3))), nil, []int{0, 0, 0, 0, 0, 9}},
		{"fence does nothing", program(1, hand(put(0, 3), fence(), store(0, 0), fence())), nil, []int{3, 0, 3}},
		{"each hand has registers of its own", program(1, hand(put(0, 1), put(1, 2)), hand(put(0, 3)), hand(put(1, 4))), nil, []int{1, 2, 3, 0, 0, 4, 0}},
		{"the greatest program", program(4, fences(5), fences(5), hand(put(1, 1000), store(1, 0), store(1, 1), store(1, 2), store(1, 3))), nil, []int{0, 0, 0, 0, 0, 1000, 1000, 1000, 1000, 1000}},
	})
}

// TestRunLeave: how many lines are left out, at what, and past the last one.
func TestRunLeave(t *testing.T) {
	left := []api.Line{put(0, 1), store(0, 0), store(0, 1), store(0, 2)}
	of := func(reg, many int) api.Prog { return program(3, append(hand(leave(reg, many)), left...)) }
	testRan(t, []ran{
		{"none", of(0, 0), nil, []int{1, 0, 1, 1, 1}},
		{"one", of(0, 1), nil, []int{0, 0, 0, 0, 0}},
		{"of the other register", program(1, hand(put(0, 1), leave(1, 1), store(0, 0))), nil, []int{1, 0, 0}},
		{"two of three", program(2, hand(put(0, 1), leave(1, 2), store(0, 0), store(0, 0), store(0, 1))), nil, []int{1, 0, 0, 1}},
		{"all but the last", program(3, hand(leave(1, 3), store(0, 0), put(1, 3), put(0, 2), put(0, 4))), nil, []int{4, 0, 0, 0, 0}},
		{"just to the end", of(0, 4), nil, []int{0, 0, 0, 0, 0}},
		{"past the end", of(1, 5), nil, []int{0, 0, 0, 0, 0}},
		{"the last line", program(1, hand(put(1, 2), leave(0, 5))), nil, []int{0, 2, 0}},
		{"not, where the register is not 0", program(1, hand(put(0, 1), leave(0, 1), store(0, 0))), nil, []int{1, 0, 1}},
		{"one that leaves out another one", program(1, hand(leave(0, 1), leave(0, 2), put(0, 5), store(0, 0))), nil, []int{5, 0, 5}},
		{"one behind another one", program(1, hand(leave(0, 0), leave(0, 1), put(0, 5), put(1, 6))), nil, []int{0, 6, 0}},
		{"one step, whatever it leaves out", program(1, hand(leave(0, 2), put(1, 1), put(1, 2), load(0, 0)), hand(put(0, 7), store(0, 0))), []int{0, 0, 1, 1}, []int{0, 0, 7, 0, 7}},
		{"a hand that left out its end is done", program(1, hand(leave(0, 5), put(0, 1)), hand(put(0, 2))), []int{0, 0, 0, 0, 1, 0}, []int{0, 0, 2, 0, 0}},
	})
}

// TestRunUnneeded: numbers that a line does not need change nothing.
func TestRunUnneeded(t *testing.T) {
	const far = math.MaxInt
	testRan(t, []ran{{"far numbers", program(1,
		hand(api.Line{Kind: api.Put, Reg: 0, Word: far, Value: 4}, api.Line{Kind: api.Store, Value: -far}, api.Line{Kind: api.Fence, Reg: -far, Word: far, Value: far}),
		hand(api.Line{Kind: api.Leave, Reg: 1, Word: -far, Value: 1}, put(1, 9), api.Line{Kind: api.Load, Value: far}, api.Line{Kind: api.Swap, Reg: 1, Value: far})),
		nil, []int{4, 0, 4, 4, 0}}})
}

// TestRunScript: who does the next line, and what is left behind the script.
func TestRunScript(t *testing.T) {
	one := program(1, hand(put(0, 1), store(0, 0), load(1, 0)), hand(put(0, 2), store(0, 0), load(1, 0)))
	three := program(1, hand(put(0, 1), swap(0, 0)), hand(put(0, 2), swap(0, 0)), hand(put(0, 3), swap(0, 0)))
	still := program(1, nil, hand(put(0, 1), store(0, 0)))
	testRan(t, []ran{
		{"no script: hand by hand", one, nil, []int{1, 1, 2, 2, 2}},
		{"an empty script", one, []int{}, []int{1, 1, 2, 2, 2}},
		{"the other hand first", one, []int{1, 1, 1}, []int{1, 1, 2, 2, 1}},
		{"turn by turn", one, []int{0, 1, 0, 1, 0, 1}, []int{1, 2, 2, 2, 2}},
		{"turn by turn, the other hand first", one, []int{1, 0, 1, 0, 1, 0}, []int{1, 1, 2, 1, 1}},
		{"part of a script, the rest hand by hand", one, []int{1, 1}, []int{1, 1, 2, 1, 1}},
		{"a store in between", one, []int{0, 0, 1, 1}, []int{1, 2, 2, 2, 2}},
		{"three hands, no script", three, nil, []int{0, 0, 1, 0, 2, 0, 3}},
		{"three hands, from the last one on", three, []int{2, 2, 1, 1, 0, 0}, []int{2, 0, 3, 0, 0, 0, 1}},
		{"three hands, the middle one first", three, []int{1, 1}, []int{2, 0, 0, 0, 1, 0, 3}},
		{"who is done does nothing", one, []int{0, 0, 0, 0, 0, 0, 1}, []int{1, 1, 2, 2, 2}},
		{"who has no line does nothing", still, []int{0, 0, 1, 0}, []int{0, 0, 1, 0, 1}},
		{"forty numbers, the last of which counts", one, append(make([]int, 37), 1, 1, 1), []int{1, 1, 2, 2, 2}},
		{"forty numbers of one hand", one, slices.Repeat([]int{1}, api.MaxNodes), []int{1, 1, 2, 2, 1}},
	})
	late := program(1, nil, hand(put(0, 1), store(0, 0)), hand(load(0, 0)))
	testRan(t, []ran{
		{"the fortieth number counts", late, append(make([]int, 39), 2), []int{0, 0, 1, 0, 0, 0, 1}},
		{"39 numbers", late, make([]int, 39), []int{0, 0, 1, 0, 1, 0, 1}},
	})
}

// TestRunScriptWrong: the script's faults, the first one that the chapter names first; nothing is told beside.
func TestRunScriptWrong(t *testing.T) {
	one, three := program(1, fences(5)), program(1, nil, nil, nil)
	for _, c := range []struct {
		name   string
		p      api.Prog
		script []int
		want   api.Errno
	}{
		{"41 numbers", one, make([]int, 41), api.ErrFull},
		{"41 numbers, of which one is no hand", one, append(make([]int, 40), 1), api.ErrFull},
		{"41 numbers, none of which is a hand", one, slices.Repeat([]int{-1}, 41), api.ErrFull},
		{"1000 numbers", three, make([]int, 1000), api.ErrFull},
		{"behind the last of one hand", one, []int{1}, api.ErrRange},
		{"behind the last of three hands", three, []int{0, 1, 2, 3}, api.ErrRange},
		{"below 0", three, []int{0, -1}, api.ErrRange},
		{"the last of forty", one, append(make([]int, 39), 1), api.ErrRange},
		{"least number", three, []int{math.MinInt}, api.ErrRange},
		{"greatest number", three, []int{math.MaxInt}, api.ErrRange},
		{"no hand, behind all lines", one, []int{0, 0, 0, 0, 0, 2}, api.ErrRange},
		{"no fault: the last hand", three, []int{2}, api.OK},
		{"no fault: forty numbers", three, slices.Repeat([]int{2}, 40), api.OK},
	} {
		l, err := prog.Run(c.p, c.script)
		if got := plain.Told(err); got != c.want || (l == nil) != (c.want != api.OK) {
			t.Errorf("%s: got %v %v, want %v", c.name, l, got, c.want)
		}
	}
}

// room is a copy of a list, with so many numbers of room behind its length, each of them filled.
func room[T any](list []T, fill T, many int) []T {
	out := slices.Clone(list)
	for range many {
		out = append(out, fill)
	}
	return out[:len(list)]
}

// TestRunKeeps: what is handed in, and what lies behind its length, is neither changed nor asked nor kept; and what is told is fresh.
func TestRunKeeps(t *testing.T) {
	odd := api.Line{Kind: -7, Reg: -7, Word: -7, Value: -7}
	fresh := func() (api.Prog, []int) {
		first := room(hand(put(0, 5), swap(0, 1), leave(0, 1)), odd, 3)
		second := room(hand(put(1, 6), store(1, 1), load(0, 1)), odd, 1)
		hands := room([][]api.Line{first, second}, []api.Line{odd}, 4)
		return api.Prog{Words: 2, Hands: hands}, room([]int{1, 0, 1}, -7, 9)
	}
	all := func(p api.Prog, script []int) string {
		s := fmt.Sprint(p.Words, len(p.Hands), p.Hands[:cap(p.Hands)], script[:cap(script)])
		for _, h := range p.Hands {
			s += fmt.Sprint(len(h), h[:cap(h)])
		}
		return s
	}
	p, script := fresh()
	before := all(p, script)
	if err := prog.Check(p); err != nil {
		t.Fatal(err)
	}
	got, err := prog.Run(p, script)
	want := []int{6, 0, 5, 6, 0, 5}
	if err != nil || !slices.Equal(got, want) {
		t.Fatalf("got %v %v, want %v", got, err, want)
	}
	if after := all(p, script); after != before {
		t.Errorf("handed in was %s, is now %s", before, after)
	}
	again, _ := prog.Run(p, script)
	for i := range got[:cap(got)] {
		got[:cap(got)][i] = -1
	}
	if !slices.Equal(again, want) {
		t.Errorf("written into one answer, the other one is %v", again)
	}
	p.Hands[0][0] = put(0, 9)
	script[0] = 0
	if !slices.Equal(again, want) {
		t.Errorf("written into what was handed in, the answer is %v", again)
	}
	other, otherScript := fresh()
	if l, err := prog.Run(other, otherScript); err != nil || !slices.Equal(l, want) {
		t.Errorf("asked again: got %v %v, want %v", l, err, want)
	}
}

// TestRunWrongKeeps: nothing is changed where there is an error, either.
func TestRunWrongKeeps(t *testing.T) {
	p := program(1, hand(put(0, 5), store(0, 0)), hand(load(0, 1)))
	script := []int{0, 1, 2}
	before := fmt.Sprint(p, script)
	if _, err := prog.Run(p, script); plain.Told(err) != api.ErrRange {
		t.Errorf("got %v", err)
	}
	p.Hands[1][0].Word = 0
	if _, err := prog.Run(p, script); plain.Told(err) != api.ErrRange {
		t.Errorf("got %v", err)
	}
	p.Hands[1][0].Word = 1
	if after := fmt.Sprint(p, script); after != before {
		t.Errorf("handed in was %s, is now %s", before, after)
	}
}

// draw gives numbers from 0 to below n by a short rule, the same ones each time.
type draw uint64

func (d *draw) below(n int) int {
	*d = *d*6364136223846793005 + 1442695040888963407
	return int(uint64(*d) >> 33 % uint64(n))
}

func (d *draw) line(words int) api.Line {
	l := api.Line{Kind: d.below(6), Reg: d.below(2), Word: d.below(words), Value: d.below(4)}
	if l.Kind == api.Put {
		l.Value = d.below(1001)
	}
	return l
}

func (d *draw) program() api.Prog {
	p := api.Prog{Words: 1 + d.below(4)}
	for range 1 + d.below(3) {
		var lines []api.Line
		for range d.below(6) {
			lines = append(lines, d.line(p.Words))
		}
		p.Hands = append(p.Hands, lines)
	}
	return p
}

func (d *draw) script(hands int) []int {
	var script []int
	for range d.below(41) {
		script = append(script, d.below(hands))
	}
	return script
}

// modelled runs a program in another way: hands give away the lines that they did, or leave out; registers and words have names.
func modelled(p api.Prog, script []int) []int {
	cell := map[string]int{}
	left := slices.Clone(p.Hands)
	for h := range p.Hands {
		script = append(slices.Clip(script), slices.Repeat([]int{h}, api.MaxLines)...)
	}
	for _, h := range script {
		if len(left[h]) == 0 {
			continue
		}
		l := left[h][0]
		left[h] = left[h][1:]
		reg, word := fmt.Sprint("r", h, " ", l.Reg), fmt.Sprint("w", l.Word)
		before := map[string]int{reg: cell[reg], word: cell[word]}
		if l.Kind == api.Put {
			cell[reg] = l.Value
		}
		if l.Kind == api.Load || l.Kind == api.Swap {
			cell[reg] = before[word]
		}
		if l.Kind == api.Store || l.Kind == api.Swap {
			cell[word] = before[reg]
		}
		for i := 0; l.Kind == api.Leave && cell[reg] == 0 && i < l.Value && len(left[h]) > 0; i++ {
			left[h] = left[h][1:]
		}
	}
	var out []int
	for h := range p.Hands {
		out = append(out, cell[fmt.Sprint("r", h, " 0")], cell[fmt.Sprint("r", h, " 1")])
	}
	for w := range p.Words {
		out = append(out, cell[fmt.Sprint("w", w)])
	}
	return out
}

// TestRunModel: many programs and scripts, against another way to run them.
func TestRunModel(t *testing.T) {
	d := draw(1)
	for range 5000 {
		p := d.program()
		script := d.script(len(p.Hands))
		got, err := prog.Run(p, script)
		if want := modelled(p, script); err != nil || !slices.Equal(got, want) {
			t.Fatalf("%+v by %v: got %v %v, want %v", p, script, got, err, want)
		}
	}
}

// TestRunWild: whatever the numbers are, nothing panics, Run tells what Check does, and nothing beside an error.
func TestRunWild(t *testing.T) {
	numbers := []int{0, 0, 1, 1, 2, 3, 4, 5, 6, -1, 1000, 1001, math.MinInt, math.MaxInt}
	d := draw(2)
	wild := func() int { return numbers[d.below(len(numbers))] }
	good := 0
	for range 20000 {
		p := api.Prog{Words: wild()}
		for range d.below(5) {
			var lines []api.Line
			for range d.below(4) {
				lines = append(lines, api.Line{Kind: wild(), Reg: wild(), Word: wild(), Value: wild()})
			}
			p.Hands = append(p.Hands, lines)
		}
		var script []int
		for range d.below(4) {
			script = append(script, wild())
		}
		check := prog.Check(p)
		l, err := prog.Run(p, script)
		switch {
		case check != nil && plain.Told(err) != plain.Told(check), err != nil && l != nil:
			t.Fatalf("%+v by %v: Check tells %v, Run %v %v", p, script, check, l, err)
		case err == nil && len(l) != 2*len(p.Hands)+p.Words:
			t.Fatalf("%+v by %v: got %v", p, script, l)
		case err == nil:
			good++
		}
	}
	if good == 0 {
		t.Error("no program was good")
	}
}

// ExampleRun: one hand stores, the other one loads, one line at a time.
func ExampleRun() {
	p := api.Prog{Words: 1, Hands: [][]api.Line{
		{{Kind: api.Put, Reg: 0, Value: 7}, {Kind: api.Store, Reg: 0, Word: 0}},
		{{Kind: api.Load, Reg: 1, Word: 0}},
	}}
	fmt.Println(prog.Run(p, []int{0, 0, 1}))
	fmt.Println(prog.Run(p, []int{1}))
	// Output:
	// [7 0 0 7 7] <nil>
	// [7 0 0 0 7] <nil>
}
