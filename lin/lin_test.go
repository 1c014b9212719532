package lin_test

import (
	"fmt"
	"math"
	"slices"
	"testing"

	"latchgarth/api"
	"latchgarth/lin"
	"latchgarth/plain"
)

// kinds of objects that there are.
var kinds = []int{0, 1, 2}

// in and out are ops as tests write them.
func in(hand, arg, got, from, to int) api.Op {
	return api.Op{Hand: hand, Kind: api.In, Arg: arg, Got: got, From: from, To: to}
}

func out(hand, got, from, to int) api.Op {
	return api.Op{Hand: hand, Kind: api.Out, Got: got, From: from, To: to}
}

// history is a list of ops; none is nil.
func history(ops ...api.Op) []api.Op { return ops }

// beyond are numbers that are not from least to most, also such as would be if few of their bits were looked at.
func beyond(least, most int) []int {
	numbers := []int{
		least - 1, most + 1, least - 2, most + 2, -most - 2, -most - 3, least + 1<<16, most + 1<<16, least + 1<<32, most + 1<<32,
		least - 1<<32, most - 1<<32, math.MinInt, math.MinInt + 1, math.MinInt + most, math.MaxInt - 1, math.MaxInt,
	}
	for _, n := range []int{least + 256, most + 256, least - 256, most - 256, 2*most + 1} {
		if n < least || n > most {
			numbers = append(numbers, n)
		}
	}
	return numbers
}

// checkFault: what Check and Row tell is wrong; with an error there is no row.
func checkFault(t *testing.T, object int, h []api.Op, want api.Errno) {
	t.Helper()
	if got := plain.Told(lin.Check(object, h)); got != want {
		t.Fatalf("%d, %+v: Check: got %v, want %v", object, h, got, want)
	}
	is, row, err := lin.Row(object, h)
	if got := plain.Told(err); got != want || want != api.OK && (is || len(row) != 0) {
		t.Fatalf("%d, %+v: Row: got %v %v %v, want %v", object, h, is, row, got, want)
	}
}

// checkFaults: the same is wrong, whatever the kind of object.
func checkFaults(t *testing.T, h []api.Op, want api.Errno) {
	t.Helper()
	for _, kind := range kinds {
		checkFault(t, kind, h, want)
	}
}

// apart is a history of so many ops of which nothing is wrong; each stands behind the one ahead of it.
func apart(many int) []api.Op {
	var h []api.Op
	for i := range many {
		h = append(h, in(i%api.MaxHands, i, -1, 2*i, 2*i+1))
	}
	return h
}

// TestObject: there are three kinds of objects, by the numbers that api names, and no others.
func TestObject(t *testing.T) {
	if api.Count != 0 || api.Stack != 1 || api.Queue != 2 {
		t.Fatal("other kinds")
	}
	for _, kind := range kinds {
		for many := range 9 {
			checkFault(t, kind, apart(many), api.OK)
		}
	}
	for _, kind := range beyond(0, 2) {
		for many := range 9 {
			checkFault(t, kind, apart(many), api.ErrRange)
		}
	}
}

// TestMany: there are eight ops at most, of whatever hands.
func TestMany(t *testing.T) {
	checkFaults(t, nil, api.OK)
	checkFaults(t, []api.Op{}, api.OK)
	for many := 1; many <= 20; many++ {
		var own, all []api.Op
		for i := range many {
			own = append(own, out(2, -1, i, i+1))
			all = append(all, out(i%4, -1, 100*(i/4), 100*(i/4)+100))
		}
		want := api.OK
		if many > 8 {
			want = api.ErrFull
		}
		checkFaults(t, own, want)
		checkFaults(t, all, want)
	}
	for _, many := range []int{100, 255, 256, 257, 264, 1 << 16, 1<<16 + 1, 1 << 20} {
		checkFaults(t, make([]api.Op, many), api.ErrFull)
	}
}

// fields of an op, and their least and greatest numbers.
var fields = []struct {
	name        string
	least, most int
	of          func(op *api.Op) *int
}{
	{"Hand", 0, 3, func(op *api.Op) *int { return &op.Hand }},
	{"Kind", 0, 1, func(op *api.Op) *int { return &op.Kind }},
	{"Arg", 0, 1000, func(op *api.Op) *int { return &op.Arg }},
	{"Got", -1, 8000, func(op *api.Op) *int { return &op.Got }},
	{"From", 0, 1000, func(op *api.Op) *int { return &op.From }},
	{"To", 0, 1000, func(op *api.Op) *int { return &op.To }},
}

// TestFields: each field of an op may be its least and its greatest number, and none beyond, at whatever place of the list the op stands, and whether it is an In or an Out.
func TestFields(t *testing.T) {
	for _, f := range fields {
		for place := range 8 {
			for _, kind := range []int{api.In, api.Out} {
				h := apart(8)
				h[place].Kind = kind
				testField(t, f.name, h, f.of(&h[place]), f.least, f.most)
			}
		}
	}
}

// testField of an op in a history.
func testField(t *testing.T, name string, h []api.Op, field *int, least, most int) {
	t.Helper()
	before := *field
	for _, n := range beyond(least, most) {
		*field = n
		checkFaults(t, h, api.ErrRange)
	}
	*field = before
	if name == "From" || name == "To" {
		return // TestTimes
	}
	for _, n := range []int{least, most, least + 1, most - 1, (least + most) / 2} {
		*field = n
		checkFaults(t, h, api.OK)
	}
}

// TestTimes: both are from 0 to 1000, else ErrRange; and From is below To, else ErrShape.
func TestTimes(t *testing.T) {
	times := []int{0, 1, 2, 499, 500, 501, 998, 999, 1000}
	for _, from := range times {
		for _, to := range times {
			want := api.ErrShape
			if from < to {
				want = api.OK
			}
			for hand := range 4 {
				checkFaults(t, history(out(hand, 0, from, to)), want)
				checkFaults(t, history(in((hand+1)%4, 5, -1, 3, 7), out(hand, 0, from, to)), want)
			}
		}
		for _, wrong := range beyond(0, 1000) {
			checkFaults(t, history(in(1, 0, 0, from, wrong)), api.ErrRange)
			checkFaults(t, history(in(1, 0, 0, wrong, from)), api.ErrRange)
			checkFaults(t, history(in(1, 0, 0, wrong, wrong)), api.ErrRange)
		}
	}
}

// span are the times that one has who is at it from one time to another.
type span struct{ from, to int }

// spans are all of them up to a time.
func spans(last int) []span {
	var all []span
	for to := 1; to <= last; to++ {
		for from := range to {
			all = append(all, span{from, to})
		}
	}
	return all
}

// share tells whether a time from one whole number to the next is in both.
func (s span) share(o span) bool {
	for time := s.from; time < s.to; time++ {
		if o.from <= time && time < o.to {
			return true
		}
	}
	return false
}

// TestShare: two ops of one hand share no time, whichever of them stands first; those of two hands may. To touch is not to share.
func TestShare(t *testing.T) {
	for _, one := range spans(6) {
		for _, other := range spans(6) {
			for hands := range 16 {
				want := api.OK
				if hands%4 == hands/4 && one.share(other) {
					want = api.ErrClash
				}
				checkFaults(t, history(in(hands%4, 1, 0, one.from, one.to), out(hands/4, 1, other.from, other.to)), want)
			}
		}
	}
	for _, h := range [][]api.Op{
		history(in(3, 1, 0, 0, 1), out(3, 1, 1, 1000)),
		history(in(3, 1, 0, 999, 1000), out(3, 1, 0, 999)),
		history(in(3, 1, 0, 0, 999), out(3, 1, 999, 1000)),
	} {
		checkFaults(t, h, api.OK)
		h[1].From = 0
		h[1].To = 1000
		checkFaults(t, h, api.ErrClash)
	}
}

// TestShareFar: whoever stands between two ops of one hand that share a time, ErrClash is told, whichever places they have.
func TestShareFar(t *testing.T) {
	for one := range 8 {
		for other := range 8 {
			if one == other {
				continue
			}
			h := apart(8)
			for i := range h {
				h[i].Hand = i % 3
			}
			h[one] = in(3, 0, -1, 20, 30)
			h[other] = in(3, 0, -1, 29, 40)
			checkFaults(t, h, api.ErrClash)
			h[other] = in(3, 0, -1, 30, 40)
			checkFaults(t, h, api.OK)
			h[other] = in(3, 0, -1, 22, 23)
			checkFaults(t, h, api.ErrClash)
			h[one].Hand = 1
			checkFaults(t, h, api.OK)
		}
	}
}

// TestFirst: of several things that are wrong the first one is told: that of the object, of how many ops there are, and of the ops by their places; of one op that of a number, of its times, and of one ahead of it.
func TestFirst(t *testing.T) {
	good := in(0, 1, 0, 0, 5)
	wide := in(4, 1, 0, 0, 5)   // ErrRange
	shape := in(1, 1, 0, 5, 5)  // ErrShape
	clash := out(0, 1, 4, 6)    // ErrClash, behind good
	before := out(0, 1, 900, 3) // ErrShape, though it would share a time with good if it went the other way
	odd := api.Op{Hand: -1, Kind: 2, Arg: -1, Got: -2, From: 9, To: 9}
	late := in(0, 1, 0, 1001, 1000) // ErrRange, and From not below To
	many := slices.Repeat(history(wide), 9)
	for _, c := range []struct {
		object int
		h      []api.Op
		want   api.Errno
	}{
		{3, many, api.ErrRange},
		{-1, many, api.ErrRange},
		{3, history(shape), api.ErrRange},
		{3, history(good, clash), api.ErrRange},
		{0, many, api.ErrFull},
		{1, slices.Repeat(history(shape), 9), api.ErrFull},
		{2, slices.Repeat(history(good), 9), api.ErrFull},
		{2, slices.Repeat(history(good), 8), api.ErrClash},
		{1, many[:8], api.ErrRange},
		{0, history(odd), api.ErrRange},
		{0, history(late), api.ErrRange},
		{1, history(wide, shape), api.ErrRange},
		{1, history(shape, wide), api.ErrShape},
		{1, history(good, clash, wide), api.ErrClash},
		{1, history(good, wide, clash), api.ErrRange},
		{2, history(good, clash, shape), api.ErrClash},
		{2, history(good, shape, clash), api.ErrShape},
		{2, history(clash, wide, good), api.ErrRange},
		{2, history(clash, good, wide), api.ErrClash},
		{0, history(good, before), api.ErrShape},
		{0, history(good, before, clash), api.ErrShape},
		{0, history(good, late, clash), api.ErrRange},
		{0, history(good, out(0, -2, 4, 6)), api.ErrRange},
		{0, history(good, in(0, 1001, 0, 4, 6)), api.ErrRange},
		{0, history(good, out(0, 8001, 4, 4)), api.ErrRange},
		{0, history(good, out(0, 8000, 4, 4)), api.ErrShape},
		{0, history(good, out(0, 8000, 4, 5)), api.ErrClash},
		{0, history(good, out(0, 8000, 5, 6)), api.OK},
		{0, history(good, in(1, 1, 0, 0, 5), clash, shape, wide), api.ErrClash},
		{0, history(good, in(1, 1, 0, 0, 5), shape, clash, wide), api.ErrShape},
		{0, history(good, in(1, 1, 0, 0, 5), wide, shape, clash), api.ErrRange},
	} {
		checkFault(t, c.object, c.h, c.want)
	}
}

// TestFaultsDrawn: what is wrong with drawn histories, of which often something is, is what another way to tell it tells; each error comes often.
func TestFaultsDrawn(t *testing.T) {
	var d draw
	many := map[api.Errno]int{}
	for range 60000 {
		h := d.loose(d.below(10))
		object := d.below(3)
		if d.below(20) == 0 {
			object = []int{-1, 3}[d.below(2)]
		}
		want := wrong(object, h)
		checkFault(t, object, h, want)
		many[want]++
	}
	for _, e := range []api.Errno{api.OK, api.ErrRange, api.ErrFull, api.ErrShape, api.ErrClash} {
		if many[e] < 1000 {
			t.Errorf("%v: %d times only", e, many[e])
		}
	}
}

// ExampleRow: two hands put in at once, so either may have been first; as a queue what hand 1 put in was, as a stack what hand 0 did. Were hand 0 done ahead of hand 1, that of a queue may not have happened.
func ExampleRow() {
	h := []api.Op{
		{Hand: 0, Kind: api.In, Arg: 5, Got: -1, From: 0, To: 4},
		{Hand: 1, Kind: api.In, Arg: 7, Got: -1, From: 2, To: 6},
		{Hand: 2, Kind: api.Out, Got: 7, From: 6, To: 8},
		{Hand: 0, Kind: api.Out, Got: 5, From: 8, To: 10},
	}
	fmt.Println(lin.Row(api.Queue, h))
	fmt.Println(lin.Row(api.Stack, h))
	fmt.Println(lin.Row(api.Count, h))
	h[0].To = 2
	fmt.Println(lin.Row(api.Queue, h))
	fmt.Println(lin.Row(api.Stack, h))
	h[3].From = 1
	fmt.Println(lin.Row(api.Queue, h))
	fmt.Println(lin.Check(api.Queue, h))
	fmt.Println(lin.Row(3, h))
	// Output:
	// true [1 0 2 3] <nil>
	// true [0 1 2 3] <nil>
	// false [] <nil>
	// false [] <nil>
	// true [0 1 2 3] <nil>
	// false [] ErrClash
	// ErrClash
	// false [] ErrRange
}
