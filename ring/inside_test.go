package ring

import "testing"

// TestTakenAtLine5: the value that is told at line 6 is the one that stood in its place at line 5, also where the place is written anew between them. No call writes there then, since Head has not gone on yet, so this test does it itself.
func TestTakenAtLine5(t *testing.T) {
	r, err := New(2)
	if err != nil {
		t.Fatal(err)
	}
	r.places, r.head, r.tail, r.gets = [8]int{5, 6}, 2, 3, side{line: 4}
	for _, value := range []int{7, 8} {
		r.places[0] = value
		if done, got, err := r.StepGet(); done || got != 0 || err != nil {
			t.Fatalf("place 0 is %d: got %v %d %v", value, done, got, err)
		}
	}
	r.places[0] = 9
	if done, got, err := r.StepGet(); !done || got != 8 || err != nil {
		t.Errorf("got %v %d %v, want true 8", done, got, err)
	}
	if r.places != [8]int{9, 6} || r.head != 3 || r.tail != 3 {
		t.Errorf("got %v %d %d", r.places, r.head, r.tail)
	}
}
