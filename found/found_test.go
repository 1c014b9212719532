package found_test

import (
	"slices"
	"testing"

	"latchgarth/found"
)

// taken is all that is left in a queue.
func taken[T comparable](q *found.Queue[T]) []T {
	var out []T
	for t, ok := q.Take(); ok; t, ok = q.Take() {
		out = append(out, t)
	}
	return out
}

func TestQueueOrder(t *testing.T) {
	q := found.New(5, 3, 5)
	for _, n := range []int{4, 3, 0, 4, 1} {
		q.Put(n)
	}
	if got := taken(q); !slices.Equal(got, []int{5, 3, 4, 0, 1}) {
		t.Errorf("got %v", got)
	}
}

// TestQueueOnce: what is out again is not put in again, either.
func TestQueueOnce(t *testing.T) {
	q := found.New([2]int{1, 2})
	first, ok := q.Take()
	if !ok || first != [2]int{1, 2} {
		t.Errorf("got %v %v", first, ok)
	}
	q.Put([2]int{1, 2})
	q.Put([2]int{2, 1})
	q.Put([2]int{1, 2})
	if got := taken(q); !slices.Equal(got, [][2]int{{2, 1}}) {
		t.Errorf("got %v", got)
	}
}

func TestQueueEmpty(t *testing.T) {
	q := found.New[int]()
	for range 2 {
		if n, ok := q.Take(); n != 0 || ok {
			t.Errorf("got %v %v", n, ok)
		}
	}
	q.Put(0)
	if n, ok := q.Take(); n != 0 || !ok {
		t.Errorf("got %v %v", n, ok)
	}
	if n, ok := q.Take(); n != 0 || ok {
		t.Errorf("got %v %v", n, ok)
	}
}

// TestQueuesApart: what one queue knows, another one doesn't.
func TestQueuesApart(t *testing.T) {
	one, other := found.New("a"), found.New("a", "b")
	one.Put("c")
	if got := taken(other); !slices.Equal(got, []string{"a", "b"}) {
		t.Errorf("got %v", got)
	}
	if got := taken(one); !slices.Equal(got, []string{"a", "c"}) {
		t.Errorf("got %v", got)
	}
}
