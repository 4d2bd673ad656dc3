package heap_test

import (
	"fmt"
	"math"
	"slices"
	"testing"

	"crossroads/heap"
)

type item = heap.Item

// rows are lists of items: none, one, two, equal ones, the ends of the numbers, and many in several orders.
func rows() [][]item {
	out := [][]item{
		nil,
		{},
		{{}},
		{{7, -3}},
		{{5, 1}, {3, 2}},
		{{3, 2}, {5, 1}},
		{{5, 1}, {5, 2}},
		{{5, 2}, {5, 1}},
		{{5, 1}, {5, 1}},
		{{1, 9}, {2, 8}, {3, 7}},
		{{3, 7}, {2, 8}, {1, 9}},
		{{4, 0}, {4, -1}, {4, 1}, {4, math.MinInt}, {4, math.MaxInt}},
		{{math.MaxUint64, 0}, {0, 0}, {1 << 63, 0}, {1<<63 - 1, 0}, {1 << 32, 0}, {1, 0}},
		{{math.MaxUint64, -1}, {math.MaxUint64, 1}, {0, 1}, {0, -1}, {math.MaxUint64, -1}, {0, 1}},
		{{1 << 32, -1}, {0, 0}, {1 << 63, -2}, {1 << 33, -3}},
		{{0, math.MaxInt}, {1, math.MinInt}, {0, math.MinInt}, {1, math.MaxInt}},
		{{2, 1}, {2, 1}, {2, 1}, {2, 1}, {1, 2}, {1, 2}, {2, 1}},
	}
	for n := 3; n <= 40; n++ {
		out = append(out, mixed(n, 4, uint64(n)), mixed(n, 1000, uint64(n)))
	}
	for _, n := range []int{63, 64, 65, 1000} {
		l := inOrder(mixed(n, 50, 9))
		turned := slices.Clone(l)
		slices.Reverse(turned)
		out = append(out, mixed(n, 50, 9), l, turned)
	}
	return out
}

// mixed returns n items without order, with fewer than span Keys and IDs, half of these below 0.
func mixed(n int, span uint64, seed uint64) []item {
	var out []item
	draw := func() uint64 {
		seed = seed*6364136223846793005 + 1442695040888963407
		return seed >> 33 % span
	}
	for range n {
		out = append(out, item{draw(), int(draw()) - int(span/2)})
	}
	return out
}

// precedes says the order in words of its own: the pairs (Key, ID) where the first difference decides.
func precedes(x, y item) bool {
	return x.Key < y.Key || x.Key == y.Key && x.ID < y.ID
}

// inOrder puts each item behind all that do not come after it, one at a time.
func inOrder(l []item) []item {
	var out []item
	for _, x := range l {
		out = insert(out, x)
	}
	return out
}

func insert(l []item, x item) []item {
	i := len(l)
	for i > 0 && precedes(x, l[i-1]) {
		i--
	}
	return slices.Insert(l, i, x)
}

// holds checks Len and Top against the items that the heap must have, which are in order.
func holds(t *testing.T, h *heap.Heap, want []item) {
	t.Helper()
	if n := h.Len(); n != len(want) {
		t.Fatalf("Len is %d, want %d", n, len(want))
	}
	x, ok := h.Top()
	if len(want) == 0 {
		if ok || x != (item{}) {
			t.Fatalf("Top of an empty heap: %v %v", x, ok)
		}
		return
	}
	if !ok || x != want[0] {
		t.Fatalf("Top: %v %v, want %v", x, ok, want[0])
	}
}

// pops checks one Pop, and returns the items that must be left.
func pops(t *testing.T, h *heap.Heap, want []item) []item {
	t.Helper()
	x, ok := h.Pop()
	if len(want) == 0 {
		if ok || x != (item{}) {
			t.Fatalf("Pop of an empty heap: %v %v", x, ok)
		}
		return want
	}
	if !ok || x != want[0] {
		t.Fatalf("Pop: %v %v, want %v", x, ok, want[0])
	}
	return want[1:]
}

// drains pops until the heap is empty, and once more.
func drains(t *testing.T, h *heap.Heap, want []item) {
	t.Helper()
	holds(t, h, want)
	for len(want) > 0 {
		want = pops(t, h, want)
		holds(t, h, want)
	}
	pops(t, h, nil)
	holds(t, h, nil)
}

func eachRow(t *testing.T, check func(t *testing.T, l []item)) {
	for i, l := range rows() {
		t.Run(fmt.Sprint(i, "of", len(l)), func(t *testing.T) { check(t, l) })
	}
}

// Example 1 of the chapter.
func TestExample(t *testing.T) {
	l := []item{{5, 1}, {3, 2}}
	if x, ok := heap.New(l).Pop(); !ok || x != (item{3, 2}) {
		t.Errorf("behind New: %v %v", x, ok)
	}
	h := heap.New(nil)
	h.Push(l[0])
	h.Push(l[1])
	if x, ok := h.Pop(); !ok || x != (item{3, 2}) {
		t.Errorf("behind Push: %v %v", x, ok)
	}
}

// P4.2: behind New.
func TestPopsInOrderBehindNew(t *testing.T) {
	eachRow(t, func(t *testing.T, l []item) { drains(t, heap.New(l), inOrder(l)) })
}

// P4.2: behind Push alone; Len and Top are asked behind every Push.
func TestPopsInOrderBehindPush(t *testing.T) {
	eachRow(t, func(t *testing.T, l []item) {
		h := heap.New(nil)
		var want []item
		for _, x := range l {
			h.Push(x)
			want = insert(want, x)
			holds(t, h, want)
		}
		drains(t, h, want)
	})
}

// P4.2: behind New of some items and Push of the others.
func TestPopsInOrderBehindBoth(t *testing.T) {
	eachRow(t, func(t *testing.T, l []item) {
		for _, part := range []int{1, 2, 3} {
			n := len(l) * part / 4
			h := heap.New(l[:n])
			for _, x := range l[n:] {
				h.Push(x)
			}
			drains(t, h, inOrder(l))
		}
	})
}

// Every order of a few items, equal ones among them, so that each item stands in each place.
func TestEveryOrderOfAFewItems(t *testing.T) {
	for _, l := range [][]item{
		{{0, 1}, {0, 2}, {1, 0}, {1, 1}, {2, -1}, {math.MaxUint64, -5}},
		{{3, 1}, {3, 1}, {3, 1}, {4, 0}, {4, 0}, {2, 9}},
	} {
		want := inOrder(l)
		orders(l, 0, func(l []item) {
			drains(t, heap.New(l), want)
			h := heap.New(nil)
			for _, x := range l {
				h.Push(x)
			}
			drains(t, h, want)
			if got := heap.Sorted(l); !slices.Equal(got, want) {
				t.Fatalf("Sorted(%v): %v", l, got)
			}
		})
	}
}

// orders tries each order of the items from place i on.
func orders(l []item, i int, try func([]item)) {
	if i == len(l) {
		try(l)
		return
	}
	for j := i; j < len(l); j++ {
		l[i], l[j] = l[j], l[i]
		orders(l, i+1, try)
		l[i], l[j] = l[j], l[i]
	}
}

// Scripts of Push and Pop, against a list in order; Pop of an empty heap occurs in each of them.
func TestScripts(t *testing.T) {
	for seed := range uint64(60) {
		acts := mixed(300, 16, seed)
		start := mixed(int(seed)%7, 4, seed)
		h := heap.New(start)
		want := inOrder(start)
		// Scripts that push more often grow, and the others come back to an empty heap again and again.
		bar := 4 + int(seed%3)*4
		for _, a := range acts {
			if a.ID+8 < bar {
				x := item{a.Key / 3, a.ID}
				h.Push(x)
				want = insert(want, x)
			} else {
				want = pops(t, h, want)
			}
			holds(t, h, want)
		}
		drains(t, h, want)
		pops(t, h, nil)
		h.Push(item{1, -1})
		drains(t, h, []item{{1, -1}})
	}
}

// Top does not remove, and an item that is taken out may be added again.
func TestTopAndAgain(t *testing.T) {
	h := heap.New([]item{{2, 2}, {1, 1}})
	for range 5 {
		holds(t, h, []item{{1, 1}, {2, 2}})
	}
	x, _ := h.Pop()
	h.Push(x)
	h.Push(x)
	drains(t, h, []item{{1, 1}, {1, 1}, {2, 2}})
}

func TestSorted(t *testing.T) {
	eachRow(t, func(t *testing.T, l []item) {
		if got := heap.Sorted(l); !slices.Equal(got, inOrder(l)) {
			t.Errorf("Sorted(%v): %v", l, got)
		}
	})
}

// guarded returns l with spare capacity behind it, and all of that memory.
func guarded(l []item) (given, all []item) {
	all = slices.Clone(l)
	for i := range 5 {
		all = append(all, item{1, 7000 + i})
	}
	return all[:len(l)], all
}

// The slice that New was given, and the memory behind it, stay as they were behind Push and Pop, too.
func TestNewLeavesItsSlice(t *testing.T) {
	eachRow(t, func(t *testing.T, l []item) {
		given, all := guarded(l)
		was := slices.Clone(all)
		h := heap.New(given)
		same := func(act string) {
			if !slices.Equal(all, was) {
				t.Fatalf("behind %s: %v, was %v", act, all, was)
			}
		}
		same("New")
		for i := range 4 {
			h.Push(item{uint64(i), -i})
			same("Push")
			h.Pop()
			same("Pop")
		}
		for h.Len() > 0 {
			h.Pop()
			same("Pop")
		}
		h.Push(item{0, 0})
		same("Push on the heap that was emptied")
	})
}

// What happens to the slice behind New is nothing to the heap, and two heaps of one slice are apart.
func TestHeapsAreApart(t *testing.T) {
	eachRow(t, func(t *testing.T, l []item) {
		given := slices.Clone(l)
		one, two := heap.New(given), heap.New(given)
		for i := range given {
			given[i] = item{0, -99}
		}
		one.Push(item{0, math.MinInt})
		one.Pop()
		drains(t, one, inOrder(l))
		drains(t, two, inOrder(l))
	})
}

// Sorted leaves its slice and the memory behind it, and its answer is memory of its own.
func TestSortedLeavesItsSlice(t *testing.T) {
	eachRow(t, func(t *testing.T, l []item) {
		given, all := guarded(l)
		was := slices.Clone(all)
		got := heap.Sorted(given)
		if !slices.Equal(all, was) {
			t.Fatalf("behind Sorted: %v, was %v", all, was)
		}
		got = got[:cap(got)]
		for i := range got {
			got[i] = item{0, -99}
		}
		if !slices.Equal(all, was) {
			t.Fatal("the answer shares memory with the argument")
		}
		if again := heap.Sorted(given); !slices.Equal(again, inOrder(l)) {
			t.Fatalf("asked again: %v", again)
		}
	})
}

func TestNilHeap(t *testing.T) {
	var none *heap.Heap
	for range 2 {
		holds(t, none, nil)
		pops(t, none, nil)
		none.Push(item{1, 2})
	}
}

// New of no items is a heap, not nil: Push adds to it.
func TestHeapOfNoItems(t *testing.T) {
	for _, l := range [][]item{nil, {}, make([]item, 0, 8)} {
		h := heap.New(l)
		drains(t, h, nil)
		h.Push(item{})
		drains(t, h, []item{{}})
	}
}

// So many items that an act whose time grows with their number would not end soon.
func TestManyItems(t *testing.T) {
	const n = 200000
	h := heap.New(mixed(n, 1<<30, 1))
	for _, x := range mixed(n, 1<<30, 2) {
		h.Push(x)
	}
	last, _ := h.Top()
	for i := range 2 * n {
		x, ok := h.Pop()
		if !ok || precedes(x, last) {
			t.Fatalf("Pop %d: %v %v behind %v", i, x, ok, last)
		}
		last = x
	}
	pops(t, h, nil)
}
