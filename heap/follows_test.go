package heap_test

import (
	"fmt"
	"math"
	"slices"
	"testing"

	"timetable/api"
	"timetable/heap"
)

// pops pops all.
func pops(h *heap.Heap) []api.Item {
	var l []api.Item
	for x, is := h.Pop(); is; x, is = h.Pop() {
		l = append(l, x)
	}
	return l
}

// TestP12_2PopsOfEveryOrder pushes the same items in each order that there is.
func TestP12_2PopsOfEveryOrder(t *testing.T) {
	items := []api.Item{{Key: 2, ID: 5}, {Key: 1, ID: 7}, {Key: 2, ID: 1}, {Key: 0, ID: 6}, {Key: 1, ID: 2}, {Key: 2, ID: 3}, {Key: -1, ID: 4}}
	for n := range len(items) + 1 {
		want := inOrder(items[:n])
		orders(slices.Clone(items[:n]), func(row []api.Item) {
			h := of(t, row...)
			if all := h.All(); !slices.Equal(all, want) {
				t.Fatalf("of %v All is %v", row, all)
			}
			if got := pops(h); !slices.Equal(got, want) {
				t.Fatalf("of %v pops are %v", row, got)
			}
		})
	}
}

// TestP12_2LowerIsToTakeAwayAndPushAgain does it both ways, of each item to each Key.
func TestP12_2LowerIsToTakeAwayAndPushAgain(t *testing.T) {
	seed := uint64(123)
	for n := 1; n < 24; n++ {
		items := drawn(&seed, n, 12)
		for _, x := range items {
			for key := int64(-9); key <= 9; key++ {
				one, other := of(t, items...), of(t, items...)
				low, err := one.Lower(x.ID, key)
				if low != (key < x.Key) || err != api.OK {
					t.Fatalf("Lower(%d, %d) of %v is %v, %d", x.ID, key, x, low, err)
				}
				if low {
					pushedAgain(t, other, x, key)
				}
				if !slices.Equal(one.All(), other.All()) || one.Len() != other.Len() {
					t.Fatalf("%v lowered to %d: All is %v; pushed again, %v", x, key, one.All(), other.All())
				}
				if got, want := pops(one), pops(other); !slices.Equal(got, want) {
					t.Fatalf("%v lowered to %d: pops are %v; pushed again, %v", x, key, got, want)
				}
			}
		}
	}
}

// pushedAgain takes an item away, by pops, and pushes it with another Key.
func pushedAgain(t *testing.T, h *heap.Heap, x api.Item, key int64) {
	t.Helper()
	var ahead []api.Item
	for y, is := h.Pop(); y != x; y, is = h.Pop() {
		if !is {
			t.Fatalf("%v is never popped", x)
		}
		ahead = append(ahead, y)
	}
	for _, y := range append(ahead, api.Item{Key: key, ID: x.ID}) {
		if err := h.Push(y); err != api.OK {
			t.Fatalf("Push(%v) again is %d", y, err)
		}
	}
}

// TestP12_2EachIsThereOnce pops behind Lower: what was pushed, each once, with the Key that it has then.
func TestP12_2EachIsThereOnce(t *testing.T) {
	seed := uint64(124)
	for range 400 {
		items := drawn(&seed, int(draw(&seed)%40), 30)
		h := of(t, items...)
		for range draw(&seed) % 30 {
			if len(items) == 0 {
				break
			}
			x := &items[draw(&seed)%uint64(len(items))]
			key := x.Key - int64(draw(&seed)%20)
			h.Lower(x.ID, key)
			x.Key = key
		}
		if got, want := pops(h), inOrder(items); !slices.Equal(got, want) {
			t.Fatalf("pops are %v; they should be %v", got, want)
		}
	}
}

func TestP12_2TwoHeapsInTurns(t *testing.T) {
	seed := uint64(125)
	hs, ps := []*heap.Heap{heap.New(), heap.New()}, make([]plain, 2)
	for i := range 4000 {
		at := int(draw(&seed) % 2)
		step(t, hs[at], &ps[at], int(draw(&seed)%3), int64(draw(&seed)%9), int(draw(&seed)%12))
		for j := range hs {
			tells(t, fmt.Sprintf("call %d, heap %d", i, j), hs[j], ps[j])
		}
	}
	for j := range hs {
		empties(t, fmt.Sprintf("heap %d", j), hs[j], ps[j])
	}
}

func TestP12_2TwoHeapsKnowNothingOfEachOther(t *testing.T) {
	one, other := heap.New(), heap.New()
	one.Push(api.Item{Key: 1, ID: 1})
	isEmpty(t, "the other one", other)
	if low, err := other.Lower(1, 0); low || err != api.ErrNone {
		t.Errorf("Lower of the first one's item is %v, %d", low, err)
	}
	if err := other.Push(api.Item{Key: 3, ID: 1}); err != api.OK {
		t.Errorf("Push of the first one's ID is %d", err)
	}
	if low, err := other.Lower(1, 2); !low || err != api.OK {
		t.Errorf("Lower is %v, %d", low, err)
	}
	holds(t, "the first one", one, []api.Item{{Key: 1, ID: 1}})
	holds(t, "the other one", other, []api.Item{{Key: 2, ID: 1}})
	one.Pop()
	isEmpty(t, "the first one", one)
	holds(t, "the other one", other, []api.Item{{Key: 2, ID: 1}})
}

// TestP12_2ManyItems pops thousands one by one, half of them lowered, in orders of all kinds.
func TestP12_2ManyItems(t *testing.T) {
	const n = 20000
	seed := uint64(126)
	byTitle := map[string][]api.Item{
		"drawn, all unlike": drawn(&seed, n, 1<<31),
		"drawn, some alike": drawn(&seed, n, n/7),
		"drawn, two Keys":   drawn(&seed, n, 2),
		"all alike":         drawn(&seed, n, 1),
		"rising":            nil,
		"falling":           nil,
	}
	for i := range n {
		byTitle["rising"] = append(byTitle["rising"], api.Item{Key: int64(i), ID: n - i})
		byTitle["falling"] = append(byTitle["falling"], api.Item{Key: int64(n - i), ID: i})
	}
	for title, items := range byTitle {
		h := of(t, items...)
		for i := 0; i < n; i += 2 {
			key := items[i].Key - int64(draw(&seed)%n) - 1
			if low, err := h.Lower(items[i].ID, key); !low || err != api.OK {
				t.Fatalf("%s: Lower(%d, %d) is %v, %d", title, items[i].ID, key, low, err)
			}
			items[i].Key = key
		}
		manyPopped(t, title, h, items)
	}
}

func manyPopped(t *testing.T, title string, h *heap.Heap, items []api.Item) {
	t.Helper()
	slices.SortFunc(items, func(x, y api.Item) int {
		if ahead(x, y) {
			return -1
		}
		return 1
	})
	if !slices.Equal(h.All(), items) {
		t.Errorf("%s: All is not all, the first ones first", title)
	}
	for i, want := range items {
		if h.Len() != len(items)-i {
			t.Fatalf("%s: Len is %d behind %d pops", title, h.Len(), i)
		}
		if top, is := h.Top(); top != want || !is {
			t.Fatalf("%s: Top is %v, %v behind %d pops; it should be %v", title, top, is, i, want)
		}
		if x, is := h.Pop(); x != want || !is {
			t.Fatalf("%s: pop %d is %v, %v; it should be %v", title, i, x, is, want)
		}
		if low, err := h.Lower(want.ID, math.MinInt64); low || err != api.ErrNone {
			t.Fatalf("%s: Lower of %v, which was popped, is %v, %d", title, want, low, err)
		}
	}
	isEmpty(t, title, h)
}

func TestExamples(t *testing.T) {
	h := of(t, api.Item{Key: 5, ID: 1}, api.Item{Key: 3, ID: 9}, api.Item{Key: 5, ID: 0})
	if low, err := h.Lower(1, 2); !low || err != api.OK {
		t.Errorf("Lower(1, 2) is %v, %d", low, err)
	}
	for _, want := range []api.Item{{Key: 2, ID: 1}, {Key: 3, ID: 9}} {
		if x, is := h.Pop(); x != want || !is {
			t.Errorf("Pop is %v, %v; it should be %v", x, is, want)
		}
	}
}
