package heap_test

import (
	"fmt"
	"math"
	"slices"
	"testing"

	"timetable/api"
	"timetable/heap"
)

// keys and ids are the least and the greatest that there are, and what lies between, rising.
var (
	keys = []int64{math.MinInt64, math.MinInt64 + 1, -api.Inf, -1 << 32, -2, -1, 0, 1, 2, 1 << 32, api.MaxTick, api.Inf, math.MaxInt64 - 1, math.MaxInt64}
	ids  = []int{math.MinInt, math.MinInt + 1, -1 << 32, -2, -1, 0, 1, 2, 1 << 32, math.MaxInt - 1, math.MaxInt}
)

// ahead tells by the chapter's words alone whether x is told ahead of y.
func ahead(x, y api.Item) bool {
	if x.Key == y.Key {
		return x.ID < y.ID
	}
	return x.Key < y.Key
}

// plain is a heap as the chapter tells of it: items, the first ones first.
type plain []api.Item

func (p plain) find(id int) int {
	return slices.IndexFunc(p, func(x api.Item) bool { return x.ID == id })
}

func (p *plain) push(x api.Item) api.Errno {
	if p.find(x.ID) >= 0 {
		return api.ErrThere
	}
	at := 0
	for at < len(*p) && ahead((*p)[at], x) {
		at++
	}
	*p = slices.Insert(*p, at, x)
	return api.OK
}

func (p *plain) pop() (api.Item, bool) {
	if len(*p) == 0 {
		return api.Item{}, false
	}
	x := (*p)[0]
	*p = slices.Delete(*p, 0, 1)
	return x, true
}

func (p *plain) lower(id int, key int64) (bool, api.Errno) {
	at := p.find(id)
	if at < 0 {
		return false, api.ErrNone
	}
	if key >= (*p)[at].Key {
		return false, api.OK
	}
	*p = slices.Delete(*p, at, at+1)
	p.push(api.Item{Key: key, ID: id})
	return true, api.OK
}

// inOrder tells items as the chapter has them told.
func inOrder(items []api.Item) plain {
	var p plain
	for _, x := range items {
		p.push(x)
	}
	return p
}

// of makes a heap of items of unlike IDs.
func of(t testing.TB, items ...api.Item) *heap.Heap {
	t.Helper()
	h := heap.New()
	for _, x := range items {
		if err := h.Push(x); err != api.OK {
			t.Fatalf("Push(%v) is %d", x, err)
		}
	}
	return h
}

// tells checks by all that can be asked that a heap has just these items, in this order.
func tells(t testing.TB, title string, h *heap.Heap, items []api.Item) {
	t.Helper()
	if h.Len() != len(items) {
		t.Fatalf("%s: Len is %d; it should be %d", title, h.Len(), len(items))
	}
	if got := h.All(); !slices.Equal(got, items) {
		t.Fatalf("%s: All is %v; it should be %v", title, got, items)
	}
	var first api.Item
	if len(items) > 0 {
		first = items[0]
	}
	if x, is := h.Top(); x != first || is != (len(items) > 0) {
		t.Fatalf("%s: Top is %v, %v; it should be %v", title, x, is, first)
	}
}

// holds checks that a heap has just these items, and that what changes nothing does so.
func holds(t testing.TB, title string, h *heap.Heap, items []api.Item) {
	t.Helper()
	tells(t, title, h, items)
	for _, x := range items {
		for _, key := range []int64{x.Key, 0, math.MinInt64, math.MaxInt64} {
			if err := h.Push(api.Item{Key: key, ID: x.ID}); err != api.ErrThere {
				t.Fatalf("%s: Push(%d, %d) is %d", title, key, x.ID, err)
			}
		}
		for _, key := range []int64{x.Key, max(x.Key, x.Key+1), max(x.Key, 0), math.MaxInt64} {
			if low, err := h.Lower(x.ID, key); low || err != api.OK {
				t.Fatalf("%s: Lower(%d, %d) of %v is %v, %d", title, x.ID, key, x, low, err)
			}
		}
	}
	for _, id := range slices.Concat(ids, []int{3, 4, 5, 6, 7, 8, 9}) {
		if plain(items).find(id) >= 0 {
			continue
		}
		for _, key := range []int64{math.MinInt64, 0, math.MaxInt64} {
			if low, err := h.Lower(id, key); low || err != api.ErrNone {
				t.Fatalf("%s: Lower(%d, %d) is %v, %d; there is no such item", title, id, key, low, err)
			}
		}
	}
	tells(t, title+", asked again", h, items)
}

// empties pops all, which should be these items, in this order, and checks what is there ahead of each Pop and behind it.
func empties(t testing.TB, title string, h *heap.Heap, items []api.Item) {
	t.Helper()
	for i, want := range items {
		holds(t, fmt.Sprintf("%s, ahead of pop %d", title, i), h, items[i:])
		if x, is := h.Pop(); x != want || !is {
			t.Fatalf("%s: pop %d is %v, %v; it should be %v", title, i, x, is, want)
		}
		if low, err := h.Lower(want.ID, math.MinInt64); low || err != api.ErrNone {
			t.Fatalf("%s: Lower of %v, which was popped, is %v, %d", title, want, low, err)
		}
	}
	isEmpty(t, title+", all popped", h)
}

func isEmpty(t testing.TB, title string, h *heap.Heap) {
	t.Helper()
	for range 3 {
		holds(t, title, h, nil)
		if x, is := h.Pop(); x != (api.Item{}) || is {
			t.Fatalf("%s: Pop is %v, %v", title, x, is)
		}
	}
}

func draw(seed *uint64) uint64 {
	*seed = *seed*6364136223846793005 + 1442695040888963407
	return *seed >> 33
}

// drawn are n items of unlike IDs, in no order, of so many Keys.
func drawn(seed *uint64, n int, unlike uint64) []api.Item {
	items := make([]api.Item, n)
	for i := range items {
		j := int(draw(seed) % uint64(i+1))
		items[i] = items[j]
		items[j] = api.Item{Key: int64(draw(seed)%unlike) - int64(unlike/2), ID: i - n/2}
	}
	return items
}

// orders calls with each order in which the items can stand.
func orders(items []api.Item, call func([]api.Item)) {
	var next func(at int)
	next = func(at int) {
		if at == len(items) {
			call(items)
			return
		}
		for i := at; i < len(items); i++ {
			items[at], items[i] = items[i], items[at]
			next(at + 1)
			items[at], items[i] = items[i], items[at]
		}
	}
	next(0)
}

// rows are items of unlike IDs, in orders of all kinds.
func rows() map[string][]api.Item {
	return map[string][]api.Item{
		"one":                     {{Key: 7, ID: 3}},
		"one of zeros":            {{}},
		"one of the least":        {{Key: math.MinInt64, ID: math.MinInt}},
		"one of the greatest":     {{Key: math.MaxInt64, ID: math.MaxInt}},
		"rising":                  {{Key: 1, ID: 4}, {Key: 2, ID: 3}, {Key: 3, ID: 2}, {Key: 4, ID: 1}, {Key: 5, ID: 0}},
		"falling":                 {{Key: 5, ID: 0}, {Key: 4, ID: 1}, {Key: 3, ID: 2}, {Key: 2, ID: 3}, {Key: 1, ID: 4}},
		"mixed":                   {{Key: 3, ID: 8}, {Key: 1, ID: 9}, {Key: 4, ID: 5}, {Key: 0, ID: 7}, {Key: 2, ID: 6}, {Key: 6, ID: 0}, {Key: 5, ID: 1}},
		"the same, IDs rising":    {{Key: 2, ID: 0}, {Key: 2, ID: 1}, {Key: 2, ID: 2}, {Key: 2, ID: 3}},
		"the same, IDs falling":   {{Key: 2, ID: 3}, {Key: 2, ID: 2}, {Key: 2, ID: 1}, {Key: 2, ID: 0}},
		"the same, IDs mixed":     {{Key: 2, ID: 5}, {Key: 2, ID: -1}, {Key: 2, ID: 0}, {Key: 2, ID: 9}, {Key: 2, ID: -7}, {Key: 2, ID: 4}},
		"Keys and IDs crosswise":  {{Key: 1, ID: 2}, {Key: 2, ID: 1}, {Key: 2, ID: -1}, {Key: 1, ID: 9}, {Key: 1, ID: -9}},
		"below 0":                 {{Key: -1, ID: -1}, {Key: -3, ID: -2}, {Key: -2, ID: -4}, {Key: -3, ID: -3}},
		"about 0":                 {{Key: 0, ID: 0}, {Key: 1, ID: -1}, {Key: -1, ID: 1}, {Key: 0, ID: -2}, {Key: 0, ID: 2}},
		"the least and greatest":  {{Key: math.MaxInt64, ID: math.MinInt}, {Key: math.MinInt64, ID: math.MaxInt}, {Key: math.MaxInt64, ID: math.MaxInt - 1}, {Key: math.MinInt64, ID: 0}, {Key: 0, ID: math.MinInt + 1}},
		"as great as can be, IDs": {{Key: 0, ID: math.MaxInt}, {Key: 0, ID: math.MinInt}, {Key: 0, ID: 1}, {Key: 0, ID: -1}, {Key: 0, ID: 0}},
		"ticks":                   {{Key: api.Inf, ID: 0}, {Key: api.MaxTick, ID: 1}, {Key: 0, ID: 2}, {Key: api.Inf, ID: 3}, {Key: api.MaxTick + 1, ID: 4}},
	}
}

func TestP12_1New(t *testing.T) {
	h := heap.New()
	if h == nil {
		t.Fatal("New is nil")
	}
	isEmpty(t, "a new heap", h)
	if other := heap.New(); other == h {
		t.Error("New answers the same heap twice")
	}
}

func TestP12_1PushAndPop(t *testing.T) {
	for title, items := range rows() {
		was := slices.Clone(items)
		h := heap.New()
		for i, x := range items {
			if err := h.Push(x); err != api.OK {
				t.Fatalf("%s: Push(%v) is %d", title, x, err)
			}
			holds(t, fmt.Sprintf("%s, %d pushed", title, i+1), h, inOrder(items[:i+1]))
		}
		empties(t, title, h, inOrder(items))
		if !slices.Equal(items, was) {
			t.Errorf("%s: what was handed in is changed", title)
		}
	}
}

// TestP12_1EachKeyBesideEachOther holds the order of every two items whose Keys and IDs are at the edges.
func TestP12_1EachKeyBesideEachOther(t *testing.T) {
	for _, k := range keys {
		for _, l := range keys {
			for _, i := range ids {
				for _, j := range ids {
					if i == j {
						continue
					}
					x, y := api.Item{Key: k, ID: i}, api.Item{Key: l, ID: j}
					h := of(t, x, y)
					tells(t, fmt.Sprint(x, y), h, inOrder([]api.Item{x, y}))
				}
			}
		}
	}
}

func TestP12_1PushOfAnIDThatIsThere(t *testing.T) {
	for title, items := range rows() {
		h := of(t, items...)
		for _, x := range items {
			for _, key := range append(slices.Clone(keys), x.Key) {
				if err := h.Push(api.Item{Key: key, ID: x.ID}); err != api.ErrThere {
					t.Fatalf("%s: Push(%d, %d) beside %v is %d", title, key, x.ID, x, err)
				}
				tells(t, title, h, inOrder(items))
			}
		}
		empties(t, title, h, inOrder(items))
	}
}

func TestP12_1PushOfAnIDThatWasPopped(t *testing.T) {
	h := of(t, api.Item{Key: 5, ID: 1}, api.Item{Key: 3, ID: 9})
	steps := []api.Item{{Key: 3, ID: 9}, {Key: 4, ID: 9}, {Key: math.MinInt64, ID: 9}}
	for i, again := range append(steps[1:], api.Item{Key: 6, ID: 9}) {
		if x, is := h.Pop(); x != steps[i] || !is {
			t.Fatalf("Pop is %v, %v; it should be %v", x, is, steps[i])
		}
		holds(t, "popped", h, []api.Item{{Key: 5, ID: 1}})
		if err := h.Push(again); err != api.OK {
			t.Fatalf("Push(%v) again is %d", again, err)
		}
		holds(t, "pushed again", h, inOrder([]api.Item{{Key: 5, ID: 1}, again}))
	}
	empties(t, "at last", h, []api.Item{{Key: 5, ID: 1}, {Key: 6, ID: 9}})
}

func TestP12_1EmptyAgain(t *testing.T) {
	h := heap.New()
	isEmpty(t, "new", h)
	for round := range 4 {
		for title, items := range rows() {
			for _, x := range items {
				if err := h.Push(x); err != api.OK {
					t.Fatalf("round %d, %s: Push(%v) is %d", round, title, x, err)
				}
			}
			empties(t, title, h, inOrder(items))
		}
	}
}

func TestP12_1TopTakesNothingAway(t *testing.T) {
	h := of(t, api.Item{Key: 2, ID: 2}, api.Item{Key: 2, ID: 1}, api.Item{Key: 3, ID: 0})
	for range 5 {
		if x, is := h.Top(); x != (api.Item{Key: 2, ID: 1}) || !is {
			t.Fatalf("Top is %v, %v", x, is)
		}
		if h.Len() != 3 {
			t.Fatalf("Len is %d", h.Len())
		}
	}
	empties(t, "Top was asked", h, []api.Item{{Key: 2, ID: 1}, {Key: 2, ID: 2}, {Key: 3, ID: 0}})
}

func TestP12_1Lower(t *testing.T) {
	// By rising Keys: the first, one between, two alike, the last one.
	items := []api.Item{{Key: 40, ID: 4}, {Key: 10, ID: 6}, {Key: 30, ID: 1}, {Key: 20, ID: 5}, {Key: 30, ID: 2}}
	cases := []struct {
		title string
		id    int
		key   int64
		low   bool
		err   api.Errno
	}{
		{"one that is not there", 3, 5, false, api.ErrNone},
		{"one that is not there, least", math.MinInt, math.MinInt64, false, api.ErrNone},
		{"a place, which is no ID", 0, 5, false, api.ErrNone},
		{"the first, below", 6, 9, true, api.OK},
		{"the first, to the same", 6, 10, false, api.OK},
		{"the first, above, and still first", 6, 11, false, api.OK},
		{"the first, above all", 6, 41, false, api.OK},
		{"the last, below all", 4, 9, true, api.OK},
		{"the last, to the least there is", 4, math.MinInt64, true, api.OK},
		{"the last, by one", 4, 39, true, api.OK},
		{"the last, between", 4, 25, true, api.OK},
		{"the last, to one of the same Key, behind them", 4, 30, true, api.OK},
		{"the last, to the first one's Key, ahead of it", 4, 10, true, api.OK},
		{"the last, to the same", 4, 40, false, api.OK},
		{"the last, above", 4, 41, false, api.OK},
		{"the last, to the greatest there is", 4, math.MaxInt64, false, api.OK},
		{"one between, below all", 5, -1, true, api.OK},
		{"one between, and it stays there", 5, 15, true, api.OK},
		{"one between, to the first one's Key", 5, 10, true, api.OK},
		{"one between, to the same", 5, 20, false, api.OK},
		{"one between, above", 5, 21, false, api.OK},
		{"one of two alike, by one", 2, 29, true, api.OK},
		{"one of two alike, to another's Key", 1, 20, true, api.OK},
		{"one of two alike, to the same", 1, 30, false, api.OK},
		{"one of two alike, above", 2, 31, false, api.OK},
	}
	for _, c := range cases {
		orders(items, func(items []api.Item) {
			h := of(t, items...)
			if low, err := h.Lower(c.id, c.key); low != c.low || err != c.err {
				t.Fatalf("%s: Lower(%d, %d) is %v, %d", c.title, c.id, c.key, low, err)
			}
			then := slices.Clone(items)
			if at := plain(then).find(c.id); c.low {
				then[at].Key = c.key
			}
			tells(t, c.title, h, inOrder(then))
			empties(t, c.title, h, inOrder(then))
		})
	}
}

func TestP12_1LowerOfEachToEachKey(t *testing.T) {
	for title, items := range rows() {
		for i, x := range items {
			for _, key := range slices.Concat(keys, []int64{min(x.Key, x.Key-1), x.Key, max(x.Key, x.Key+1)}) {
				h := of(t, items...)
				if low, err := h.Lower(x.ID, key); low != (key < x.Key) || err != api.OK {
					t.Fatalf("%s: Lower(%d, %d) of %v is %v, %d", title, x.ID, key, x, low, err)
				}
				then := slices.Clone(items)
				then[i].Key = min(x.Key, key)
				empties(t, fmt.Sprintf("%s, %v lowered to %d", title, x, key), h, inOrder(then))
			}
		}
	}
}

func TestP12_1LowerOfWhatWasPopped(t *testing.T) {
	h := of(t, api.Item{Key: 1, ID: 1}, api.Item{Key: 2, ID: 2}, api.Item{Key: 3, ID: 3})
	h.Pop()
	for _, key := range keys {
		if low, err := h.Lower(1, key); low || err != api.ErrNone {
			t.Errorf("Lower(1, %d) is %v, %d", key, low, err)
		}
	}
	tells(t, "one popped", h, []api.Item{{Key: 2, ID: 2}, {Key: 3, ID: 3}})
	// There again, it is lowered as any other one.
	h.Push(api.Item{Key: 9, ID: 1})
	if low, err := h.Lower(1, 2); !low || err != api.OK {
		t.Errorf("Lower(1, 2) is %v, %d", low, err)
	}
	empties(t, "pushed again and lowered", h, []api.Item{{Key: 2, ID: 1}, {Key: 2, ID: 2}, {Key: 3, ID: 3}})
}

func TestP12_1LowerAgainAndAgain(t *testing.T) {
	h := of(t, api.Item{Key: 5, ID: 1}, api.Item{Key: 5, ID: 2}, api.Item{Key: 5, ID: 3})
	for key := int64(4); key > -5; key-- {
		for id := 3; id > 0; id-- {
			if low, err := h.Lower(id, key); !low || err != api.OK {
				t.Fatalf("Lower(%d, %d) is %v, %d", id, key, low, err)
			}
			if low, err := h.Lower(id, key); low || err != api.OK {
				t.Fatalf("Lower(%d, %d) again is %v, %d", id, key, low, err)
			}
			if x, _ := h.Top(); x != (api.Item{Key: key, ID: id}) {
				t.Fatalf("Top is %v, as %d is lowered to %d", x, id, key)
			}
		}
	}
	empties(t, "lowered", h, []api.Item{{Key: -4, ID: 1}, {Key: -4, ID: 2}, {Key: -4, ID: 3}})
}

func TestP12_1All(t *testing.T) {
	seed := uint64(121)
	for n := range 40 {
		for _, unlike := range []uint64{1, 2, 5, 1000} {
			items := drawn(&seed, n, unlike)
			h := of(t, items...)
			for range 3 {
				tells(t, "All takes nothing away", h, inOrder(items))
			}
			empties(t, "All was asked", h, inOrder(items))
		}
	}
}

// TestP12_1AllSharesNoMemory writes all over what All answers, its spare room too.
func TestP12_1AllSharesNoMemory(t *testing.T) {
	scribble := func(l []api.Item) {
		l = l[:cap(l)]
		for i := range l {
			l[i] = api.Item{Key: math.MinInt64, ID: 77}
		}
	}
	seed := uint64(122)
	for n := range 20 {
		items := drawn(&seed, n, 6)
		h := of(t, items...)
		one, two := h.All(), h.All()
		scribble(one)
		if !slices.Equal(two, inOrder(items)) {
			t.Fatalf("an All of %d is changed as another one is written over", n)
		}
		holds(t, "All was written over", h, inOrder(items))
		scribble(append(two, api.Item{Key: 1, ID: 78}))
		scribble(two)
		three := h.All()
		empties(t, "all were written over", h, inOrder(items))
		for _, x := range items {
			h.Push(api.Item{Key: x.Key - 1, ID: x.ID})
			h.Lower(x.ID, x.Key-9)
		}
		if !slices.Equal(three, inOrder(items)) {
			t.Fatalf("an All of %d is changed by the heap's later calls", n)
		}
		for range n / 2 { // and with room to spare in the heap
			h.Pop()
		}
		rest := h.All()
		scribble(h.All())
		holds(t, "half of it popped, and All written over", h, rest)
	}
}

// TestP12_1EverySmallUse goes through all rows of a few calls, with few Keys and IDs.
func TestP12_1EverySmallUse(t *testing.T) {
	const deep = 5
	const calls = 2*2*3 + 1 // Push and Lower, of two Keys and three IDs; Pop
	all := 1
	for range deep {
		all *= calls
	}
	for number := range all {
		h, p := heap.New(), plain(nil)
		rest := number
		for range deep {
			call := rest % calls
			rest /= calls
			kind := call % 2
			if call == calls-1 {
				kind = 2
			}
			step(t, h, &p, kind, int64(call/2%2), call/4)
		}
		if got := h.All(); !slices.Equal(got, p) || h.Len() != len(p) {
			t.Fatalf("row %d: All is %v, Len %d; it should be %v", number, got, h.Len(), p)
		}
	}
}

// step does one call on both, and checks that both answer the same: Push at 0, Lower at 1, else Pop.
func step(t testing.TB, h *heap.Heap, p *plain, call int, key int64, id int) {
	t.Helper()
	switch call {
	case 0:
		x := api.Item{Key: key, ID: id}
		if got, want := h.Push(x), p.push(x); got != want {
			t.Fatalf("Push(%v) is %d; it should be %d", x, got, want)
		}
	case 1:
		low, err := h.Lower(id, key)
		if wantLow, wantErr := p.lower(id, key); low != wantLow || err != wantErr {
			t.Fatalf("Lower(%d, %d) is %v, %d; it should be %v, %d", id, key, low, err, wantLow, wantErr)
		}
	default:
		x, is := h.Pop()
		if want, wantIs := p.pop(); x != want || is != wantIs {
			t.Fatalf("Pop is %v, %v; it should be %v, %v", x, is, want, wantIs)
		}
	}
}

// TestP12_1DrawnUse holds long rows of calls against a plain heap, Top and Len behind each of them.
func TestP12_1DrawnUse(t *testing.T) {
	for number := range uint64(60) {
		seed, h, p := number, heap.New(), plain(nil)
		width, unlike, shy := 1+draw(&seed)%90, 1+draw(&seed)%60, 2+draw(&seed)%9
		for i := range 3000 {
			call := 2
			if draw(&seed)%shy != 0 {
				call = int(draw(&seed) % 2)
			}
			step(t, h, &p, call, int64(draw(&seed)%unlike)-int64(unlike/2), int(draw(&seed)%width)-int(width/2))
			first, is := h.Top()
			if h.Len() != len(p) || is != (len(p) > 0) || is && first != p[0] || !is && first != (api.Item{}) {
				t.Fatalf("row %d, call %d: Len %d, Top %v, %v; it should be %v", number, i, h.Len(), first, is, p)
			}
			if i%50 == 0 {
				tells(t, "drawn", h, p)
			}
		}
		empties(t, "drawn", h, p)
	}
}

// nobodys are heaps that nobody made, by name; one is the struct of one that was made, copied.
func nobodys(t *testing.T) map[string]*heap.Heap {
	t.Helper()
	over := of(t, api.Item{Key: 1, ID: 1})
	*over = *of(t, api.Item{Key: 1, ID: 1}, api.Item{Key: 2, ID: 2})
	emptied := of(t, api.Item{Key: 1, ID: 1})
	*emptied = heap.Heap{}
	return map[string]*heap.Heap{
		"nil":          nil,
		"zero":         {},
		"new":          new(heap.Heap),
		"copied":       copied(of(t, api.Item{Key: 1, ID: 1}, api.Item{Key: 2, ID: 2})),
		"copied empty": copied(heap.New()),
		"copied over":  over,
		"written over": emptied,
	}
}

func copied(h *heap.Heap) *heap.Heap {
	c := *h
	return &c
}

func TestNobodyMadeIt(t *testing.T) {
	for title, h := range nobodys(t) {
		for range 2 { // asked again, as nothing that is told of it may make it a heap
			for _, id := range append(slices.Clone(ids), 3) {
				for _, key := range keys {
					if err := h.Push(api.Item{Key: key, ID: id}); err != api.ErrNil {
						t.Errorf("%s: Push(%d, %d) is %d", title, key, id, err)
					}
					if low, err := h.Lower(id, key); low || err != api.ErrNil {
						t.Errorf("%s: Lower(%d, %d) is %v, %d", title, id, key, low, err)
					}
				}
			}
			if x, is := h.Pop(); x != (api.Item{}) || is {
				t.Errorf("%s: Pop is %v, %v", title, x, is)
			}
			if x, is := h.Top(); x != (api.Item{}) || is {
				t.Errorf("%s: Top is %v, %v", title, x, is)
			}
			if h.Len() != 0 || len(h.All()) != 0 {
				t.Errorf("%s: Len %d, All %v", title, h.Len(), h.All())
			}
		}
	}
}

func TestACopiedStructIsNoWayIn(t *testing.T) {
	items := []api.Item{{Key: 1, ID: 1}, {Key: 2, ID: 2}, {Key: 3, ID: 3}}
	h := of(t, items...)
	c := copied(h)
	c.Pop()
	c.Push(api.Item{Key: 0, ID: 9})
	c.Lower(3, 0)
	holds(t, "whose struct was copied", h, items)
	empties(t, "whose struct was copied", h, items)
}
