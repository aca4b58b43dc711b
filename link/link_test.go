package link_test

import (
	"cmp"
	"math"
	"reflect"
	"slices"
	"strconv"
	"testing"

	"timetable/api"
	"timetable/link"
	"timetable/sheet"
	"timetable/world"
)

const (
	top       = int64(api.MaxTick)
	inf       = int64(api.Inf)
	mostStops = 256
	mostLinks = 256 + 2*1024
)

// edges are numbers at and beside all that a tick, a stop or a link is held against.
var edges = []int64{
	math.MinInt64, math.MinInt64 + 1, -inf, -2 * top, -top - 1, -top, -2, -1,
	0, 1, 2, 3, 7, 1 << 20, top / 2, top - 2, top - 1, top,
	top + 1, top + 2, 2*top - 1, 2 * top, 2*top + 1, inf - 1, inf, inf + 1, math.MaxInt64 - 1, math.MaxInt64,
}

// row makes windows of a from, a to, a from and so on.
func row(numbers ...int64) []api.Win {
	var l []api.Win
	for i := 0; i < len(numbers); i += 2 {
		l = append(l, api.Win{From: numbers[i], To: numbers[i+1]})
	}
	return l
}

func rows(l ...[]api.Win) [][]api.Win { return l }

func door(a, b int, length int64, open []api.Win) api.Link {
	return api.Link{A: a, B: b, Len: length, Door: true, Open: open}
}

func path(a, b int, length int64, closed []api.Win) api.Link {
	return api.Link{A: a, B: b, Len: length, Closed: closed}
}

func net(horizon int64, closed [][]api.Win, links ...api.Link) api.Net {
	return api.Net{Horizon: horizon, Closed: closed, Links: links}
}

// text is a world with things of all kinds, as it is written.
const text = `horizon 60
stop a
stop b
stop c
stop d
path p a b 3
path q d b 1
door e a c 2 from 5 every 10 open 2
door f d a 7 from 0 every 0 open 1
route r a 5 b stay 2 3 c
trip t of r from 1 every 10 until 40
hazard g on q from 4 every 0 closed 3
hazard h on c from 50 every 0 closed 30
hazard i on q from 1 every 20 closed 4
hazard j on c from 0 every 20 closed 1
hazard k on a from 3 every 0 closed 1
`

// whole tells the world of text, and wholeNet its net.
func whole(t *testing.T) api.World {
	t.Helper()
	x, fault := sheet.Parse(text)
	w, wrong := world.Make(x)
	if fault != (api.Fault{}) || wrong != (api.Wrong{}) {
		t.Fatal(fault, wrong)
	}
	return w
}

func wholeNet() api.Net {
	return api.Net{
		Horizon: 60,
		Closed:  rows(row(3, 4), nil, row(0, 1, 20, 21, 40, 41, 50, 80), nil),
		Links: []api.Link{
			{A: 0, B: 2, Len: 2, Door: true, Of: 0, Open: row(5, 7, 15, 17, 25, 27, 35, 37, 45, 47, 55, 57)},
			{A: 3, B: 0, Len: 7, Door: true, Of: 1, Open: row(0, 1)},
			{A: 0, B: 1, Len: 3, Of: 0},
			{A: 1, B: 0, Len: 3, Of: 0},
			{A: 3, B: 1, Len: 1, Of: 1, Closed: row(1, 7, 21, 25, 41, 45)},
			{A: 1, B: 3, Len: 1, Of: 1, Closed: row(1, 7, 21, 25, 41, 45)},
		},
	}
}

// copied tells a copy of x whose lists share no memory, each with so much spare room that is junk; without room, an empty list is nil.
func copied[T any](x T, room int) T {
	var y T
	copyInto(reflect.ValueOf(&y).Elem(), reflect.ValueOf(x), room)
	return y
}

func copyInto(to, from reflect.Value, room int) {
	switch from.Kind() {
	case reflect.Struct:
		for i := range from.NumField() {
			copyInto(to.Field(i), from.Field(i), room)
		}
	case reflect.Slice:
		n := from.Len()
		if n+room == 0 {
			return
		}
		l := reflect.MakeSlice(from.Type(), n+room, n+room)
		for i := range n {
			copyInto(l.Index(i), from.Index(i), room)
		}
		for i := n; i < n+room; i++ {
			junk(l.Index(i))
		}
		to.Set(l.Slice(0, n))
	default:
		to.Set(from)
	}
}

// junk makes v something that is nowhere else; a list in it gets one thing of the like.
func junk(v reflect.Value) {
	switch v.Kind() {
	case reflect.Struct:
		for i := range v.NumField() {
			junk(v.Field(i))
		}
	case reflect.Slice:
		l := reflect.MakeSlice(v.Type(), 1, 1)
		junk(l.Index(0))
		v.Set(l)
	case reflect.String:
		v.SetString("Junk")
	case reflect.Bool:
		v.SetBool(true)
	default:
		v.SetInt(-77)
	}
}

// unfolded tells x with its lists' spare room as a part of them.
func unfolded[T any](x T) T {
	var y T
	unfold(reflect.ValueOf(&y).Elem(), reflect.ValueOf(x))
	return y
}

func unfold(to, from reflect.Value) {
	switch from.Kind() {
	case reflect.Struct:
		for i := range from.NumField() {
			unfold(to.Field(i), from.Field(i))
		}
	case reflect.Slice:
		all := from.Slice(0, from.Cap())
		l := reflect.MakeSlice(from.Type(), all.Len(), all.Len())
		for i := range all.Len() {
			unfold(l.Index(i), all.Index(i))
		}
		to.Set(l)
	default:
		to.Set(from)
	}
}

// alike tells whether all is the same, where a nil list and an empty one are one and the same.
func alike[T any](a, b T) bool {
	return reflect.DeepEqual(copied(a, 0), copied(b, 0))
}

// area is the memory of a list with its spare room.
type area struct {
	path     string
	from, to uintptr
}

func areas(path string, v reflect.Value) []area {
	var l []area
	switch v.Kind() {
	case reflect.Struct:
		for i := range v.NumField() {
			l = append(l, areas(path+"."+v.Type().Field(i).Name, v.Field(i))...)
		}
	case reflect.Slice:
		if v.Cap() > 0 {
			l = append(l, area{path, v.Pointer(), v.Pointer() + uintptr(v.Cap())*v.Type().Elem().Size()})
		}
		for i := range v.Len() {
			l = append(l, areas(path+"["+strconv.Itoa(i)+"]", v.Index(i))...)
		}
	}
	return l
}

// apart checks that no list of the values has memory that another one has.
func apart(t *testing.T, values ...any) {
	t.Helper()
	var all []area
	for i, x := range values {
		all = append(all, areas(strconv.Itoa(i), reflect.ValueOf(x))...)
	}
	slices.SortFunc(all, func(a, b area) int { return cmp.Compare(a.from, b.from) })
	for i := 1; i < len(all); i++ {
		if all[i].from < all[i-1].to {
			t.Errorf("%s and %s share memory", all[i-1].path, all[i].path)
		}
	}
}

func draw(seed *uint64) uint64 {
	*seed = *seed*6364136223846793005 + 1442695040888963407
	return *seed >> 33
}

func upTo(seed *uint64, n int64) int64 { return int64(draw(seed) % uint64(n+1)) }

func pick[T any](seed *uint64, l []T) T { return l[draw(seed)%uint64(len(l))] }

// plainGood holds each window against what chapter 8 asks of a row.
func plainGood(l []api.Win) bool {
	for i, w := range l {
		inside := w.From >= 0 && w.From < w.To && w.To <= 2*top
		apart := i == 0 || w.From > l[i-1].To
		if !inside || !apart {
			return false
		}
	}
	return true
}

// plainCheck tells whether a net may be, by the document's words.
func plainCheck(n api.Net) api.Errno {
	may := n.Horizon >= 0 && n.Horizon <= top && len(n.Closed) <= mostStops && len(n.Links) <= mostLinks
	for _, l := range n.Closed {
		may = may && plainGood(l)
	}
	for _, l := range n.Links {
		may = may && l.A >= 0 && l.A < len(n.Closed) && l.B >= 0 && l.B < len(n.Closed) && l.A != l.B
		may = may && l.Len >= 1 && l.Len <= top
		may = may && plainGood(l.Open) && plainGood(l.Closed)
		may = may && (l.Door && len(l.Closed) == 0 || !l.Door && len(l.Open) == 0)
	}
	if may {
		return api.OK
	}
	return api.ErrArg
}

func has(l []api.Win, x int64) bool {
	return slices.ContainsFunc(l, func(w api.Win) bool { return w.From <= x && x < w.To })
}

// plainOpen tells whether a stop may be left, of a net that may be.
func plainOpen(n api.Net, stop int, t int64) bool {
	return stop >= 0 && stop < len(n.Closed) && t >= 0 && t <= top && !has(n.Closed[stop], t)
}

// plainOut tells the links from a stop, of a net that may be.
func plainOut(n api.Net, stop int) []int {
	var out []int
	for i, l := range n.Links {
		if l.A == stop {
			out = append(out, i)
		}
	}
	return out
}

// plainMay tells whether a link may be taken, of a net that may be.
func plainMay(n api.Net, at int, from int64) bool {
	if at < 0 || at >= len(n.Links) || from < 0 || from > top {
		return false
	}
	l := n.Links[at]
	if from+l.Len > n.Horizon || has(n.Closed[l.A], from) {
		return false
	}
	if l.Door {
		return has(l.Open, from)
	}
	return !slices.ContainsFunc(l.Closed, func(w api.Win) bool { return w.From < from+l.Len && from < w.To })
}

// plainFirst tries all ticks at which a link that might not be taken the tick ahead may be taken, of a net that may be.
func plainFirst(n api.Net, at int, t int64) (int64, int64) {
	if at < 0 || at >= len(n.Links) || t < 0 || t > top {
		return inf, inf
	}
	l := n.Links[at]
	least := inf
	try := func(from int64) {
		if from >= t && from < least && plainMay(n, at, from) {
			least = from
		}
	}
	try(t)
	for _, w := range l.Open {
		try(w.From)
	}
	for _, w := range slices.Concat(n.Closed[l.A], l.Closed) {
		try(w.To)
	}
	if least == inf {
		return inf, inf
	}
	return least, least + l.Len
}

// agrees holds all that may be asked of a net that may be against the plain way, at these ticks.
func agrees(t *testing.T, title string, n api.Net, ticks ...int64) {
	t.Helper()
	if err := link.Check(n); err != api.OK {
		t.Fatalf("%s: Check of %v is %v", title, n, err)
	}
	for _, stop := range numbersTo(len(n.Closed)) {
		if out := link.Out(n, stop); !slices.Equal(out, plainOut(n, stop)) {
			t.Fatalf("%s: Out of %v, %d is %v; it should be %v", title, n, stop, out, plainOut(n, stop))
		}
		for _, x := range ticks {
			if open := link.Open(n, stop, x); open != plainOpen(n, stop, x) {
				t.Fatalf("%s: Open of %v, %d, %d is %v", title, n, stop, x, open)
			}
		}
	}
	for _, at := range numbersTo(len(n.Links)) {
		for _, x := range ticks {
			agreesAt(t, title, n, at, x)
		}
	}
}

// agreesAt holds May and First against the plain way.
func agreesAt(t *testing.T, title string, n api.Net, at int, x int64) {
	t.Helper()
	if may := link.May(n, at, x); may != plainMay(n, at, x) {
		t.Fatalf("%s: May of %v, %d, %d is %v", title, n, at, x, may)
	}
	from, to := link.First(n, at, x)
	wantFrom, wantTo := plainFirst(n, at, x)
	if from != wantFrom || to != wantTo {
		t.Fatalf("%s: First of %v, %d, %d is %d, %d; it should be %d, %d", title, n, at, x, from, to, wantFrom, wantTo)
	}
}

// numbersTo are the numbers below n, and some that are of nothing.
func numbersTo(n int) []int {
	l := []int{math.MinInt, -n, -2, -1, n, n + 1, math.MaxInt}
	for i := range n {
		l = append(l, i)
	}
	return l
}

func ticksTo(n int64) []int64 {
	l := []int64{math.MinInt64, -1, top - 1, top, top + 1, inf, math.MaxInt64}
	for x := range n {
		l = append(l, x)
	}
	return l
}

// refuses checks what is told of a net that may not be, whatever else is asked.
func refuses(t *testing.T, title string, n api.Net) {
	t.Helper()
	if plainCheck(n) != api.ErrArg {
		t.Fatalf("%s: there is nothing wrong", title)
	}
	if err := link.Check(n); err != api.ErrArg {
		t.Errorf("%s: Check is %v", title, err)
	}
	for _, i := range []int{math.MinInt, -1, 0, 1, 2, 3, 4, 5, 6, 255, 2303, math.MaxInt} {
		if out := link.Out(n, i); len(out) > 0 {
			t.Errorf("%s: Out of %d is %v", title, i, out)
		}
		for _, x := range []int64{-1, 0, 1, 5, 6, 15, 30, 60, top, top + 1, inf} {
			if link.Open(n, i, x) || link.May(n, i, x) {
				t.Errorf("%s: Open of %d, %d is %v, May is %v", title, i, x, link.Open(n, i, x), link.May(n, i, x))
			}
			if from, to := link.First(n, i, x); from != inf || to != inf {
				t.Errorf("%s: First of %d, %d is %d, %d", title, i, x, from, to)
			}
		}
	}
}

func TestP11_1CheckOfNetsThatMayBe(t *testing.T) {
	for title, n := range map[string]api.Net{
		"nothing":                            {},
		"nothing, up to 1":                   net(1, nil),
		"nothing, up to MaxTick":             net(top, nil),
		"empty lists":                        {Closed: [][]api.Win{}, Links: []api.Link{}},
		"stops alone":                        net(0, rows(nil, nil)),
		"empty rows":                         net(9, rows([]api.Win{}, []api.Win{}), api.Link{B: 1, Len: 1, Open: []api.Win{}, Closed: []api.Win{}}, api.Link{B: 1, Len: 1, Door: true, Open: []api.Win{}, Closed: []api.Win{}}),
		"a net of a world":                   wholeNet(),
		"a horizon of 0":                     net(0, rows(row(0, 1), nil), path(0, 1, 1, row(0, 2))),
		"a horizon of MaxTick":               net(top, rows(row(0, 2*top), nil), path(0, 1, top, row(top, 2*top))),
		"windows behind the horizon":         net(3, rows(row(4, 9), row(20, 2*top)), door(0, 1, 9, row(5, 7, 9, 11)), path(1, 0, 9, row(4, 5))),
		"Len of 1, and of MaxTick":           net(9, rows(nil, nil), path(0, 1, 1, nil), path(1, 0, top, nil), door(0, 1, 1, nil), door(1, 0, top, nil)),
		"a door that is never open":          net(9, rows(nil, nil), door(0, 1, 1, nil)),
		"doors behind paths":                 net(9, rows(nil, nil), path(0, 1, 1, row(1, 2)), door(0, 1, 1, row(1, 2)), path(1, 0, 1, nil)),
		"a path one way alone":               net(9, rows(nil, nil), path(1, 0, 1, nil)),
		"links that are of nothing":          net(9, rows(nil, nil), api.Link{B: 1, Len: 1, Of: -1}, api.Link{A: 1, Len: 1, Door: true, Of: 256}, api.Link{A: 1, Len: 1, Of: math.MaxInt}, api.Link{A: 1, Len: 1, Of: math.MinInt}),
		"more windows than a thing ever has": net(9999, rows(many(5000, 0), nil), door(0, 1, 1, many(5000, 0)), path(0, 1, 1, many(5000, 1))),
		"as many stops as may be":            net(9, make([][]api.Win, mostStops), path(0, 255, 1, nil), path(255, 0, 1, nil)),
		"as many links as may be":            net(9, rows(nil, nil), slices.Concat(slices.Repeat([]api.Link{door(0, 1, 1, row(0, 1))}, 256), slices.Repeat([]api.Link{path(1, 0, 1, row(0, 1))}, 2048))...),
	} {
		if plainCheck(n) != api.OK {
			t.Fatalf("%s: it should be a net that may be", title)
		}
		if err := link.Check(n); err != api.OK {
			t.Errorf("%s: Check is %v", title, err)
		}
	}
}

// many are n windows of a tick each, the first one at from, with a tick between.
func many(n int, from int64) []api.Win {
	var l []api.Win
	for i := range int64(n) {
		l = append(l, api.Win{From: from + 2*i, To: from + 2*i + 1})
	}
	return l
}

// notGood are rows each of which is wrong in another way.
func notGood() map[string][]api.Win {
	return map[string][]api.Win{
		"touching":                 row(1, 2, 2, 3),
		"overlapping":              row(1, 4, 3, 6),
		"the same":                 row(1, 2, 1, 2),
		"in another order":         row(5, 7, 1, 3),
		"empty":                    row(3, 3),
		"empty behind a good one":  row(1, 2, 5, 5),
		"turned about":             row(4, 3),
		"from below 0":             row(-1, 2),
		"wholly below 0":           row(-5, -2),
		"beyond 2 MaxTick":         row(1, 2*top+1),
		"beyond 2 MaxTick, behind": row(1, 2, 5, 2*top+1),
		"all numbers":              row(math.MinInt64, math.MaxInt64),
		"the zero window":          row(0, 0),
	}
}

// wrongNets are nets with one thing wrong, by what it is.
func wrongNets() map[string]api.Net {
	l := map[string]api.Net{}
	spoil := func(title string, change func(n *api.Net)) {
		n := wholeNet()
		change(&n)
		l[title] = n
	}
	for _, x := range []int64{math.MinInt64, -inf, -1, top + 1, 2 * top, inf, math.MaxInt64} {
		spoil("a horizon of "+strconv.FormatInt(x, 10), func(n *api.Net) { n.Horizon = x })
	}
	spoil("a stop too many", func(n *api.Net) { n.Closed = append(n.Closed, make([][]api.Win, 253)...) })
	spoil("a link too many", func(n *api.Net) { n.Links = slices.Repeat(n.Links, 385)[:mostLinks+1] })
	spoil("a door too many", func(n *api.Net) { n.Links = slices.Repeat(n.Links[:1], mostLinks+1) })
	spoil("a path too many", func(n *api.Net) { n.Links = slices.Repeat(n.Links[2:3], mostLinks+1) })
	spoil("no stops", func(n *api.Net) { n.Closed = nil })
	spoil("a stop too few", func(n *api.Net) { n.Closed = n.Closed[:3] })
	for name, bad := range notGood() {
		for _, at := range []int{0, 2, 3} {
			spoil("stop "+strconv.Itoa(at)+", "+name, func(n *api.Net) { n.Closed[at] = bad })
		}
		for _, at := range []int{0, 1} {
			spoil("door "+strconv.Itoa(at)+", "+name, func(n *api.Net) { n.Links[at].Open = bad })
			spoil("what a door has closed "+strconv.Itoa(at)+", "+name, func(n *api.Net) { n.Links[at].Closed = bad })
		}
		for _, at := range []int{2, 5} {
			spoil("path "+strconv.Itoa(at)+", "+name, func(n *api.Net) { n.Links[at].Closed = bad })
			spoil("what a path has open "+strconv.Itoa(at)+", "+name, func(n *api.Net) { n.Links[at].Open = bad })
		}
	}
	for _, at := range []int{0, 1, 2, 5} {
		title := "link " + strconv.Itoa(at)
		for _, stop := range []int{math.MinInt, -4, -1, 4, 5, 256, math.MaxInt} {
			spoil(title+" from "+strconv.Itoa(stop), func(n *api.Net) { n.Links[at].A = stop })
			spoil(title+" to "+strconv.Itoa(stop), func(n *api.Net) { n.Links[at].B = stop })
		}
		spoil(title+" to where it begins", func(n *api.Net) { n.Links[at].B = n.Links[at].A })
		spoil(title+" from where it ends", func(n *api.Net) { n.Links[at].A = n.Links[at].B })
		for _, x := range []int64{math.MinInt64, -top, -1, 0, top + 1, 2 * top, inf, math.MaxInt64} {
			spoil(title+" of Len "+strconv.FormatInt(x, 10), func(n *api.Net) { n.Links[at].Len = x })
		}
		spoil(title+" with windows of both kinds", func(n *api.Net) { n.Links[at].Open, n.Links[at].Closed = row(5, 7), row(5, 7) })
		spoil(title+" turned to the other kind", func(n *api.Net) {
			n.Links[at].Door, n.Links[at].Open, n.Links[at].Closed = !n.Links[at].Door, row(5, 7), nil
			if n.Links[at].Door {
				n.Links[at].Open, n.Links[at].Closed = nil, row(5, 7)
			}
		})
	}
	for _, at := range []int{0, 1} {
		spoil("a door "+strconv.Itoa(at)+" with something in Closed", func(n *api.Net) { n.Links[at].Closed = row(5, 7) })
	}
	for _, at := range []int{2, 3, 4, 5} {
		spoil("a path "+strconv.Itoa(at)+" with something in Open", func(n *api.Net) { n.Links[at].Open = row(5, 7) })
	}
	return l
}

func TestP11_1NetsThatMayNotBe(t *testing.T) {
	for title, n := range wrongNets() {
		refuses(t, title, n)
	}
}

func TestP11_1CheckOfAsManyAsMayBe(t *testing.T) {
	for _, c := range []struct {
		stops, doors, paths int
		want                api.Errno
	}{
		{255, 0, 0, api.OK}, {256, 0, 0, api.OK}, {257, 0, 0, api.ErrArg}, {1 << 12, 0, 0, api.ErrArg},
		{2, 256, 2047, api.OK}, {2, 256, 2048, api.OK}, {2, 256, 2049, api.ErrArg}, {2, 257, 2048, api.ErrArg},
		{256, 256, 2048, api.OK}, {257, 256, 2048, api.ErrArg}, {256, 255, 2048, api.OK}, {256, 0, 2305, api.ErrArg}, {256, 2305, 0, api.ErrArg},
		{2, 2048, 256, api.OK}, {2, 2304, 0, api.OK}, {2, 0, 2304, api.OK},
	} {
		n := net(9, make([][]api.Win, c.stops))
		for i := range c.doors {
			n.Links = append(n.Links, door(i%2, 1-i%2, 1, row(0, 1)))
		}
		for i := range c.paths {
			n.Links = append(n.Links, path(i%2, 1-i%2, 1, row(0, 1)))
		}
		if plainCheck(n) != c.want || link.Check(n) != c.want {
			t.Errorf("Check of %d stops, %d doors and %d paths is %v; it should be %v", c.stops, c.doors, c.paths, link.Check(n), c.want)
		}
		if c.want != api.OK {
			refuses(t, "too many", n)
		}
	}
}

// TestP11_1CheckByEachNumber puts all numbers in the place of each one of a small net.
func TestP11_1CheckByEachNumber(t *testing.T) {
	for _, x := range edges {
		for _, y := range edges {
			for _, n := range []api.Net{
				net(x, rows(row(1, 2), nil), door(0, 1, y, row(3, 5)), path(1, 0, 2, nil)),
				net(9, rows(nil, row(x, y)), door(0, 1, 2, row(3, 5)), path(1, 0, 2, row(1, 3))),
				net(9, rows(nil, nil), door(0, 1, 2, row(x, y)), path(1, 0, 2, nil)),
				net(9, rows(nil, nil), door(0, 1, 2, row(1, 2)), path(1, 0, 2, row(x, y))),
				net(9, rows(nil, nil, nil), door(0, 1, 2, nil), path(int(x), int(y), 2, nil)),
				net(9, rows(nil, nil, nil), door(int(x), int(y), 2, row(3, 5)), path(1, 0, 2, nil)),
				net(9, rows(nil, nil, nil), door(0, 1, x, nil), path(0, 1, y, nil)),
			} {
				if got := link.Check(n); got != plainCheck(n) {
					t.Errorf("Check of %v is %v; it should be %v", n, got, plainCheck(n))
				}
			}
		}
	}
}

func TestP11_1Open(t *testing.T) {
	n := net(30, rows(row(4, 16, 20, 21), nil, row(0, 1, top-2, top), row(top, 2*top)), path(0, 1, 1, nil))
	open := func(stop int, x int64, want bool) {
		t.Helper()
		if link.Open(n, stop, x) != want {
			t.Errorf("Open of %d at %d is %v", stop, x, !want)
		}
	}
	for x, want := range map[int64]bool{0: true, 3: true, 4: false, 5: false, 15: false, 16: true, 17: true, 19: true, 20: false, 21: true, 30: true, 31: true, top: true} {
		open(0, x, want)
	}
	for x, want := range map[int64]bool{0: false, 1: true, 2: true, top - 3: true, top - 2: false, top - 1: false, top: true} {
		open(2, x, want)
	}
	for x, want := range map[int64]bool{0: true, top - 1: true, top: false} {
		open(3, x, want)
	}
	for _, x := range edges {
		open(1, x, x >= 0 && x <= top)
		for _, stop := range []int{math.MinInt, -4, -1, 4, 5, 256, math.MaxInt} {
			open(stop, x, false)
		}
		for stop := range 4 {
			if x < 0 || x > top {
				open(stop, x, false)
			}
		}
	}
	agrees(t, "a net with closed stops", n, append(ticksTo(40), edges...)...)
}

func TestP11_1Out(t *testing.T) {
	n := net(30, rows(nil, nil, row(0, 9), nil), door(2, 0, 1, nil), path(0, 1, 1, nil), path(1, 0, 1, nil), path(2, 1, 40, nil), path(0, 2, 1, row(0, 9)), path(2, 1, 1, nil))
	for stop, want := range map[int][]int{0: {1, 4}, 1: {2}, 2: {0, 3, 5}, 3: nil, 4: nil, -1: nil, 256: nil, math.MinInt: nil, math.MaxInt: nil} {
		if out := link.Out(n, stop); !slices.Equal(out, want) {
			t.Errorf("Out of %d is %v; it should be %v", stop, out, want)
		}
	}
	for _, n := range []api.Net{{}, net(9, rows(nil, nil))} {
		for _, stop := range numbersTo(len(n.Closed)) {
			if out := link.Out(n, stop); len(out) > 0 {
				t.Errorf("Out of %v, %d is %v", n, stop, out)
			}
		}
	}
}

// TestWhatIsAnsweredIsNewMemory holds for each answer that has a list.
func TestWhatIsAnsweredIsNewMemory(t *testing.T) {
	for _, w := range []api.World{whole(t), crowded(), greatest()} {
		for _, room := range []int{0, 2} {
			in := copied(w, room)
			one, _ := link.Make(in)
			other, _ := link.Make(in)
			out := link.Out(one, 0)
			again := link.Out(one, 0)
			apart(t, in, one, other, out, again)
		}
	}
}

func TestWhatIsHandedInStays(t *testing.T) {
	for title, n := range wrongNets() {
		roomy := copied(n, 2)
		before := unfolded(roomy)
		refuses(t, title+", with spare room", roomy)
		if !reflect.DeepEqual(unfolded(roomy), before) {
			t.Errorf("%s: a net that is handed in is changed", title)
		}
	}
	roomy := copied(wholeNet(), 2)
	before := unfolded(roomy)
	agrees(t, "with spare room", roomy, ticksTo(70)...)
	if !reflect.DeepEqual(unfolded(roomy), before) {
		t.Error("a net that is handed in is changed")
	}
	for title, w := range map[string]api.World{"a whole world": whole(t), "a crowded world": crowded(), "nothing": {}} {
		roomy := copied(w, 2)
		before := unfolded(roomy)
		n, err := link.Make(roomy)
		if err != api.OK || !alike(n, plainMake(w)) {
			t.Errorf("%s: spare room is read: %v, %v", title, n, err)
		}
		if !reflect.DeepEqual(unfolded(roomy), before) {
			t.Errorf("%s: a world that is handed in is changed", title)
		}
	}
}

func TestAnAnswerStaysWhenWhatWasHandedInIsChanged(t *testing.T) {
	w := whole(t)
	n, _ := link.Make(w)
	for i := range w.Hazards {
		w.Hazards[i] = api.HazardOf{On: 1, Times: api.Times{From: 9, Len: 9}}
	}
	for i := range w.Doors {
		w.Doors[i] = api.DoorOf{A: 3, B: 2, Len: 9}
	}
	for i := range w.Paths {
		w.Paths[i] = api.PathOf{A: 3, B: 2, Len: 9}
	}
	if !alike(n, wholeNet()) {
		t.Error(n)
	}
	out := link.Out(n, 0)
	n.Links[0].A, n.Links[2].A = 1, 3
	if !slices.Equal(out, []int{0, 2}) {
		t.Error(out)
	}
	out[0] = -7
	n.Closed[0][0], n.Links[4].Closed[0] = api.Win{}, api.Win{}
	again, err := link.Make(whole(t))
	if err != api.OK || !alike(again, wholeNet()) {
		t.Error(again, err)
	}
}

// drawnRow is a good row of a few windows, up to about end.
func drawnRow(seed *uint64, end int64) []api.Win {
	var l []api.Win
	at := upTo(seed, 8) - 2
	for at < end && draw(seed)%5 > 0 {
		w := api.Win{From: max(at, 0), To: max(at, 0) + 1 + upTo(seed, 7)}
		l = append(l, w)
		at = w.To + 1 + upTo(seed, 9)
	}
	return l
}

// drawnNet is one that may be, with a few stops and links.
func drawnNet(seed *uint64) api.Net {
	n := api.Net{Horizon: upTo(seed, 50)}
	for range 2 + upTo(seed, 3) {
		n.Closed = append(n.Closed, drawnRow(seed, 50))
	}
	for i := range int(upTo(seed, 6)) {
		l := api.Link{A: int(upTo(seed, int64(len(n.Closed)-1))), Len: 1 + upTo(seed, 9), Door: draw(seed)%2 == 0, Of: i}
		l.B = (l.A + 1 + int(upTo(seed, int64(len(n.Closed)-2)))) % len(n.Closed)
		if l.Door {
			l.Open = drawnRow(seed, 50)
		} else {
			l.Closed = drawnRow(seed, 50)
		}
		n.Links = append(n.Links, l)
	}
	return n
}

// TestNothingPanics asks all that may be asked, with numbers from everywhere.
func TestNothingPanics(t *testing.T) {
	seed := uint64(11)
	numbers := append([]int64{4, 5, 6, 8, 9, 10, 20, 30}, edges...)
	may := 0
	for range 20000 {
		n := drawnNet(&seed)
		if len(n.Links) == 0 {
			continue
		}
		l := &n.Links[draw(&seed)%uint64(len(n.Links))]
		for range draw(&seed) % 3 {
			switch draw(&seed) % 8 {
			case 0:
				n.Horizon = pick(&seed, numbers)
			case 1:
				l.A = int(pick(&seed, numbers))
			case 2:
				l.B = int(pick(&seed, numbers))
			case 3:
				l.Len = pick(&seed, numbers)
			case 4:
				l.Door = !l.Door
			case 5:
				l.Open = append(l.Open, api.Win{From: pick(&seed, numbers), To: pick(&seed, numbers)})
			case 6:
				l.Closed = append(l.Closed, api.Win{From: pick(&seed, numbers), To: pick(&seed, numbers)})
			case 7:
				n.Closed[0] = append(n.Closed[0], api.Win{From: pick(&seed, numbers), To: pick(&seed, numbers)})
			}
		}
		if plainCheck(n) == api.OK {
			may++
			agrees(t, "a drawn net with other numbers", n, pick(&seed, numbers), pick(&seed, numbers), pick(&seed, numbers))
		} else {
			refuses(t, "a drawn net with other numbers", n)
		}
	}
	if may < 5000 {
		t.Errorf("too few that may be: %d", may)
	}
}
