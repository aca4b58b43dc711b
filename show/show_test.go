package show_test

import (
	"maps"
	"math"
	"math/big"
	"reflect"
	"slices"
	"strconv"
	"strings"
	"testing"

	"timetable/api"
	"timetable/sheet"
	"timetable/show"
)

const (
	top       = int64(1) << 40
	never     = int64(1) << 62
	mostStops = 32 // of a route
	longest   = 24
	textBytes = 1 << 16
)

var (
	goodNames = []string{"a", "b", "r", "t1", "a-b_2", "stops", "inf", "a-", "z_", strings.Repeat("z", longest)}
	oddNames  = []string{"", "A", "7", "open", "stay", "-a", "a b", " ", "a\n", "\t", "#x", "é", "\xff", "\x00", strings.Repeat("a", longest+1), strings.Repeat("b", 1<<12)}
	good      = []int64{0, 1, 9, 10, 99, 100, 12345, top - 1, top}
	odd       = []int64{-1, -9, -10, -12345, -top, top + 1, never - 1, never, never + 1, -never, math.MaxInt64, math.MinInt64, math.MinInt64 + 1}
)

// dec tells the decimal digits of n.
func dec(n int64) string {
	return big.NewInt(n).String()
}

// draw tells one number after the other, always the same ones.
func draw(seed *uint64) uint64 {
	*seed ^= *seed << 13
	*seed ^= *seed >> 7
	*seed ^= *seed << 17
	return *seed
}

func pick[T any](seed *uint64, l []T) T {
	return l[draw(seed)%uint64(len(l))]
}

// wholeText is the text of wholeSheet, written out.
const wholeText = `horizon 40
stop a
stop b
path p a b 3
path q b a 0
door d a b 2 from 1 every 9 open 4
door e b b 10 from 100 every 0 open 1099511627776
route r a 5 b stay 2 3 a 6 c
route s b 7 a
trip t of r from 1 every 10 until 30
trip u of s from 0 every 0 until 0
hazard h on p from 4 every 0 closed 5
hazard i on a from 12 every 345 closed 6789
`

func wholeSheet() api.Sheet {
	return api.Sheet{
		Horizon: 40,
		Stops:   []string{"a", "b"},
		Paths:   []api.Path{{Name: "p", A: "a", B: "b", Len: 3}, {Name: "q", A: "b", B: "a"}},
		Doors: []api.Door{
			{Name: "d", A: "a", B: "b", Len: 2, Times: api.Times{From: 1, Every: 9, Len: 4}},
			{Name: "e", A: "b", B: "b", Len: 10, Times: api.Times{From: 100, Len: top}},
		},
		Routes: []api.Route{
			{Name: "r", Stops: []string{"a", "b", "a", "c"}, Rides: []int64{5, 3, 6}, Stays: []int64{2, 0}},
			{Name: "s", Stops: []string{"b", "a"}, Rides: []int64{7}},
		},
		Trips: []api.Trip{
			{Name: "t", Route: "r", From: 1, Every: 10, Until: 30},
			{Name: "u", Route: "s"},
		},
		Hazards: []api.Hazard{
			{Name: "h", On: "p", Times: api.Times{From: 4, Len: 5}},
			{Name: "i", On: "a", Times: api.Times{From: 12, Every: 345, Len: 6789}},
		},
	}
}

// deep tells a copy that shares no memory.
func deep(x api.Sheet) api.Sheet {
	x.Stops, x.Paths, x.Doors = slices.Clone(x.Stops), slices.Clone(x.Paths), slices.Clone(x.Doors)
	x.Routes, x.Trips, x.Hazards = slices.Clone(x.Routes), slices.Clone(x.Trips), slices.Clone(x.Hazards)
	for i, r := range x.Routes {
		x.Routes[i] = deepRoute(r)
	}
	return x
}

func deepRoute(r api.Route) api.Route {
	r.Stops, r.Rides, r.Stays = slices.Clone(r.Stops), slices.Clone(r.Rides), slices.Clone(r.Stays)
	return r
}

// fill tells a form with its great words changed, one by one, into those handed in.
func fill(form string, words ...string) string {
	l := strings.Split(form, " ")
	for i, w := range l {
		if w == strings.ToUpper(w) {
			l[i], words = words[0], words[1:]
		}
	}
	return strings.Join(l, " ")
}

func pathLine(p api.Path) string {
	return fill("path NAME A B N", p.Name, p.A, p.B, dec(p.Len))
}

func doorLine(d api.Door) string {
	return fill("door NAME A B N from N every N open N", d.Name, d.A, d.B, dec(d.Len), dec(d.Times.From), dec(d.Times.Every), dec(d.Times.Len))
}

func tripLine(t api.Trip) string {
	return fill("trip NAME of ROUTE from N every N until N", t.Name, t.Route, dec(t.From), dec(t.Every), dec(t.Until))
}

func hazardLine(h api.Hazard) string {
	return fill("hazard NAME on NAME from N every N closed N", h.Name, h.On, dec(h.Times.From), dec(h.Times.Every), dec(h.Times.Len))
}

// routeLine tells a route's line by what each stop has ahead of it and behind it.
func routeLine(r api.Route) string {
	s := "route " + r.Name
	rides, stays := r.Rides, r.Stays
	for i, stop := range r.Stops {
		if i == 0 {
			s += " " + stop
			continue
		}
		if len(rides) > 0 {
			s += " " + dec(rides[0])
			rides = rides[1:]
		}
		s += " " + stop
		if len(stays) > 0 {
			if stays[0] > 0 {
				s += " stay " + dec(stays[0])
			}
			stays = stays[1:]
		}
	}
	return s
}

// linesOf tells the lines of a sheet, whatever it has.
func linesOf(x api.Sheet) []string {
	l := []string{"horizon " + dec(x.Horizon)}
	for _, s := range x.Stops {
		l = append(l, "stop "+s)
	}
	for _, p := range x.Paths {
		l = append(l, pathLine(p))
	}
	for _, d := range x.Doors {
		l = append(l, doorLine(d))
	}
	for _, r := range x.Routes {
		l = append(l, routeLine(r))
	}
	for _, t := range x.Trips {
		l = append(l, tripLine(t))
	}
	for _, h := range x.Hazards {
		l = append(l, hazardLine(h))
	}
	return l
}

func same(t *testing.T, what, got, want string) {
	t.Helper()
	if got != want {
		t.Errorf("%s: %q; it should be %q", what, short(got), short(want))
	}
}

// short tells a text that may be long.
func short(s string) string {
	if len(s) > 400 {
		return s[:200] + ".." + s[len(s)-200:]
	}
	return s
}

// tells checks that Lines and Text tell just these lines, and that the sheet stays as it is.
func tells(t *testing.T, what string, x api.Sheet, want []string) {
	t.Helper()
	kept := deep(x)
	lines, err := show.Lines(x)
	if err != api.OK || !slices.Equal(lines, want) {
		t.Errorf("%s: Lines are %q, %d; they should be %q", what, lines, err, want)
	}
	text, err := show.Text(x)
	if err != api.OK || text != strings.Join(want, "\n")+"\n" {
		t.Errorf("%s: Text is %q, %d; its lines should be %q", what, short(text), err, want)
	}
	if !reflect.DeepEqual(x, kept) {
		t.Errorf("%s: it was changed", what)
	}
}

// refuses checks that Lines and Text tell this error, and nothing besides.
func refuses(t *testing.T, what string, x api.Sheet, want api.Errno) {
	t.Helper()
	kept := deep(x)
	if lines, err := show.Lines(x); err != want || len(lines) != 0 {
		t.Errorf("%s: Lines are %q, %d; the error should be %d", what, lines, err, want)
	}
	if text, err := show.Text(x); err != want || text != "" {
		t.Errorf("%s: Text is %q, %d; the error should be %d", what, short(text), err, want)
	}
	if !reflect.DeepEqual(x, kept) {
		t.Errorf("%s: it was changed", what)
	}
}

func TestExamples(t *testing.T) {
	d := api.Door{Name: "d", A: "a", B: "b", Len: 3, Times: api.Times{From: 5, Every: 10, Len: 2}}
	same(t, "Door", show.Door(d), "door d a b 3 from 5 every 10 open 2")
	r := api.Route{Name: "r", Stops: []string{"a", "b", "c"}, Rides: []int64{5, 3}, Stays: []int64{2}}
	same(t, "Route", show.Route(r), "route r a 5 b stay 2 3 c")
}

func TestP6_1EachKindsLine(t *testing.T) {
	same(t, "Path", show.Path(api.Path{Name: "p", A: "a", B: "b", Len: 4}), "path p a b 4")
	same(t, "Door", show.Door(api.Door{Name: "d", A: "b", B: "c", Len: 1, Times: api.Times{From: 2, Every: 3, Len: 4}}), "door d b c 1 from 2 every 3 open 4")
	same(t, "Route", show.Route(api.Route{Name: "r", Stops: []string{"a", "b"}, Rides: []int64{5}}), "route r a 5 b")
	same(t, "Trip", show.Trip(api.Trip{Name: "t", Route: "r", From: 1, Every: 10, Until: 40}), "trip t of r from 1 every 10 until 40")
	same(t, "Hazard", show.Hazard(api.Hazard{Name: "h", On: "b", Times: api.Times{From: 1, Every: 2, Len: 9}}), "hazard h on b from 1 every 2 closed 9")
}

func TestP6_1ThingsOfNothing(t *testing.T) {
	same(t, "Path", show.Path(api.Path{Name: "p", A: "a", B: "a"}), "path p a a 0")
	same(t, "Door", show.Door(api.Door{Name: "d", A: "a", B: "a"}), "door d a a 0 from 0 every 0 open 0")
	same(t, "Trip", show.Trip(api.Trip{Name: "t", Route: "r"}), "trip t of r from 0 every 0 until 0")
	same(t, "Hazard", show.Hazard(api.Hazard{Name: "h", On: "a"}), "hazard h on a from 0 every 0 closed 0")
	same(t, "Route", show.Route(api.Route{Name: "r"}), "route r")
}

// An empty name is told as a word of no bytes, with the blanks that stand about a word.
func TestP6_1EmptyNames(t *testing.T) {
	same(t, "Path", show.Path(api.Path{}), "path    0")
	same(t, "Door", show.Door(api.Door{}), "door    0 from 0 every 0 open 0")
	same(t, "Route", show.Route(api.Route{}), "route ")
	same(t, "Route", show.Route(api.Route{Stops: []string{"", ""}, Rides: []int64{0}}), "route   0 ")
	same(t, "Trip", show.Trip(api.Trip{}), "trip  of  from 0 every 0 until 0")
	same(t, "Hazard", show.Hazard(api.Hazard{}), "hazard  on  from 0 every 0 closed 0")
}

func TestP6_1Digits(t *testing.T) {
	for n, want := range map[int64]string{
		0: "0", 7: "7", 10: "10", 1234567: "1234567", top: "1099511627776", top + 1: "1099511627777",
		never: "4611686018427387904", math.MaxInt64: "9223372036854775807",
		-1: "-1", -10: "-10", -never: "-4611686018427387904", math.MinInt64: "-9223372036854775808",
	} {
		same(t, "Path", show.Path(api.Path{Name: "p", A: "a", B: "b", Len: n}), "path p a b "+want)
		same(t, "Route", show.Route(api.Route{Name: "r", Stops: []string{"a", "b"}, Rides: []int64{n}}), "route r a "+want+" b")
		same(t, "Trip", show.Trip(api.Trip{Name: "t", Route: "r", Every: n}), "trip t of r from 0 every "+want+" until 0")
		same(t, "Door", show.Door(api.Door{Name: "d", A: "a", B: "b", Times: api.Times{Len: n}}), "door d a b 0 from 0 every 0 open "+want)
		same(t, "Hazard", show.Hazard(api.Hazard{Name: "h", On: "a", Times: api.Times{From: n}}), "hazard h on a from "+want+" every 0 closed 0")
	}
}

// hold checks the line of one thing of each kind against the plain one.
func hold(t *testing.T, p api.Path, d api.Door, trip api.Trip, h api.Hazard) {
	t.Helper()
	same(t, "Path", show.Path(p), pathLine(p))
	same(t, "Door", show.Door(d), doorLine(d))
	same(t, "Trip", show.Trip(trip), tripLine(trip))
	same(t, "Hazard", show.Hazard(h), hazardLine(h))
}

func TestP6_1WhateverAThingHas(t *testing.T) {
	names, numbers := slices.Concat(goodNames, oddNames), slices.Concat(good, odd)
	seed := uint64(61)
	for range 5000 {
		name := func() string { return pick(&seed, names) }
		number := func() int64 {
			if draw(&seed)%2 == 0 {
				return int64(draw(&seed)) >> (draw(&seed) % 64)
			}
			return pick(&seed, numbers)
		}
		times := func() api.Times { return api.Times{From: number(), Every: number(), Len: number()} }
		hold(t,
			api.Path{Name: name(), A: name(), B: name(), Len: number()},
			api.Door{Name: name(), A: name(), B: name(), Len: number(), Times: times()},
			api.Trip{Name: name(), Route: name(), From: number(), Every: number(), Until: number()},
			api.Hazard{Name: name(), On: name(), Times: times()},
		)
	}
}

func TestP6_1RoutesOfUnlikeCounts(t *testing.T) {
	for want, r := range map[string]api.Route{
		"route r":                       {Name: "r", Rides: []int64{5}, Stays: []int64{2}},
		"route r a":                     {Name: "r", Stops: []string{"a"}, Rides: []int64{5, 6}, Stays: []int64{2, 3}},
		"route r a b":                   {Name: "r", Stops: []string{"a", "b"}},
		"route r a b stay 2":            {Name: "r", Stops: []string{"a", "b"}, Stays: []int64{2}},
		"route r a 5 b stay 2":          {Name: "r", Stops: []string{"a", "b"}, Rides: []int64{5, 6}, Stays: []int64{2, 3}},
		"route r a 5 b c":               {Name: "r", Stops: []string{"a", "b", "c"}, Rides: []int64{5}},
		"route r a 5 b stay 2 c stay 3": {Name: "r", Stops: []string{"a", "b", "c"}, Rides: []int64{5}, Stays: []int64{2, 3}},
		"route r a 5 b 3 c 6 d":         {Name: "r", Stops: []string{"a", "b", "c", "d"}, Rides: []int64{5, 3, 6}},
		"route r a 5 b 3 c stay 4 6 d":  {Name: "r", Stops: []string{"a", "b", "c", "d"}, Rides: []int64{5, 3, 6}, Stays: []int64{0, 4}},
		"route r a 0 a -1 a":            {Name: "r", Stops: []string{"a", "a", "a"}, Rides: []int64{0, -1}, Stays: []int64{-2}},
	} {
		same(t, "Route", show.Route(r), want)
	}
}

// numbersOf tells all lists of up to so many numbers, each of a few.
func numbersOf(most int, few ...int64) [][]int64 {
	all := [][]int64{nil}
	for from := 0; most > 0; most-- {
		to := len(all)
		for _, l := range all[from:to] {
			for _, n := range few {
				all = append(all, append(slices.Clone(l), n))
			}
		}
		from = to
	}
	return all
}

func TestP6_1RoutesOfAllCounts(t *testing.T) {
	stops := []string{"a", "b-1", "a", "", "open"}
	for n := range len(stops) + 1 {
		for _, rides := range numbersOf(5, 0, 31, -4)[:150] {
			for _, stays := range numbersOf(4, 0, 7, -12) {
				r := api.Route{Name: "r", Stops: stops[:n], Rides: rides, Stays: stays}
				same(t, "Route", show.Route(r), routeLine(r))
			}
		}
	}
	seed := uint64(62)
	for range 3000 {
		r := api.Route{Name: pick(&seed, oddNames)}
		for range draw(&seed) % 40 {
			r.Stops = append(r.Stops, pick(&seed, goodNames))
		}
		for range draw(&seed) % 40 {
			r.Rides = append(r.Rides, pick(&seed, odd))
		}
		for range draw(&seed) % 40 {
			r.Stays = append(r.Stays, pick(&seed, slices.Concat(good, odd)))
		}
		same(t, "Route", show.Route(r), routeLine(r))
	}
}

func TestP6_1Stays(t *testing.T) {
	for _, n := range slices.Concat(good, odd) {
		want := "route r a 5 b 3 c"
		if n > 0 {
			want = "route r a 5 b stay " + dec(n) + " 3 c"
		}
		r := api.Route{Name: "r", Stops: []string{"a", "b", "c"}, Rides: []int64{5, 3}, Stays: []int64{n}}
		same(t, "Route", show.Route(r), want)
	}
}

func TestP6_1LongRoutes(t *testing.T) {
	for _, n := range []int{mostStops, mostStops + 1, 1 << 11} {
		r := longRoute(n)
		same(t, "Route", show.Route(r), routeLine(r))
	}
}

func longRoute(n int) api.Route {
	r := api.Route{Name: "r"}
	for i := range n {
		r.Stops = append(r.Stops, "s"+strconv.Itoa(i))
		if i > 0 {
			r.Rides = append(r.Rides, int64(100+i))
		}
		if i > 1 {
			r.Stays = append(r.Stays, int64(i%3))
		}
	}
	return r
}

func TestP6_1LinesAndTextOfAWholeSheet(t *testing.T) {
	tells(t, "whole", wholeSheet(), strings.Split(strings.TrimSuffix(wholeText, "\n"), "\n"))
	if text, err := show.Text(wholeSheet()); err != api.OK || text != wholeText {
		t.Errorf("%q, %d", text, err)
	}
}

func TestP6_1SheetsOfNoThings(t *testing.T) {
	none := api.Sheet{Stops: []string{}, Paths: []api.Path{}, Doors: []api.Door{}, Routes: []api.Route{}, Trips: []api.Trip{}, Hazards: []api.Hazard{}}
	tells(t, "nothing", api.Sheet{}, []string{"horizon 0"})
	tells(t, "empty lists", none, []string{"horizon 0"})
	tells(t, "a horizon", api.Sheet{Horizon: 30}, []string{"horizon 30"})
	tells(t, "the last horizon", api.Sheet{Horizon: top}, []string{"horizon 1099511627776"})
	tells(t, "stays that are none", api.Sheet{Routes: []api.Route{{Name: "r", Stops: []string{"a", "b"}, Rides: []int64{5}, Stays: []int64{}}}}, []string{"horizon 0", "route r a 5 b"})
}

// kinds of things: how many there may be, and how a sheet comes to have so many of them, no two alike where that can be.
var kinds = []struct {
	name string
	most int
	grow func(x *api.Sheet, n int)
}{
	{"stop", 256, func(x *api.Sheet, n int) { x.Stops = grown(n, func(i int) string { return nameOf(i) }) }},
	{"path", 1024, func(x *api.Sheet, n int) {
		x.Paths = grown(n, func(i int) api.Path { return api.Path{Name: nameOf(i), A: "a", B: "b", Len: int64(i)} })
	}},
	{"door", 256, func(x *api.Sheet, n int) {
		x.Doors = grown(n, func(i int) api.Door { return api.Door{Name: nameOf(i), A: "a", B: "b", Len: int64(i)} })
	}},
	{"route", 256, func(x *api.Sheet, n int) {
		x.Routes = grown(n, func(i int) api.Route {
			return api.Route{Name: nameOf(i), Stops: []string{"a", "b"}, Rides: []int64{int64(i)}}
		})
	}},
	{"trip", 1024, func(x *api.Sheet, n int) {
		x.Trips = grown(n, func(i int) api.Trip { return api.Trip{Name: nameOf(i), Route: "r", From: int64(i)} })
	}},
	{"hazard", 256, func(x *api.Sheet, n int) {
		x.Hazards = grown(n, func(i int) api.Hazard {
			return api.Hazard{Name: nameOf(i), On: "a", Times: api.Times{Every: int64(i)}}
		})
	}},
}

func grown[T any](n int, make func(int) T) []T {
	var l []T
	for i := range n {
		l = append(l, make(i))
	}
	return l
}

func nameOf(i int) string {
	return "x" + strconv.Itoa(i*7919%10007)
}

func TestP6_1SheetsOfOneKind(t *testing.T) {
	for _, k := range kinds {
		for _, n := range []int{1, 2, 3, k.most - 1, k.most} {
			x := api.Sheet{Horizon: int64(n)}
			k.grow(&x, n)
			if len(linesOf(x)) != n+1 {
				t.Fatalf("%s: %d lines", k.name, len(linesOf(x)))
			}
			tells(t, k.name+" "+strconv.Itoa(n), x, linesOf(x))
		}
	}
}

func TestP6_1SheetsOfAsManyThingsAsMayBe(t *testing.T) {
	x := wholeSheet()
	for _, k := range kinds {
		k.grow(&x, k.most)
	}
	tells(t, "most of all kinds", x, linesOf(x))
	for i := range x.Routes {
		x.Routes[i] = longRoute(mostStops)
	}
	tells(t, "most of all kinds, and of stops", x, linesOf(x))
	for _, k := range kinds {
		y := deep(x)
		k.grow(&y, k.most+1)
		refuses(t, k.name+": one too many", y, api.ErrLong)
	}
}

func TestP6_1TheOrderOfLines(t *testing.T) {
	// Each kind's things in the order in which they stand, like ones too.
	x := api.Sheet{
		Stops:   []string{"c", "a", "b", "a"},
		Paths:   []api.Path{{Name: "z", A: "a", B: "b", Len: 9}, {Name: "a", A: "a", B: "b"}, {Name: "z", A: "a", B: "b", Len: 9}},
		Doors:   []api.Door{{Name: "z", A: "a", B: "b"}, {Name: "a", A: "a", B: "b"}},
		Routes:  []api.Route{{Name: "z", Stops: []string{"b", "a"}, Rides: []int64{1}}, {Name: "a", Stops: []string{"a", "b"}, Rides: []int64{1}}},
		Trips:   []api.Trip{{Name: "z", Route: "r", From: 9}, {Name: "a", Route: "r", From: 1}},
		Hazards: []api.Hazard{{Name: "z", On: "a"}, {Name: "a", On: "a"}},
	}
	tells(t, "in order", x, []string{
		"horizon 0",
		"stop c", "stop a", "stop b", "stop a",
		"path z a b 9", "path a a b 0", "path z a b 9",
		"door z a b 0 from 0 every 0 open 0", "door a a b 0 from 0 every 0 open 0",
		"route z b 1 a", "route a a 1 b",
		"trip z of r from 9 every 0 until 0", "trip a of r from 1 every 0 until 0",
		"hazard z on a from 0 every 0 closed 0", "hazard a on a from 0 every 0 closed 0",
	})
}

func TestP6_1EachLineIsItsThings(t *testing.T) {
	seed := uint64(63)
	for range 500 {
		x := drawn(&seed)
		tells(t, "drawn", x, linesOf(x))
		at := 1 + len(x.Stops)
		lines, _ := show.Lines(x)
		for i, p := range x.Paths {
			same(t, "a path's line", lines[at+i], show.Path(p))
		}
		at += len(x.Paths)
		for i, d := range x.Doors {
			same(t, "a door's line", lines[at+i], show.Door(d))
		}
		at += len(x.Doors)
		for i, r := range x.Routes {
			same(t, "a route's line", lines[at+i], show.Route(r))
		}
		at += len(x.Routes)
		for i, p := range x.Trips {
			same(t, "a trip's line", lines[at+i], show.Trip(p))
		}
		at += len(x.Trips)
		for i, h := range x.Hazards {
			same(t, "a hazard's line", lines[at+i], show.Hazard(h))
		}
	}
}

// drawn tells a sheet that may be.
func drawn(seed *uint64) api.Sheet {
	name := func() string { return pick(seed, goodNames) }
	number := func() int64 { return pick(seed, good) }
	times := func() api.Times { return api.Times{From: number(), Every: number(), Len: number()} }
	x := api.Sheet{Horizon: number()}
	for range draw(seed) % 30 {
		switch draw(seed) % 6 {
		case 0:
			x.Stops = append(x.Stops, name())
		case 1:
			x.Paths = append(x.Paths, api.Path{Name: name(), A: name(), B: name(), Len: number()})
		case 2:
			x.Doors = append(x.Doors, api.Door{Name: name(), A: name(), B: name(), Len: number(), Times: times()})
		case 3:
			r := api.Route{Name: name(), Stops: []string{name(), name()}, Rides: []int64{number()}}
			for range draw(seed) % (mostStops - 1) {
				r.Stops, r.Rides, r.Stays = append(r.Stops, name()), append(r.Rides, number()), append(r.Stays, number())
			}
			x.Routes = append(x.Routes, r)
		case 4:
			x.Trips = append(x.Trips, api.Trip{Name: name(), Route: name(), From: number(), Every: number(), Until: number()})
		case 5:
			x.Hazards = append(x.Hazards, api.Hazard{Name: name(), On: name(), Times: times()})
		}
	}
	return x
}

// namesIn are all places of names in a whole sheet.
func namesIn(x *api.Sheet) map[string]*string {
	r := x.Routes[0]
	return map[string]*string{
		"first stop": &x.Stops[0], "last stop": &x.Stops[1],
		"path": &x.Paths[0].Name, "path's A": &x.Paths[0].A, "path's B": &x.Paths[0].B, "last path": &x.Paths[1].Name,
		"door": &x.Doors[0].Name, "door's A": &x.Doors[0].A, "door's B": &x.Doors[0].B, "last door": &x.Doors[1].Name,
		"route": &x.Routes[0].Name, "route's first stop": &r.Stops[0], "route's second stop": &r.Stops[1], "route's last stop": &r.Stops[3], "last route": &x.Routes[1].Name,
		"trip": &x.Trips[0].Name, "trip's route": &x.Trips[0].Route, "last trip": &x.Trips[1].Name,
		"hazard": &x.Hazards[0].Name, "hazard's on": &x.Hazards[0].On, "last hazard": &x.Hazards[1].Name,
	}
}

// numbersIn are all places of numbers in a whole sheet.
func numbersIn(x *api.Sheet) map[string]*int64 {
	d, r, p, h := &x.Doors[0], &x.Routes[0], &x.Trips[0], &x.Hazards[0]
	return map[string]*int64{
		"horizon": &x.Horizon, "path": &x.Paths[0].Len, "last path": &x.Paths[1].Len,
		"door": &d.Len, "door's from": &d.Times.From, "door's every": &d.Times.Every, "door's open": &d.Times.Len,
		"first ride": &r.Rides[0], "second ride": &r.Rides[1], "last ride": &r.Rides[2], "first stay": &r.Stays[0], "last stay": &r.Stays[1],
		"trip's from": &p.From, "trip's every": &p.Every, "trip's until": &p.Until, "last trip": &x.Trips[1].Until,
		"hazard's from": &h.Times.From, "hazard's every": &h.Times.Every, "hazard's closed": &h.Times.Len, "last hazard": &x.Hazards[1].Times.From,
	}
}

func TestP6_1ErrorsOfNamesAndNumbers(t *testing.T) {
	for name := range namesIn(new(wholeSheet())) {
		for _, w := range oddNames {
			x := wholeSheet()
			*namesIn(&x)[name] = w
			refuses(t, name+" "+short(w), x, api.ErrText)
		}
		for _, w := range goodNames {
			x := wholeSheet()
			*namesIn(&x)[name] = w
			tells(t, name+" "+w, x, linesOf(x))
		}
	}
	for name := range numbersIn(new(wholeSheet())) {
		for _, n := range odd {
			x := wholeSheet()
			*numbersIn(&x)[name] = n
			refuses(t, name+" "+dec(n), x, api.ErrRange)
		}
		for _, n := range good {
			x := wholeSheet()
			*numbersIn(&x)[name] = n
			tells(t, name+" "+dec(n), x, linesOf(x))
		}
	}
}

func TestP6_1ErrorsOfCounts(t *testing.T) {
	for what, r := range map[string]api.Route{
		"no stop":    {Name: "r"},
		"one stop":   {Name: "r", Stops: []string{"a"}},
		"no ride":    {Name: "r", Stops: []string{"a", "b"}},
		"rides":      {Name: "r", Stops: []string{"a", "b"}, Rides: []int64{5, 6}},
		"a stay":     {Name: "r", Stops: []string{"a", "b"}, Rides: []int64{5}, Stays: []int64{0}},
		"no stay":    {Name: "r", Stops: []string{"a", "b", "c"}, Rides: []int64{5, 6}},
		"many stops": longRoute(mostStops + 1),
	} {
		for at := range 3 {
			x := wholeSheet()
			x.Routes = slices.Insert(x.Routes, at, r)
			refuses(t, what+" at "+strconv.Itoa(at), x, api.ErrArg)
		}
	}
}

func TestP6_1TheFirstErrorIsChecks(t *testing.T) {
	changes := []func(x *api.Sheet){
		func(x *api.Sheet) { x.Hazards = slices.Repeat(x.Hazards, 129) },
		func(x *api.Sheet) { x.Hazards[len(x.Hazards)-1].On = "7" },
		func(x *api.Sheet) { x.Trips[0].Until = top + 1 },
		func(x *api.Sheet) { x.Routes[0].Stays = nil },
	}
	for set := 1; set < 1<<len(changes); set++ {
		x := wholeSheet()
		want := api.OK
		for i, err := range []api.Errno{api.ErrLong, api.ErrText, api.ErrRange, api.ErrArg} {
			if set>>i&1 == 0 {
				continue
			}
			changes[i](&x)
			if want == api.OK {
				want = err
			}
		}
		refuses(t, "set "+strconv.Itoa(set), x, want)
		if err := sheet.Check(x); err != want {
			t.Errorf("set %d: Check is %d", set, err)
		}
	}
}

func TestP6_2TextIsReadAgain(t *testing.T) {
	seed := uint64(64)
	for range 2000 {
		x := drawn(&seed)
		text, err := show.Text(x)
		if len(text) > textBytes {
			continue
		}
		y, f := sheet.Parse(text)
		if err != api.OK || f != (api.Fault{}) || !sheet.Same(x, y) {
			t.Fatalf("%s is read as %v, %v; it should be %v", text, y, f, x)
		}
		again, err := show.Text(y)
		if err != api.OK || again != text {
			t.Fatalf("%s is told again as %s", text, again)
		}
	}
}

func TestP6_2WhatIsParsedIsToldOneWay(t *testing.T) {
	for s, want := range map[string]string{
		wholeText: wholeText,
		"horizon 9\nroute r a 5 b stay 0 3 a\nstop a":                                           "horizon 9\nstop a\nroute r a 5 b 3 a\n",
		"# x\n\thorizon  9 # y\n\nhazard h  on b from 0\tevery 0 closed 9\n stop b\n\nstop a\n": "horizon 9\nstop b\nstop a\nhazard h on b from 0 every 0 closed 9\n",
		"horizon 0": "horizon 0\n",
		"horizon 1\ntrip t of r from 0 every 0 until 0\nroute r a 1 b stay 1 1 a stay 0 1 b": "horizon 1\nroute r a 1 b stay 1 1 a 1 b\ntrip t of r from 0 every 0 until 0\n",
	} {
		x, f := sheet.Parse(s)
		if text, err := show.Text(x); f.Err != api.OK || err != api.OK || text != want {
			t.Errorf("%q is told as %q, %d; it should be %q", s, text, err, want)
		}
	}
}

// nearlyFull tells a sheet whose text has just so many bytes.
func nearlyFull(size int) api.Sheet {
	x := api.Sheet{Trips: slices.Repeat([]api.Trip{{Name: strings.Repeat("t", longest), Route: strings.Repeat("r", longest), From: top}}, size/100)}
	head := len("stop \n")
	for left := size - len(strings.Join(linesOf(x), "\n")+"\n"); left > 0; {
		name := min(longest, left-head)
		if left > head+name && left <= head+name+head {
			name -= head + 1
		}
		x.Stops = append(x.Stops, strings.Repeat("s", name))
		left -= head + name
	}
	return x
}

func TestP6_2TextsOfJustSoManyBytes(t *testing.T) {
	x := nearlyFull(textBytes)
	text, err := show.Text(x)
	if y, f := sheet.Parse(text); len(text) != textBytes || err != api.OK || f != (api.Fault{}) || !sheet.Same(x, y) {
		t.Errorf("%d bytes: %d, %v", len(text), err, f)
	}
	// A byte more is told, but can't be read again.
	x.Horizon = 10
	tells(t, "a byte more", x, linesOf(x))
	text, _ = show.Text(x)
	if _, f := sheet.Parse(text); len(text) != textBytes+1 || f != (api.Fault{Err: api.ErrLong, Line: 1, Col: 1}) {
		t.Errorf("%d bytes: %v", len(text), f)
	}
}

// differs are changes of a whole sheet after which it is another one that may be.
func differs() map[string]func(x *api.Sheet) {
	all := map[string]func(x *api.Sheet){
		"stops turned about":      func(x *api.Sheet) { slices.Reverse(x.Stops) },
		"no stop":                 func(x *api.Sheet) { x.Stops = nil },
		"a stop less":             func(x *api.Sheet) { x.Stops = x.Stops[:1] },
		"a stop more":             func(x *api.Sheet) { x.Stops = append(x.Stops, "c") },
		"paths turned about":      func(x *api.Sheet) { slices.Reverse(x.Paths) },
		"no path":                 func(x *api.Sheet) { x.Paths = nil },
		"a path more":             func(x *api.Sheet) { x.Paths = append(x.Paths, x.Paths[0]) },
		"doors turned about":      func(x *api.Sheet) { slices.Reverse(x.Doors) },
		"no door":                 func(x *api.Sheet) { x.Doors = nil },
		"a door more":             func(x *api.Sheet) { x.Doors = append(x.Doors, x.Doors[0]) },
		"routes turned about":     func(x *api.Sheet) { slices.Reverse(x.Routes) },
		"no route":                func(x *api.Sheet) { x.Routes = nil },
		"a route more":            func(x *api.Sheet) { x.Routes = append(x.Routes, x.Routes[0]) },
		"trips turned about":      func(x *api.Sheet) { slices.Reverse(x.Trips) },
		"no trip":                 func(x *api.Sheet) { x.Trips = nil },
		"a trip more":             func(x *api.Sheet) { x.Trips = append(x.Trips, x.Trips[0]) },
		"hazards turned about":    func(x *api.Sheet) { slices.Reverse(x.Hazards) },
		"no hazard":               func(x *api.Sheet) { x.Hazards = nil },
		"a hazard more":           func(x *api.Sheet) { x.Hazards = append(x.Hazards, x.Hazards[0]) },
		"rides turned about":      func(x *api.Sheet) { slices.Reverse(x.Routes[0].Rides) },
		"stays turned about":      func(x *api.Sheet) { slices.Reverse(x.Routes[0].Stays) },
		"no stay that is above 0": func(x *api.Sheet) { x.Routes[0].Stays[0] = 0 },
		"a path's ends turned":    func(x *api.Sheet) { p := &x.Paths[0]; p.A, p.B = p.B, p.A },
		"a route's stop less": func(x *api.Sheet) {
			r := &x.Routes[0]
			r.Stops, r.Rides, r.Stays = r.Stops[:3], r.Rides[:2], r.Stays[:1]
		},
		"a route's stop more": func(x *api.Sheet) {
			r := &x.Routes[0]
			r.Stops, r.Rides, r.Stays = append(r.Stops, "a"), append(r.Rides, 0), append(r.Stays, 0)
		},
	}
	for name := range namesIn(new(wholeSheet())) {
		all["name of "+name] = func(x *api.Sheet) { *namesIn(x)[name] += "x" }
	}
	for name := range numbersIn(new(wholeSheet())) {
		all["number of "+name] = func(x *api.Sheet) { *numbersIn(x)[name] = 777 }
	}
	return all
}

func TestP6_2SheetsThatDifferHaveUnlikeTexts(t *testing.T) {
	changes := differs()
	changes["nothing"] = func(x *api.Sheet) {}
	changes["all"] = func(x *api.Sheet) { *x = api.Sheet{} }
	changed := map[string]string{}
	for _, what := range slices.Sorted(maps.Keys(changes)) {
		x := wholeSheet()
		changes[what](&x)
		text, err := show.Text(x)
		if err != api.OK {
			t.Errorf("%s: %d", what, err)
		}
		if other, met := changed[text]; met {
			t.Errorf("%s and %s have one text: %s", what, other, text)
		}
		changed[text] = what
		if y, f := sheet.Parse(text); f.Err != api.OK || !sheet.Same(x, y) {
			t.Errorf("%s: %v", what, f)
		}
	}
}

func TestP6_2ListsOfNilAndOfNothing(t *testing.T) {
	x, y := api.Sheet{Horizon: 9}, api.Sheet{Horizon: 9, Stops: []string{}, Routes: []api.Route{}, Trips: []api.Trip{}}
	a, _ := show.Text(x)
	b, _ := show.Text(y)
	same(t, "Text", a, b)
	same(t, "Route", show.Route(api.Route{Name: "r", Stops: []string{}, Rides: []int64{}, Stays: []int64{}}), show.Route(api.Route{Name: "r"}))
}

// filled makes a list with spare room behind it, all of which is written over with x.
func filled[T any](l []T, x T) (list, room []T) {
	room = make([]T, len(l)+8)
	for i := range room {
		room[i] = x
	}
	copy(room, l)
	return room[:len(l)], room
}

func TestSpareRoomIsLeftAlone(t *testing.T) {
	x := wholeSheet()
	stops, stopRoom := filled(x.Stops, "spare")
	rides, rideRoom := filled(x.Routes[0].Rides, -7)
	stays, stayRoom := filled(x.Routes[0].Stays, 7)
	routes, routeRoom := filled(x.Routes, api.Route{Name: "spare"})
	x.Stops, x.Routes = stops, routes
	x.Routes[0].Rides, x.Routes[0].Stays = rides, stays
	kept := []any{slices.Clone(stopRoom), slices.Clone(rideRoom), slices.Clone(stayRoom), slices.Clone(routeRoom)}
	if text, err := show.Text(x); err != api.OK || text != wholeText {
		t.Errorf("%q, %d", text, err)
	}
	same(t, "Route", show.Route(x.Routes[0]), "route r a 5 b stay 2 3 a 6 c")
	if !reflect.DeepEqual(kept, []any{stopRoom, rideRoom, stayRoom, routeRoom}) {
		t.Errorf("it became %v, %v, %v, %v", stopRoom, rideRoom, stayRoom, routeRoom)
	}
}

func TestRoutesStayAsTheyAre(t *testing.T) {
	for _, r := range []api.Route{{}, {Name: "r", Stops: []string{"a"}, Rides: []int64{1, 2}, Stays: []int64{-1, 0, 1}}, longRoute(40)} {
		kept := deepRoute(r)
		first := show.Route(r)
		if !reflect.DeepEqual(r, kept) || show.Route(r) != first {
			t.Errorf("%v became %v", kept, r)
		}
	}
}

func TestLinesAreNewMemory(t *testing.T) {
	x := wholeSheet()
	want := linesOf(x)
	first, _ := show.Lines(x)
	second, _ := show.Lines(x)
	for i := range first[:cap(first)] {
		first[:cap(first)][i] = "written over"
	}
	if !slices.Equal(second, want) || !reflect.DeepEqual(x, wholeSheet()) {
		t.Errorf("lines became %q, the sheet %v", second, x)
	}
	tells(t, "told again", x, want)
	// What is changed later is not to be seen in what was told.
	for i := range x.Stops {
		x.Stops[i] = "later"
	}
	x.Routes[0].Rides[0] = 99
	if !slices.Equal(second, want) {
		t.Errorf("lines became %q", second)
	}
	// A sheet's stops are not its lines.
	stops := api.Sheet{Stops: make([]string, 0, 64)}
	stops.Stops = append(stops.Stops, "a", "b")
	lines, _ := show.Lines(stops)
	lines[1] = "written over"
	if !slices.Equal(stops.Stops, []string{"a", "b"}) {
		t.Errorf("stops became %q", stops.Stops)
	}
}

// FuzzText: what can be read is told one way, and is read again as the same.
func FuzzText(f *testing.F) {
	for _, s := range []string{"", wholeText, "horizon 9\nstop", "horizon 9 # x\nroute r a 5 b stay 2 3 c", "horizon 9\nroute r a 5 b stay 0 3 c\nstop a"} {
		f.Add(s)
	}
	f.Fuzz(func(t *testing.T, s string) {
		x, fault := sheet.Parse(s)
		text, err := show.Text(x)
		if fault.Err != api.OK {
			if err != api.OK || text != "horizon 0\n" {
				t.Errorf("%q: nothing is told as %q, %d", s, text, err)
			}
			return
		}
		if err != api.OK || text != strings.Join(linesOf(x), "\n")+"\n" {
			t.Errorf("%q is told as %q, %d", s, text, err)
		}
		if len(text) > textBytes {
			return
		}
		if y, again := sheet.Parse(text); again != (api.Fault{}) || !sheet.Same(x, y) {
			t.Errorf("%q is told as %q, and read as %v, %v", s, text, y, again)
		}
	})
}
