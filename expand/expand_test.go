package expand_test

import (
	"math"
	"reflect"
	"slices"
	"strconv"
	"strings"
	"testing"
	"unsafe"

	"timetable/api"
	"timetable/expand"
	"timetable/sheet"
	"timetable/world"
)

const (
	top      = int64(api.MaxTick)
	mostRuns = 16384
)

// text is a world of the chapter's examples.
const text = `horizon 30
stop a
stop b
stop c
route r a 5 b stay 2 3 c
trip t of r from 1 every 10 until 40
`

// parsed tells the world that a text is.
func parsed(t *testing.T, text string) api.World {
	t.Helper()
	x, fault := sheet.Parse(text)
	w, bad := world.Make(x)
	if fault != (api.Fault{}) || bad != (api.Wrong{}) {
		t.Fatal(text, fault, bad)
	}
	return w
}

// numbered are n names.
func numbered(letter string, n int) []string {
	var l []string
	for i := range n {
		l = append(l, letter+strconv.Itoa(i))
	}
	return l
}

// line is a route over the first stops: with these rides, and these stays between them.
func line(rides, stays []int64) api.RouteOf {
	r := api.RouteOf{Rides: rides, Stays: stays}
	for i := range len(rides) + 1 {
		r.Stops = append(r.Stops, i)
	}
	return r
}

// of is a world with these routes and trips, and as many stops as the longest route has.
func of(horizon int64, routes []api.RouteOf, trips ...api.TripOf) api.World {
	stops := 0
	for _, r := range routes {
		stops = max(stops, len(r.Stops))
	}
	return api.World{
		Horizon: horizon,
		Names:   api.Names{Stops: numbered("s", stops), Routes: numbered("r", len(routes)), Trips: numbered("t", len(trips))},
		Routes:  routes,
		Trips:   trips,
	}
}

// whole has things of all kinds; its third trip has no run that is there, its last one has one.
func whole() api.World {
	return api.World{
		Horizon: 60,
		Names: api.Names{
			Stops:   []string{"a", "b", "c", "d"},
			Paths:   []string{"p", "q"},
			Doors:   []string{"e", "f"},
			Routes:  []string{"r", "s", "u"},
			Trips:   []string{"t", "v", "w", "x"},
			Hazards: []string{"h", "i"},
		},
		Paths:  []api.PathOf{{A: 0, B: 1, Len: 3}, {A: 3, B: 1, Len: 1}},
		Doors:  []api.DoorOf{{A: 0, B: 2, Len: 2, Times: api.Times{From: 5, Every: 10, Len: 2}}, {A: 3, B: 0, Len: 7, Times: api.Times{Len: 1}}},
		Routes: []api.RouteOf{{Stops: []int{0, 1, 2}, Rides: []int64{5, 3}, Stays: []int64{2}}, {Stops: []int{2, 3, 2, 0}, Rides: []int64{1, 2, 4}, Stays: []int64{0, 6}}, {Stops: []int{3, 2}, Rides: []int64{8}}},
		Trips: []api.TripOf{
			{Route: 2, From: 1, Every: 10, Until: 40},
			{Route: 0, From: 7, Every: 0, Until: 70},
			{Route: 2, From: 53, Every: 1, Until: 90},
			{Route: 1, From: 45, Every: 3, Until: 46},
		},
		Hazards: []api.HazardOf{{Stop: false, On: 1, Times: api.Times{From: 4, Len: 3}}, {Stop: true, On: 2, Times: api.Times{From: 0, Every: 20, Len: 1}}},
	}
}

// plainRun goes along the route, stop by stop.
func plainRun(w api.World, trip, no int) api.Run {
	t := w.Trips[trip]
	route := w.Routes[t.Route]
	r := api.Run{Trip: trip, No: no}
	at := t.From + int64(no)*t.Every
	last := len(route.Stops) - 1
	for pos := range route.Stops {
		if pos > 0 {
			at += route.Rides[pos-1]
		}
		r.Arr = append(r.Arr, at)
		if pos > 0 && pos < last {
			at += route.Stays[pos-1]
		}
		r.Dep = append(r.Dep, at)
	}
	return r
}

// plainTrip tries a trip's runs one by one, up to the last one that leaves.
func plainTrip(w api.World, trip int) []api.Run {
	var l []api.Run
	t := w.Trips[trip]
	for no := 0; t.From+int64(no)*t.Every <= t.Until; no++ {
		r := plainRun(w, trip, no)
		if r.Arr[len(r.Arr)-1] <= w.Horizon {
			l = append(l, r)
		}
		if t.Every == 0 {
			break
		}
	}
	return l
}

// sameRun tells whether all is the same, where a nil list and an empty one are one and the same.
func sameRun(a, b api.Run) bool {
	return a.Trip == b.Trip && a.No == b.No && slices.Equal(a.Arr, b.Arr) && slices.Equal(a.Dep, b.Dep)
}

// agrees holds Count, One, All and Check of a world that may be, and has not too many runs, against the plain way.
func agrees(t *testing.T, title string, w api.World) []api.Run {
	t.Helper()
	var want []api.Run
	for trip := range w.Trips {
		l := plainTrip(w, trip)
		want = append(want, l...)
		if n := expand.Count(w, trip); n != len(l) {
			t.Fatalf("%s: Count of %v, %d is %d; it should be %d", title, w, trip, n, len(l))
		}
		for no, r := range l {
			one, err := expand.One(w, trip, no)
			if err != api.OK || !sameRun(one, r) {
				t.Fatalf("%s: One of %v, %d, %d is %v, %v; it should be %v", title, w, trip, no, one, err, r)
			}
			if err := expand.Check(w, r); err != api.OK {
				t.Fatalf("%s: Check of %v, %v is %v", title, w, r, err)
			}
		}
		for _, no := range []int{math.MinInt, -2, -1, len(l), len(l) + 1, 1 << 40, math.MaxInt} {
			isNone(t, title, w, trip, no)
		}
	}
	all, err := expand.All(w)
	if err != api.OK || !slices.EqualFunc(all, want, sameRun) {
		t.Fatalf("%s: All of %v is %v, %v; it should be %v", title, w, all, err, want)
	}
	return all
}

// isNone checks that there is no such run.
func isNone(t *testing.T, title string, w api.World, trip, no int) {
	t.Helper()
	if r, err := expand.One(w, trip, no); err != api.ErrNone || !reflect.DeepEqual(r, api.Run{}) {
		t.Fatalf("%s: One of %v, %d, %d is %v, %v", title, w, trip, no, r, err)
	}
	if err := expand.Check(w, api.Run{Trip: trip, No: no, Arr: []int64{0, 1}, Dep: []int64{0, 1}}); err != api.ErrNone {
		t.Fatalf("%s: Check of %v, %d, %d is %v", title, w, trip, no, err)
	}
}

func TestExamples(t *testing.T) {
	w := parsed(t, text)
	if n := expand.Count(w, 0); n != 2 {
		t.Error(n)
	}
	r, err := expand.One(w, 0, 1)
	if err != api.OK || !sameRun(r, api.Run{Trip: 0, No: 1, Arr: []int64{11, 16, 21}, Dep: []int64{11, 18, 21}}) {
		t.Error(r, err)
	}
	agrees(t, "the chapter's example", w)
	if l := agrees(t, "a whole world", whole()); len(l) != 6 {
		t.Error(l)
	}
}

func TestP10_1SmallTripsOfAllKinds(t *testing.T) {
	routes := []api.RouteOf{
		line([]int64{1}, nil),
		line([]int64{4}, nil),
		line([]int64{1, 1}, []int64{0}),
		line([]int64{2, 1}, []int64{3}),
		line([]int64{1, 3, 2}, []int64{0, 1}),
	}
	for at := range routes {
		for horizon := range int64(12) {
			for from := range int64(4) {
				for every := range int64(5) {
					for until := from; until < 12; until++ {
						agrees(t, "a small trip", of(horizon, routes, api.TripOf{Route: at, From: from, Every: every, Until: until}))
					}
				}
			}
		}
	}
}

// counts checks how many runs a world's only trip has.
func counts(t *testing.T, title string, w api.World, want int) {
	t.Helper()
	if l := agrees(t, title, w); len(l) != want {
		t.Errorf("%s: %d runs; there should be %d", title, len(l), want)
	}
}

func TestP10_1TheLastOneThatLeaves(t *testing.T) {
	routes := []api.RouteOf{line([]int64{5, 3}, []int64{2})}
	for until, want := range map[int64]int{1: 1, 10: 1, 11: 2, 12: 2, 20: 2, 21: 3, 22: 3, 30: 3, 31: 4, 40: 4} {
		counts(t, "until "+strconv.FormatInt(until, 10), of(1000, routes, api.TripOf{From: 1, Every: 10, Until: until}), want)
	}
}

func TestP10_1TheLastOneThatComes(t *testing.T) {
	routes := []api.RouteOf{line([]int64{5, 3}, []int64{2})}
	for horizon, want := range map[int64]int{0: 0, 9: 0, 10: 0, 11: 1, 12: 1, 20: 1, 21: 2, 22: 2, 30: 2, 31: 3, 40: 3, 41: 4, 42: 4, 51: 4, 1000: 4} {
		counts(t, "horizon "+strconv.FormatInt(horizon, 10), of(horizon, routes, api.TripOf{From: 1, Every: 10, Until: 40}), want)
	}
}

func TestP10_1ATripWithoutEvery(t *testing.T) {
	routes := []api.RouteOf{line([]int64{5}, nil)}
	for _, c := range []struct {
		from, until, horizon int64
		want                 int
	}{
		{7, 7, 12, 1}, {7, 7, 11, 0}, {7, 7, 13, 1}, {7, 90, 12, 1}, {7, 90, 90, 1}, {7, 90, 11, 0}, {0, 0, 5, 1}, {0, 0, 4, 0},
		{top - 5, top - 5, top, 1}, {top - 5, top, top, 1}, {top - 4, top, top, 0}, {top, top, top, 0},
	} {
		counts(t, "without Every", of(c.horizon, routes, api.TripOf{From: c.from, Until: c.until}), c.want)
	}
}

func TestP10_1RunsFarOut(t *testing.T) {
	short := []api.RouteOf{line([]int64{1}, nil)}
	for _, c := range []struct {
		from, every, until, horizon int64
		want                        int
	}{
		{top, 1, top, top, 0}, {top - 1, 1, top, top, 1}, {top - 2, 1, top, top, 2}, {top - 2, 1, top - 2, top, 1}, {top - 1, 1, top, top - 1, 0},
		{0, top, top, top, 1}, {0, top - 1, top, top, 2}, {0, top - 1, top - 2, top, 1}, {0, top - 1, top, top - 1, 1}, {1, top - 2, top, top, 2}, {1, top - 1, top, top, 1},
		{0, top / 2, top, top, 2}, {0, top/2 - 1, top, top, 3},
	} {
		counts(t, "far out", of(c.horizon, short, api.TripOf{From: c.from, Every: c.every, Until: c.until}), c.want)
	}
	long := []api.RouteOf{line([]int64{top}, nil), line([]int64{top - 3, 1}, []int64{2}), line([]int64{top, top}, []int64{top}), line(slices.Repeat([]int64{top}, 31), slices.Repeat([]int64{top}, 30))}
	for at, want := range []int{1, 1, 0, 0} {
		for _, every := range []int64{0, top / 4, top - 1, top} {
			counts(t, "as long as may be", of(top, long, api.TripOf{Route: at, Every: every, Until: top}), want)
			counts(t, "later", of(top, long, api.TripOf{Route: at, From: 1, Every: every, Until: top}), 0)
			counts(t, "a horizon ahead", of(top-1, long, api.TripOf{Route: at, Every: every, Until: top}), 0)
		}
	}
}

func TestP10_1MoreRunsThanCanBeMade(t *testing.T) {
	routes := []api.RouteOf{line([]int64{1}, nil), line([]int64{1, 5}, []int64{4})}
	w := of(top, routes, api.TripOf{Route: 0, Every: 1, Until: top}, api.TripOf{Route: 1, Every: 1, Until: top}, api.TripOf{Route: 1, From: 3, Every: 2, Until: top - 20})
	for trip, want := range []int64{top, top - 9, (top-20-3)/2 + 1} {
		if n := expand.Count(w, trip); int64(n) != want {
			t.Errorf("Count of %d is %d; it should be %d", trip, n, want)
		}
		for _, no := range []int64{0, 1, 1 << 32, want - 1} {
			r, err := expand.One(w, trip, int(no))
			if err != api.OK || !sameRun(r, plainRun(w, trip, int(no))) || expand.Check(w, r) != api.OK {
				t.Errorf("One of %d, %d is %v, %v", trip, no, r, err)
			}
		}
		isNone(t, "behind the last one", w, trip, int(want))
		isNone(t, "ahead of the first one", w, trip, -1)
	}
	crowded(t, "more than can be made", w)
	some := make([]api.TripOf, 1024)
	for i := range some {
		some[i] = api.TripOf{Every: 1, Until: top}
	}
	crowded(t, "the greatest number that may be", of(top, routes, some...))
}

// crowded checks that All tells just that there is too much.
func crowded(t *testing.T, title string, w api.World) {
	t.Helper()
	if l, err := expand.All(w); err != api.ErrLong || len(l) != 0 {
		t.Errorf("%s: All is %d runs, %v", title, len(l), err)
	}
}

func TestP10_1AsManyRunsAsMayBe(t *testing.T) {
	routes := []api.RouteOf{line([]int64{5}, nil), line([]int64{1}, nil)}
	many := func(n int64) api.TripOf { return api.TripOf{From: 2, Every: 3, Until: 2 + 3*(n-1)} }
	for title, ns := range map[string][]int64{
		"one trip":                        {mostRuns},
		"two trips":                       {1, mostRuns - 1},
		"two trips, the other way":        {mostRuns - 1, 1},
		"several trips":                   {100, 1, 16000, 283},
		"as many trips as may be":         slices.Repeat([]int64{16}, 1024),
		"as many trips as may be, unlike": append(slices.Repeat([]int64{1}, 1023), mostRuns-1023),
	} {
		var trips []api.TripOf
		for _, n := range ns {
			trips = append(trips, many(n))
		}
		w := of(top, routes, trips...)
		if l := agreesMuch(t, title, w); len(l) != mostRuns {
			t.Errorf("%s: %d runs", title, len(l))
		}
		for _, at := range []int{0, len(trips) - 1} {
			grown := slices.Clone(trips)
			grown[at].Until += 3
			crowded(t, title+", and one more", of(top, routes, grown...))
			grown[at].Until--
			if l, err := expand.All(of(top, routes, grown...)); err != api.OK || len(l) != mostRuns {
				t.Errorf("%s, and one nearly: %v", title, err)
			}
		}
		if len(trips) < 1024 {
			crowded(t, title+", and one more trip", of(top, routes, append(slices.Clone(trips), many(1))...))
			crowded(t, title+", and one more trip ahead", of(top, routes, append([]api.TripOf{many(1)}, trips...)...))
		}
	}
	tail := []api.TripOf{many(mostRuns), {Route: 1, From: 9, Every: 1, Until: 9000}}
	end := 2 + 3*int64(mostRuns-1) + 5
	if l, err := expand.All(of(end, routes, tail[0])); err != api.OK || len(l) != mostRuns {
		t.Errorf("up to the horizon: %d runs, %v", len(l), err)
	}
	tail[0].Until += 300
	if l, err := expand.All(of(end+2, routes, tail[0])); err != api.OK || len(l) != mostRuns {
		t.Errorf("beyond the horizon: %d runs, %v", len(l), err)
	}
	crowded(t, "one more up to the horizon", of(end+3, routes, tail[0]))
	crowded(t, "too many behind as many as may be", of(end, routes, tail...))
	tail[1].From, tail[1].Until = end, end
	if l, err := expand.All(of(end, routes, tail...)); err != api.OK || len(l) != mostRuns {
		t.Errorf("a trip without a run behind as many as may be: %d runs, %v", len(l), err)
	}
}

// agreesMuch holds All alone against the plain way.
func agreesMuch(t *testing.T, title string, w api.World) []api.Run {
	t.Helper()
	var want []api.Run
	for trip := range w.Trips {
		want = append(want, plainTrip(w, trip)...)
	}
	l, err := expand.All(w)
	if err != api.OK || !slices.EqualFunc(l, want, sameRun) {
		t.Fatalf("%s: All is %d runs, %v; there should be %d", title, len(l), err, len(want))
	}
	return l
}

func TestP10_1TheFirstStopAndTheLastOne(t *testing.T) {
	routes := []api.RouteOf{line([]int64{4}, nil), line([]int64{4, 6}, []int64{0}), line([]int64{4, 6, 1}, []int64{3, 9}), line(slices.Repeat([]int64{2}, 31), slices.Repeat([]int64{3}, 30))}
	want := []struct{ arr, dep []int64 }{
		{[]int64{7, 11}, []int64{7, 11}},
		{[]int64{7, 11, 17}, []int64{7, 11, 17}},
		{[]int64{7, 11, 20, 30}, []int64{7, 14, 29, 30}},
	}
	for at, c := range want {
		w := of(1000, routes, api.TripOf{Route: at, From: 7, Until: 7})
		if r, err := expand.One(w, 0, 0); err != api.OK || !sameRun(r, api.Run{Arr: c.arr, Dep: c.dep}) {
			t.Error(r, err)
		}
	}
	w := of(1000, routes, api.TripOf{Route: 3, From: 7, Until: 7})
	r, err := expand.One(w, 0, 0)
	if err != api.OK || len(r.Arr) != 32 || len(r.Dep) != 32 || r.Arr[0] != 7 || r.Dep[0] != 7 {
		t.Fatal(r, err)
	}
	for at := 1; at < 32; at++ {
		stay := int64(3)
		if at == 31 {
			stay = 0
		}
		if r.Arr[at] != r.Dep[at-1]+2 || r.Dep[at] != r.Arr[at]+stay {
			t.Errorf("at %d: %v", at, r)
		}
	}
}

func TestP10_1NoTrip(t *testing.T) {
	for title, w := range map[string]api.World{"a whole world": whole(), "no trips": of(30, nil), "the least world": {}} {
		n := len(w.Trips)
		for _, trip := range []int{math.MinInt, -9, -1, n, n + 1, 1024, 1 << 32, math.MaxInt} {
			if c := expand.Count(w, trip); c != 0 {
				t.Errorf("%s: Count of %d is %d", title, trip, c)
			}
			for _, no := range []int{-1, 0, 1, math.MaxInt, math.MinInt} {
				isNone(t, title, w, trip, no)
			}
		}
		agrees(t, title, w)
	}
}

func TestP10_1AllIsTripByTrip(t *testing.T) {
	routes := []api.RouteOf{line([]int64{5}, nil), line([]int64{1, 1}, []int64{0})}
	w := of(40, routes,
		api.TripOf{Route: 1, From: 30, Every: 4, Until: 38},
		api.TripOf{Route: 0, From: 39, Until: 39},
		api.TripOf{Route: 0, From: 1, Every: 20, Until: 39},
		api.TripOf{Route: 1, From: 30, Every: 4, Until: 31})
	var ids [][2]int
	for _, r := range agrees(t, "four trips", w) {
		ids = append(ids, [2]int{r.Trip, r.No})
	}
	if !slices.Equal(ids, [][2]int{{0, 0}, {0, 1}, {0, 2}, {2, 0}, {2, 1}, {3, 0}}) {
		t.Error(ids)
	}
}

// wrongWorlds are whole worlds with one thing wrong, by what it is.
func wrongWorlds(t *testing.T) map[string]api.World {
	faults := map[string]func(w *api.World){
		"the horizon below 0":          func(w *api.World) { w.Horizon = -1 },
		"the horizon above MaxTick":    func(w *api.World) { w.Horizon = top + 1 },
		"the horizon never":            func(w *api.World) { w.Horizon = api.Inf },
		"too many stops":               func(w *api.World) { w.Names.Stops = append(w.Names.Stops, numbered("s", 253)...) },
		"a reserved word":              func(w *api.World) { w.Names.Stops[3] = "open" },
		"an empty name":                func(w *api.World) { w.Names.Trips[1] = "" },
		"a name that is there":         func(w *api.World) { w.Names.Hazards[1] = "a" },
		"a trip's name that is there":  func(w *api.World) { w.Names.Trips[3] = "t" },
		"a path too few":               func(w *api.World) { w.Paths = w.Paths[:1] },
		"a door too many":              func(w *api.World) { w.Doors = append(w.Doors, w.Doors[0]) },
		"a route too few":              func(w *api.World) { w.Routes = w.Routes[:2] },
		"a route's name too many":      func(w *api.World) { w.Names.Routes = append(w.Names.Routes, "more") },
		"a trip too few":               func(w *api.World) { w.Trips = w.Trips[:3] },
		"a trip's name too few":        func(w *api.World) { w.Names.Trips = w.Names.Trips[:3] },
		"no trips":                     func(w *api.World) { w.Trips = nil },
		"no routes":                    func(w *api.World) { w.Routes, w.Names.Routes = nil, nil },
		"a hazard too few":             func(w *api.World) { w.Hazards = w.Hazards[:1] },
		"a path's stop":                func(w *api.World) { w.Paths[0].A = 4 },
		"a path to where it begins":    func(w *api.World) { w.Paths[0].B = 0 },
		"a path of no length":          func(w *api.World) { w.Paths[1].Len = 0 },
		"a door's stop":                func(w *api.World) { w.Doors[1].B = -1 },
		"a door to where it begins":    func(w *api.World) { w.Doors[1].B = 3 },
		"a door of no length":          func(w *api.World) { w.Doors[0].Len = 0 },
		"a door that is never open":    func(w *api.World) { w.Doors[0].Times.Len = 0 },
		"a door with too many windows": func(w *api.World) { w.Horizon, w.Doors[0].Times.Every = 9999, 2 },
		"a route's stop":               func(w *api.World) { w.Routes[1].Stops[3] = 4 },
		"a route's stop below 0":       func(w *api.World) { w.Routes[0].Stops[0] = -1 },
		"a route without stops":        func(w *api.World) { w.Routes[2] = api.RouteOf{} },
		"a route of a stop":            func(w *api.World) { w.Routes[2] = api.RouteOf{Stops: []int{0}} },
		"a route of 33 stops": func(w *api.World) {
			w.Routes[2] = api.RouteOf{Stops: append(slices.Repeat([]int{0, 1}, 16), 0), Rides: slices.Repeat([]int64{1}, 32), Stays: make([]int64, 31)}
		},
		"the same stop again":      func(w *api.World) { w.Routes[0].Stops[1] = 0 },
		"a ride too few":           func(w *api.World) { w.Routes[0].Rides = w.Routes[0].Rides[:1] },
		"a ride too many":          func(w *api.World) { w.Routes[0].Rides = append(w.Routes[0].Rides, 1) },
		"a stay too few":           func(w *api.World) { w.Routes[1].Stays = w.Routes[1].Stays[:1] },
		"a stay too many":          func(w *api.World) { w.Routes[2].Stays = []int64{1} },
		"a ride of no time":        func(w *api.World) { w.Routes[1].Rides[2] = 0 },
		"a ride below 0":           func(w *api.World) { w.Routes[1].Rides[0] = -1 },
		"a ride above MaxTick":     func(w *api.World) { w.Routes[1].Rides[1] = math.MaxInt64 },
		"a stay below 0":           func(w *api.World) { w.Routes[0].Stays[0] = math.MinInt64 },
		"a stay above MaxTick":     func(w *api.World) { w.Routes[0].Stays[0] = top + 1 },
		"a trip's route":           func(w *api.World) { w.Trips[0].Route = 3 },
		"a trip's route below 0":   func(w *api.World) { w.Trips[3].Route = -1 },
		"a trip's From below 0":    func(w *api.World) { w.Trips[0].From = -1 },
		"a trip's From never":      func(w *api.World) { w.Trips[0].From, w.Trips[0].Until = api.Inf, api.Inf },
		"a trip's Every below 0":   func(w *api.World) { w.Trips[0].Every = -1 },
		"a trip's Every too great": func(w *api.World) { w.Trips[0].Every = top + 1 },
		"a trip's Until too great": func(w *api.World) { w.Trips[0].Until = top + 1 },
		"a trip's Until too small": func(w *api.World) { w.Trips[0].Until = 0 },
		"a hazard on none":         func(w *api.World) { w.Hazards[0].On = 2 },
		"a hazard of no length":    func(w *api.World) { w.Hazards[1].Times.Len = 0 },
		"a hazard's windows":       func(w *api.World) { w.Horizon, w.Hazards[1].Times.Every = 9999, 1 },
	}
	l := map[string]api.World{}
	for title, spoil := range faults {
		w := whole()
		spoil(&w)
		if world.Check(w).Err == api.OK {
			t.Fatalf("%s: there is nothing wrong", title)
		}
		l[title] = w
	}
	return l
}

// refuses checks what is told of a world that may not be, whatever else is asked.
func refuses(t *testing.T, title string, w api.World) {
	t.Helper()
	for _, trip := range []int{math.MinInt, -1, 0, 1, 2, 3, 4, math.MaxInt} {
		if n := expand.Count(w, trip); n != 0 {
			t.Errorf("%s: Count of %d is %d", title, trip, n)
		}
		for _, no := range []int{math.MinInt, -1, 0, 1, 9, math.MaxInt} {
			if r, err := expand.One(w, trip, no); err != api.ErrArg || !reflect.DeepEqual(r, api.Run{}) {
				t.Errorf("%s: One of %d, %d is %v, %v", title, trip, no, r, err)
			}
			for _, times := range [][]int64{nil, {1, 9}, {1, 6, 11}, {5, 4}, {top - 1, top}} {
				if err := expand.Check(w, api.Run{Trip: trip, No: no, Arr: times, Dep: times}); err != api.ErrArg {
					t.Errorf("%s: Check of %d, %d, %v is %v", title, trip, no, times, err)
				}
			}
		}
	}
	if l, err := expand.All(w); err != api.ErrArg || len(l) != 0 {
		t.Errorf("%s: All is %v, %v", title, l, err)
	}
}

func TestP10_1WorldsThatMayNotBe(t *testing.T) {
	for title, w := range wrongWorlds(t) {
		refuses(t, title, w)
	}
}

func TestP10_1AWorldThatMayNotBeWithTooManyRuns(t *testing.T) {
	for title, spoil := range map[string]func(w *api.World){
		"a name that is there": func(w *api.World) { w.Names.Trips[1] = "s0" },
		"a trip too few":       func(w *api.World) { w.Trips = w.Trips[:1] },
		"a trip's route":       func(w *api.World) { w.Trips[1].Route = 2 },
		"a trip's Until":       func(w *api.World) { w.Trips[1].Until = 3 },
		"a ride of no time":    func(w *api.World) { w.Routes[1].Rides[0] = 0 },
	} {
		w := of(top, []api.RouteOf{line([]int64{1}, nil), line([]int64{5}, nil)}, api.TripOf{Every: 1, Until: top}, api.TripOf{Route: 1, From: 4, Until: 4})
		crowded(t, "too many runs", w)
		spoil(&w)
		refuses(t, title, w)
	}
}

func TestP10_1TheGreatestWorld(t *testing.T) {
	x := whole()
	x.Horizon = top
	x.Names = api.Names{Stops: numbered("s", 256), Paths: numbered("p", 1024), Doors: numbered("d", 256), Routes: numbered("r", 256), Trips: numbered("t", 1024), Hazards: numbered("h", 256)}
	x.Paths = slices.Repeat(x.Paths[:1], 1024)
	x.Doors = slices.Repeat([]api.DoorOf{{B: 1, Len: 1, Times: api.Times{Every: top, Len: top}}}, 256)
	x.Hazards = slices.Repeat([]api.HazardOf{{On: 1, Times: api.Times{Every: top, Len: top}}}, 256)
	x.Routes, x.Trips = nil, nil
	for i := range 256 {
		r := api.RouteOf{Rides: slices.Repeat([]int64{int64(i + 1)}, 31), Stays: slices.Repeat([]int64{int64(i)}, 30)}
		for at := range 32 {
			r.Stops = append(r.Stops, (i+at*7)%256)
		}
		x.Routes = append(x.Routes, r)
	}
	for i := range 1024 {
		x.Trips = append(x.Trips, api.TripOf{Route: (i * 5) % 256, From: int64(i), Every: top / 18, Until: top/18*15 + 2000})
	}
	if bad := world.Check(x); bad != (api.Wrong{}) {
		t.Fatal(bad)
	}
	if l := agreesMuch(t, "the greatest world", x); len(l) != mostRuns {
		t.Fatal(len(l))
	}
	for _, trip := range []int{0, 1, 1023} {
		l := plainTrip(x, trip)
		if n := expand.Count(x, trip); n != len(l) {
			t.Error(trip, n)
		}
		r, err := expand.One(x, trip, len(l)-1)
		if err != api.OK || !sameRun(r, l[len(l)-1]) || expand.Check(x, r) != api.OK {
			t.Error(r, err)
		}
		isNone(t, "the greatest world", x, trip, len(l))
	}
	x.Trips[1000].Until = top
	crowded(t, "the greatest world, and one run more", x)
}

func TestP10_1TheLeastWorlds(t *testing.T) {
	for _, horizon := range []int64{0, 1, top} {
		agrees(t, "nothing", api.World{Horizon: horizon})
	}
	least := api.World{Horizon: 1, Names: api.Names{Stops: []string{"a", "b"}, Routes: []string{"r"}, Trips: []string{"t"}}, Routes: []api.RouteOf{{Stops: []int{0, 1}, Rides: []int64{1}}}, Trips: []api.TripOf{{}}}
	if l := agrees(t, "a run", least); len(l) != 1 || !sameRun(l[0], api.Run{Arr: []int64{0, 1}, Dep: []int64{0, 1}}) {
		t.Error(l)
	}
	least.Horizon = 0
	if l := agrees(t, "no run", least); len(l) != 0 {
		t.Error(l)
	}
}

func draw(seed *uint64) uint64 {
	*seed = *seed*6364136223846793005 + 1442695040888963407
	return *seed >> 33
}

func upTo(seed *uint64, n int) int64 {
	return int64(draw(seed) % uint64(n+1))
}

// drawnWorld is one that may be, with a few routes and trips.
func drawnWorld(seed *uint64) api.World {
	var routes []api.RouteOf
	for range 1 + upTo(seed, 2) {
		rides, stays := []int64{1 + upTo(seed, 9)}, []int64{}
		for range upTo(seed, 4) {
			rides, stays = append(rides, 1+upTo(seed, 9)), append(stays, upTo(seed, 3))
		}
		routes = append(routes, line(rides, stays))
	}
	var trips []api.TripOf
	for range upTo(seed, 4) {
		from := upTo(seed, 60)
		trips = append(trips, api.TripOf{Route: int(upTo(seed, len(routes)-1)), From: from, Every: upTo(seed, 12), Until: from + upTo(seed, 60)})
	}
	return of(upTo(seed, 120), routes, trips...)
}

func TestP10_1DrawnWorlds(t *testing.T) {
	seed := uint64(10)
	runs := 0
	for range 3000 {
		runs += len(agrees(t, "a drawn world", drawnWorld(&seed)))
	}
	if runs < 3000 {
		t.Errorf("too few runs: %d", runs)
	}
}

func TestP10_3TheRunsThatAreThereAreTheFirstOnes(t *testing.T) {
	seed := uint64(103)
	for range 500 {
		w := drawnWorld(&seed)
		l, err := expand.All(w)
		if err != api.OK {
			t.Fatal(err)
		}
		counted := make([]int, len(w.Trips))
		for _, r := range l {
			if r.No != counted[r.Trip] {
				t.Fatalf("%v: %v is not the next one", w, r)
			}
			counted[r.Trip]++
		}
		for trip, n := range counted {
			if c := expand.Count(w, trip); c != n {
				t.Fatalf("%v: Count of %d is %d; All has %d", w, trip, c, n)
			}
			// A run behind those that are there can't be made to fit by a nearer Until.
			if next := plainRun(w, trip, n); w.Trips[trip].Every > 0 && next.Dep[0] <= w.Trips[trip].Until && next.Arr[len(next.Arr)-1] <= w.Horizon {
				t.Fatalf("%v: %v should be there", w, next)
			}
		}
	}
}

func TestP10_3EachRunIsTheFirstOneMoved(t *testing.T) {
	seed := uint64(1033)
	for range 500 {
		w := drawnWorld(&seed)
		for trip, of := range w.Trips {
			for no := range expand.Count(w, trip) {
				r, _ := expand.One(w, trip, no)
				first, _ := expand.One(w, trip, 0)
				by := int64(no) * of.Every
				moved, err := expand.Later(first, 0, by)
				moved.No = no
				if err != api.OK || !sameRun(moved, r) {
					t.Fatalf("%v is not %v, moved by %d (%v)", r, first, by, err)
				}
			}
		}
	}
}

// roomy tells a list with spare room that is junk.
func roomy[T any](l []T, junk T) []T {
	all := append(slices.Clone(l), junk, junk)
	return all[:len(l):len(all)]
}

// roomyWorld tells a world like w all of whose lists have spare room.
func roomyWorld(w api.World) api.World {
	n := w.Names
	w.Names = api.Names{Stops: roomy(n.Stops, "?"), Paths: roomy(n.Paths, "?"), Doors: roomy(n.Doors, "?"), Routes: roomy(n.Routes, "?"), Trips: roomy(n.Trips, "?"), Hazards: roomy(n.Hazards, "?")}
	w.Routes = roomy(w.Routes, api.RouteOf{Stops: []int{-7}})
	for i, r := range w.Routes {
		w.Routes[i] = api.RouteOf{Stops: roomy(r.Stops, -7), Rides: roomy(r.Rides, -7), Stays: roomy(r.Stays, -7)}
	}
	w.Paths = roomy(w.Paths, api.PathOf{A: -7})
	w.Doors = roomy(w.Doors, api.DoorOf{A: -7})
	w.Trips = roomy(w.Trips, api.TripOf{Route: -7})
	w.Hazards = roomy(w.Hazards, api.HazardOf{On: -7})
	return w
}

// unfolded tells all that the lists of x have, their spare room with them, as text.
func unfolded(x any) string {
	var b strings.Builder
	unfold(&b, reflect.ValueOf(x))
	return b.String()
}

func unfold(b *strings.Builder, v reflect.Value) {
	switch v.Kind() {
	case reflect.Struct:
		for i := range v.NumField() {
			unfold(b, v.Field(i))
		}
	case reflect.Slice:
		all := v.Slice(0, v.Cap())
		b.WriteString("[" + strconv.Itoa(v.Len()) + ":")
		for i := range all.Len() {
			unfold(b, all.Index(i))
		}
		b.WriteString("]")
	case reflect.String:
		b.WriteString(strconv.Quote(v.String()))
	case reflect.Bool:
		b.WriteString(strconv.FormatBool(v.Bool()))
	default:
		b.WriteString(strconv.FormatInt(v.Int(), 10))
	}
	b.WriteString(" ")
}

// area is the memory of a list with its spare room.
type area struct{ from, to uintptr }

func areaOf[T any](l []T) area {
	from := uintptr(unsafe.Pointer(unsafe.SliceData(l)))
	var x T
	return area{from, from + uintptr(cap(l))*unsafe.Sizeof(x)}
}

// apart checks that no two of the lists share memory.
func apart(t *testing.T, title string, areas ...area) {
	t.Helper()
	slices.SortFunc(areas, func(a, b area) int {
		if a.from < b.from {
			return -1
		}
		return 1
	})
	end := uintptr(0)
	for _, a := range areas {
		if a.from == a.to {
			continue
		}
		if a.from < end {
			t.Errorf("%s: lists share memory", title)
		}
		end = max(end, a.to)
	}
}

func runAreas(l ...api.Run) []area {
	var all []area
	for _, r := range l {
		all = append(all, areaOf(r.Arr), areaOf(r.Dep))
	}
	return all
}

func worldAreas(w api.World) []area {
	all := []area{areaOf(w.Trips), areaOf(w.Routes)}
	for _, r := range w.Routes {
		all = append(all, areaOf(r.Stops), areaOf(r.Rides), areaOf(r.Stays))
	}
	return all
}

func TestWhatIsAnsweredIsNewMemory(t *testing.T) {
	for _, in := range []api.World{whole(), roomyWorld(whole())} {
		one, _ := expand.All(in)
		other, _ := expand.All(in)
		r, _ := expand.One(in, 0, 1)
		again, _ := expand.One(in, 0, 1)
		all := append(worldAreas(in), areaOf(one), areaOf(other))
		all = append(all, runAreas(one...)...)
		all = append(all, runAreas(other...)...)
		apart(t, "All and One", append(all, runAreas(r, again)...)...)
	}
}

func TestAWorldThatIsHandedInStays(t *testing.T) {
	w := roomyWorld(whole())
	before := unfolded(w)
	l := agrees(t, "a world with spare room", w)
	if len(l) != 6 || unfolded(w) != before {
		t.Error("what is handed in is changed")
	}
	for title, w := range wrongWorlds(t) {
		w = roomyWorld(w)
		before := unfolded(w)
		refuses(t, title+", with spare room", w)
		if unfolded(w) != before {
			t.Errorf("%s: what is handed in is changed", title)
		}
	}
}

func TestAnAnswerStaysWhenTheWorldIsChanged(t *testing.T) {
	w := whole()
	l, _ := expand.All(w)
	r, _ := expand.One(w, 3, 0)
	want, wantRun := unfolded(l), unfolded(r)
	for i := range w.Trips {
		w.Trips[i] = api.TripOf{Route: 1, From: 3}
	}
	for i := range w.Routes {
		for at := range w.Routes[i].Rides {
			w.Routes[i].Rides[at] = 9
		}
		w.Routes[i].Stops[0] = 9
	}
	if unfolded(l) != want || unfolded(r) != wantRun {
		t.Error(l, r)
	}
	changed, _ := expand.All(whole())
	changed[0].Arr[0], changed[0].Dep[1], changed[1].No = -1, -1, -1
	agrees(t, "when an answer was changed", whole())
}
