package link_test

import (
	"math"
	"reflect"
	"slices"
	"strconv"
	"testing"

	"timetable/api"
	"timetable/link"
	"timetable/sheet"
	"timetable/world"
)

// plainWins tells the windows of times up to a horizon, one behind the other.
func plainWins(t api.Times, horizon int64) []api.Win {
	var l []api.Win
	for from := t.From; from <= horizon; from += t.Every {
		l = append(l, api.Win{From: from, To: from + t.Len})
		if t.Every == 0 {
			break
		}
	}
	return l
}

// plainJoined puts each window to those that it overlaps or touches.
func plainJoined(l []api.Win) []api.Win {
	var joined []api.Win
	slices.SortFunc(l, func(a, b api.Win) int { return int(a.From - b.From) })
	for _, w := range l {
		last := len(joined) - 1
		if last < 0 || joined[last].To < w.From {
			joined = append(joined, w)
		} else if joined[last].To < w.To {
			joined[last].To = w.To
		}
	}
	return joined
}

// plainClosed tells when something is closed by its hazards.
func plainClosed(w api.World, stop bool, on int) []api.Win {
	var l []api.Win
	for _, h := range w.Hazards {
		if h.Stop == stop && h.On == on {
			l = append(l, plainWins(h.Times, w.Horizon)...)
		}
	}
	return plainJoined(l)
}

// plainMake tells the net of a world that may be, by the document's words.
func plainMake(w api.World) api.Net {
	n := api.Net{Horizon: w.Horizon, Closed: make([][]api.Win, len(w.Names.Stops))}
	for i := range n.Closed {
		n.Closed[i] = plainClosed(w, true, i)
	}
	for i, d := range w.Doors {
		n.Links = append(n.Links, api.Link{A: d.A, B: d.B, Len: d.Len, Door: true, Of: i, Open: plainJoined(plainWins(d.Times, w.Horizon))})
	}
	for i, p := range w.Paths {
		n.Links = append(n.Links, api.Link{A: p.A, B: p.B, Len: p.Len, Of: i, Closed: plainClosed(w, false, i)})
		n.Links = append(n.Links, api.Link{A: p.B, B: p.A, Len: p.Len, Of: i, Closed: plainClosed(w, false, i)})
	}
	return n
}

// makes checks a world's net, and that it may be.
func makes(t *testing.T, title string, w api.World, want api.Net) {
	t.Helper()
	n, err := link.Make(w)
	if err != api.OK || !alike(n, want) {
		t.Errorf("%s: Make of %v is %v, %v; it should be %v", title, w, n, err, want)
	}
	if link.Check(n) != api.OK || plainCheck(n) != api.OK {
		t.Errorf("%s: the net may not be", title)
	}
}

// numbered are n names.
func numbered(letter string, n int) []string {
	var l []string
	for i := range n {
		l = append(l, letter+strconv.Itoa(i))
	}
	return l
}

// of is a world of three stops, some paths and doors, with these hazards. Its doors open the more seldom the farther the horizon is.
func of(horizon int64, hazards ...api.HazardOf) api.World {
	return api.World{
		Horizon: horizon,
		Names:   api.Names{Stops: numbered("s", 3), Paths: numbered("p", 3), Doors: numbered("d", 2), Hazards: numbered("h", len(hazards))},
		Paths:   []api.PathOf{{A: 0, B: 1, Len: 4}, {A: 2, B: 1, Len: 7}, {A: 2, B: 0, Len: 1}},
		Doors:   []api.DoorOf{{A: 1, B: 2, Len: 3, Times: api.Times{From: 5, Every: 10 + horizon/100, Len: 2}}, {A: 1, B: 0, Len: 6, Times: api.Times{From: 1, Every: 3 + horizon/100, Len: 3}}},
		Hazards: hazards,
	}
}

func onStop(stop int, from, every, length int64) api.HazardOf {
	return api.HazardOf{Stop: true, On: stop, Times: api.Times{From: from, Every: every, Len: length}}
}

func onPath(path int, from, every, length int64) api.HazardOf {
	return api.HazardOf{On: path, Times: api.Times{From: from, Every: every, Len: length}}
}

// crowded is a world with several hazards on each thing, which overlap, touch and stand apart.
func crowded() api.World {
	return of(40,
		onStop(1, 30, 0, 9), onStop(1, 3, 0, 4), onStop(1, 7, 0, 2), onPath(1, 8, 10, 2), onStop(1, 5, 20, 3),
		onPath(1, 10, 10, 1), onPath(1, 30, 0, 90), onPath(0, 4, 0, 1), onStop(0, 0, 1, 1), onPath(2, 41, 0, 5),
		onPath(2, 40, 0, 5), onStop(2, 50, 3, 2), onPath(1, 1, 7, 2))
}

// greatest has as many stops, paths, doors and hazards as may be, each of them as many windows.
func greatest() api.World {
	w := api.World{
		Horizon: top,
		Names:   api.Names{Stops: numbered("s", 256), Paths: numbered("p", 1024), Doors: numbered("d", 256), Routes: numbered("r", 1), Hazards: numbered("h", 256)},
		Routes:  []api.RouteOf{{Stops: []int{0, 1}, Rides: []int64{top}}},
	}
	for i := range 1024 {
		w.Paths = append(w.Paths, api.PathOf{A: i % 256, B: (i + 1 + i/256) % 256, Len: top - int64(i)})
	}
	for i := range 256 {
		w.Doors = append(w.Doors, api.DoorOf{A: 255 - i, B: (256 - i) % 256, Len: 1 + int64(i), Times: api.Times{From: 1 + int64(i), Every: 1 << 32, Len: 1 + int64(i)}})
		w.Hazards = append(w.Hazards, api.HazardOf{Stop: i%2 == 0, On: 255 * (i % 4 / 2), Times: api.Times{From: 1 + int64(i)<<20, Every: 1 << 32, Len: int64(1+i%7) << 20}})
	}
	return w
}

func TestP11_1MakeOfAWholeWorld(t *testing.T) {
	makes(t, "a whole world", whole(t), wholeNet())
	makes(t, "a whole world, the plain way", whole(t), plainMake(whole(t)))
	makes(t, "a crowded world", crowded(), plainMake(crowded()))
}

func TestP11_1MakeOfTheLeastWorlds(t *testing.T) {
	for _, horizon := range []int64{0, 1, 30, top} {
		makes(t, "nothing", api.World{Horizon: horizon}, api.Net{Horizon: horizon})
		makes(t, "a stop", api.World{Horizon: horizon, Names: api.Names{Stops: []string{"a"}}}, net(horizon, rows(nil)))
		makes(t, "two stops", api.World{Horizon: horizon, Names: api.Names{Stops: []string{"a", "b"}}}, net(horizon, rows(nil, nil)))
	}
	least := api.World{Names: api.Names{Stops: []string{"a", "b"}, Paths: []string{"p"}}, Paths: []api.PathOf{{B: 1, Len: 1}}}
	makes(t, "a path", least, net(0, rows(nil, nil), path(0, 1, 1, nil), path(1, 0, 1, nil)))
	least = api.World{Names: api.Names{Stops: []string{"a", "b"}, Doors: []string{"d"}}, Doors: []api.DoorOf{{A: 1, Len: 1, Times: api.Times{Len: 1}}}}
	makes(t, "a door", least, net(0, rows(nil, nil), door(1, 0, 1, row(0, 1))))
	least.Doors[0].Times.From = 1
	makes(t, "a door behind the horizon", least, net(0, rows(nil, nil), door(1, 0, 1, nil)))
}

func TestP11_1MakeOfTheGreatestWorld(t *testing.T) {
	w := greatest()
	n, err := link.Make(w)
	if err != api.OK || !alike(n, plainMake(w)) {
		t.Fatal("the greatest world has another net", err)
	}
	if len(n.Closed) != mostStops || len(n.Links) != mostLinks || len(n.Closed[0]) < 5000 || len(n.Links[0].Open) != 256 {
		t.Error(len(n.Closed), len(n.Links), len(n.Closed[0]), len(n.Links[0].Open))
	}
	if link.Check(n) != api.OK {
		t.Error("the greatest net may not be")
	}
	for _, x := range []int64{0, 1, 4, 1 << 32, 7 << 20, 1<<38 + 9, top / 2, top - 1024, top - 1, top, inf} {
		for _, at := range []int{0, 1, 254, 255, 256, 257, 766, 767, 1000, 2302, 2303, 2304} {
			agreesAt(t, "the greatest net", n, at, x)
		}
		for _, stop := range []int{0, 1, 255, 256} {
			if link.Open(n, stop, x) != plainOpen(n, stop, x) {
				t.Errorf("Open of %d at %d is %v", stop, x, link.Open(n, stop, x))
			}
		}
	}
	for stop := range 256 {
		if !slices.Equal(link.Out(n, stop), plainOut(n, stop)) {
			t.Errorf("Out of %d is %v", stop, link.Out(n, stop))
		}
	}
	n.Links = append(n.Links, n.Links[0])
	refuses(t, "the greatest net, and a link more", n)
	n.Links = n.Links[:mostLinks]
	n.Closed = append(n.Closed, nil)
	refuses(t, "the greatest net, and a stop more", n)
}

func TestP11_1TheOrderOfLinks(t *testing.T) {
	n, err := link.Make(of(9))
	want := []api.Link{
		{A: 1, B: 2, Len: 3, Door: true, Of: 0}, {A: 1, B: 0, Len: 6, Door: true, Of: 1},
		{A: 0, B: 1, Len: 4, Of: 0}, {A: 1, B: 0, Len: 4, Of: 0},
		{A: 2, B: 1, Len: 7, Of: 1}, {A: 1, B: 2, Len: 7, Of: 1},
		{A: 2, B: 0, Len: 1, Of: 2}, {A: 0, B: 2, Len: 1, Of: 2},
	}
	for i := range n.Links {
		n.Links[i].Open = nil
	}
	if err != api.OK || !alike(n.Links, want) {
		t.Error(n.Links, err)
	}
	makes(t, "doors and paths", of(9), plainMake(of(9)))
}

func TestP11_1TheWindowsOfADoor(t *testing.T) {
	for _, c := range []struct {
		from, every, length, horizon int64
		want                         []api.Win
	}{
		{5, 10, 2, 20, row(5, 7, 15, 17)},
		{5, 10, 2, 24, row(5, 7, 15, 17)},
		{5, 10, 2, 25, row(5, 7, 15, 17, 25, 27)},
		{5, 10, 2, 4, nil},
		{5, 10, 2, 5, row(5, 7)},
		{5, 10, 10, 25, row(5, 35)},
		{5, 10, 9, 25, row(5, 14, 15, 24, 25, 34)},
		{5, 0, 10, 25, row(5, 15)},
		{0, 0, 1, 0, row(0, 1)},
		{top, 0, top, top, row(top, 2*top)},
		{0, top, top, top, row(0, 2*top)},
		{0, top, 1, top, row(0, 1, top, top+1)},
		{top, 0, 1, top - 1, nil},
	} {
		w := of(c.horizon)
		w.Doors[1].Times = api.Times{From: c.from, Every: c.every, Len: c.length}
		n, err := link.Make(w)
		if err != api.OK || !slices.Equal(n.Links[1].Open, c.want) || len(n.Links[1].Closed) > 0 {
			t.Errorf("a door's windows of %v are %v, %v; they should be %v", c, n.Links[1], err, c.want)
		}
	}
}

// closedBy checks what some hazards, told in whatever order, close of a stop, and of a path both ways.
func closedBy(t *testing.T, title string, horizon int64, want []api.Win, times ...api.Times) {
	t.Helper()
	var stops, paths []api.HazardOf
	for _, x := range times {
		stops = append(stops, api.HazardOf{Stop: true, On: 1, Times: x})
		paths = append(paths, api.HazardOf{On: 1, Times: x})
	}
	nothing := plainMake(of(horizon))
	closed := copied(nothing, 0)
	closed.Closed[1] = want
	makes(t, title+", of a stop", of(horizon, stops...), closed)
	closed = copied(nothing, 0)
	closed.Links[4].Closed, closed.Links[5].Closed = want, want
	makes(t, title+", of a path", of(horizon, paths...), closed)
	both := copied(closed, 0)
	both.Closed[1] = want
	slices.Reverse(paths)
	makes(t, title+", of both", of(horizon, append(paths, stops...)...), both)
}

func TestP11_1WhatHazardsClose(t *testing.T) {
	at := func(from, every, length int64) api.Times { return api.Times{From: from, Every: every, Len: length} }
	closedBy(t, "no hazard", 40, nil)
	closedBy(t, "one", 40, row(8, 10), at(8, 0, 2))
	closedBy(t, "one again and again", 40, row(8, 10, 18, 20, 28, 30, 38, 40), at(8, 10, 2))
	closedBy(t, "one without a pause", 40, row(8, 48), at(8, 10, 10))
	closedBy(t, "one behind the horizon", 40, nil, at(41, 1, 1))
	closedBy(t, "one at the horizon", 40, row(40, 45), at(40, 5, 5))
	closedBy(t, "one across the horizon", 40, row(39, 90), at(39, 0, 51))
	closedBy(t, "two apart", 40, row(3, 5, 6, 9), at(3, 0, 2), at(6, 0, 3))
	closedBy(t, "two out of order", 40, row(3, 5, 6, 9), at(6, 0, 3), at(3, 0, 2))
	closedBy(t, "two that touch", 40, row(3, 9), at(3, 0, 3), at(6, 0, 3))
	closedBy(t, "two that touch, out of order", 40, row(3, 9), at(6, 0, 3), at(3, 0, 3))
	closedBy(t, "two that overlap", 40, row(3, 9), at(3, 0, 4), at(5, 0, 4))
	closedBy(t, "two that overlap, out of order", 40, row(3, 9), at(5, 0, 4), at(3, 0, 4))
	closedBy(t, "one in the other", 40, row(3, 19), at(3, 0, 16), at(5, 0, 4))
	closedBy(t, "the same twice", 40, row(3, 5, 13, 15, 23, 25, 33, 35), at(3, 10, 2), at(3, 10, 2))
	closedBy(t, "two again and again", 30, row(0, 2, 3, 7, 10, 12, 13, 17, 20, 22, 23, 27, 30, 32), at(3, 10, 3), at(0, 5, 2), at(0, 5, 2))
	closedBy(t, "a gap that is filled", 40, row(3, 12), at(8, 0, 4), at(3, 0, 2), at(5, 0, 3))
	closedBy(t, "two that touch, and one behind", 40, row(1, 3, 5, 9), at(7, 0, 2), at(1, 0, 2), at(5, 0, 2))
	closedBy(t, "five, out of order", 40, row(0, 4, 5, 6, 9, 14, 20, 21), at(20, 0, 1), at(9, 0, 5), at(2, 0, 2), at(5, 0, 1), at(0, 0, 3))
	closedBy(t, "far out", top, row(0, 2*top), at(top, 0, top), at(0, 0, top))
	closedBy(t, "far out, apart", top, row(0, top-1, top, top+1), at(top, 0, 1), at(0, 0, top-1))
}

func TestP11_1AHazardOnOneThingAlone(t *testing.T) {
	for on := range 3 {
		n, err := link.Make(of(30, onStop(on, 4, 0, 3)))
		want := plainMake(of(30))
		want.Closed[on] = row(4, 7)
		if err != api.OK || !alike(n, want) {
			t.Errorf("on stop %d: %v, %v", on, n, err)
		}
		n, err = link.Make(of(30, onPath(on, 4, 0, 3)))
		want = plainMake(of(30))
		want.Links[2+2*on].Closed, want.Links[3+2*on].Closed = row(4, 7), row(4, 7)
		if err != api.OK || !alike(n, want) {
			t.Errorf("on path %d: %v, %v", on, n, err)
		}
	}
}

// TestP11_1WhatHazardsCloseByMarks holds what is joined against ticks that are marked one by one.
func TestP11_1WhatHazardsCloseByMarks(t *testing.T) {
	seed := uint64(1101)
	for range 2000 {
		var hazards []api.HazardOf
		for range upTo(&seed, 6) {
			length := 1 + upTo(&seed, 5)
			every := length + upTo(&seed, 12)
			if draw(&seed)%3 == 0 {
				every = 0
			}
			h := onStop(int(upTo(&seed, 2)), upTo(&seed, 40), every, length)
			h.Stop = draw(&seed)%2 == 0
			hazards = append(hazards, h)
		}
		w := of(upTo(&seed, 40), hazards...)
		n, err := link.Make(w)
		if err != api.OK || !alike(n, plainMake(w)) {
			t.Fatalf("Make of %v is %v, %v", w, n, err)
		}
		marks := map[api.HazardOf]bool{}
		for _, h := range hazards {
			for _, x := range plainWins(h.Times, w.Horizon) {
				for y := x.From; y < x.To; y++ {
					marks[onStop(h.On, y, 0, 0)] = marks[onStop(h.On, y, 0, 0)] || h.Stop
					marks[onPath(h.On, y, 0, 0)] = marks[onPath(h.On, y, 0, 0)] || !h.Stop
				}
			}
		}
		for on := range 3 {
			for y := range int64(60) {
				stop, path := marks[onStop(on, y, 0, 0)], marks[onPath(on, y, 0, 0)]
				if has(n.Closed[on], y) != stop || has(n.Links[2+2*on].Closed, y) != path || has(n.Links[3+2*on].Closed, y) != path {
					t.Fatalf("Make of %v is %v, at %d", w, n, y)
				}
			}
		}
	}
}

func TestP11_1AsManyHazardsAsMayBeOnOneThing(t *testing.T) {
	for _, stop := range []bool{true, false} {
		var apart, touching []api.HazardOf
		for i := range int64(256) {
			apart = append(apart, api.HazardOf{Stop: stop, On: 2, Times: api.Times{From: 3 * (255 - i), Every: 3 * 256, Len: 1}})
			touching = append(touching, api.HazardOf{Stop: stop, On: 2, Times: api.Times{From: 3 * (i * 7 % 256), Every: 3 * 256, Len: 3}})
		}
		horizon := int64(3*256*256 - 1)
		for title, hazards := range map[string][]api.HazardOf{"apart": apart, "touching": touching} {
			w := of(horizon, hazards...)
			want := plainMake(w)
			if n := len(want.Closed[2]) + len(want.Links[6].Closed); n != 1 && n != 65536 {
				t.Fatal(title, n)
			}
			n, err := link.Make(w)
			if err != api.OK || !alike(n, want) || link.Check(n) != api.OK {
				t.Errorf("%s: another net: %v", title, err)
			}
		}
	}
}

// wrongWorlds are whole worlds with one thing wrong, by what it is.
func wrongWorlds(t *testing.T) map[string]api.World {
	faults := map[string]func(w *api.World){
		"the horizon below 0":         func(w *api.World) { w.Horizon = -1 },
		"the horizon above MaxTick":   func(w *api.World) { w.Horizon = top + 1 },
		"the horizon never":           func(w *api.World) { w.Horizon = inf },
		"too many stops":              func(w *api.World) { w.Names.Stops = append(w.Names.Stops, numbered("s", 253)...) },
		"too many doors":              func(w *api.World) { w.Doors, w.Names.Doors = slices.Repeat(w.Doors[:1], 257), numbered("d", 257) },
		"too many paths":              func(w *api.World) { w.Paths, w.Names.Paths = slices.Repeat(w.Paths[:1], 1025), numbered("p", 1025) },
		"too many hazards":            func(w *api.World) { w.Hazards, w.Names.Hazards = slices.Repeat(w.Hazards[:1], 257), numbered("h", 257) },
		"a reserved word":             func(w *api.World) { w.Names.Stops[3] = "open" },
		"an empty name":               func(w *api.World) { w.Names.Trips[0] = "" },
		"a name that is there":        func(w *api.World) { w.Names.Hazards[1] = "a" },
		"a path too few":              func(w *api.World) { w.Paths = w.Paths[:1] },
		"a path's name too few":       func(w *api.World) { w.Names.Paths = w.Names.Paths[:1] },
		"a door too many":             func(w *api.World) { w.Doors = append(w.Doors, w.Doors[0]) },
		"a door's name too many":      func(w *api.World) { w.Names.Doors = append(w.Names.Doors, "more") },
		"a route too few":             func(w *api.World) { w.Routes = nil },
		"a trip too few":              func(w *api.World) { w.Trips = nil },
		"a hazard too few":            func(w *api.World) { w.Hazards = w.Hazards[:1] },
		"a path's stop":               func(w *api.World) { w.Paths[0].A = 4 },
		"a path's stop below 0":       func(w *api.World) { w.Paths[1].B = -1 },
		"a path to where it begins":   func(w *api.World) { w.Paths[0].B = 0 },
		"a path of no length":         func(w *api.World) { w.Paths[1].Len = 0 },
		"a path too long":             func(w *api.World) { w.Paths[1].Len = top + 1 },
		"a door's stop":               func(w *api.World) { w.Doors[1].B = math.MinInt },
		"a door's stop, the other":    func(w *api.World) { w.Doors[1].A = math.MaxInt },
		"a door to where it begins":   func(w *api.World) { w.Doors[1].B = 3 },
		"a door of no length":         func(w *api.World) { w.Doors[0].Len = 0 },
		"a door's From":               func(w *api.World) { w.Doors[0].Times.From = -1 },
		"a door that is never open":   func(w *api.World) { w.Doors[0].Times.Len = 0 },
		"a door that overlaps itself": func(w *api.World) { w.Doors[0].Times.Len = 11 },
		"a door's windows":            func(w *api.World) { w.Horizon, w.Doors[0].Times.Every = 9999, 2 },
		"a route's stop":              func(w *api.World) { w.Routes[0].Stops[2] = 4 },
		"a ride of no time":           func(w *api.World) { w.Routes[0].Rides[1] = 0 },
		"a trip's route":              func(w *api.World) { w.Trips[0].Route = 3 },
		"a trip's Until too small":    func(w *api.World) { w.Trips[0].Until = 0 },
		"a hazard on no path":         func(w *api.World) { w.Hazards[0].On = 2 },
		"a hazard on no stop":         func(w *api.World) { w.Hazards[1].On = -1 },
		"a hazard of no length":       func(w *api.World) { w.Hazards[1].Times.Len = 0 },
		"a hazard's windows":          func(w *api.World) { w.Horizon, w.Hazards[3].Times.Every = 9999, 1 },
	}
	l := map[string]api.World{}
	for title, spoil := range faults {
		w := whole(t)
		spoil(&w)
		if world.Check(w).Err == api.OK {
			t.Fatalf("%s: there is nothing wrong", title)
		}
		l[title] = w
	}
	return l
}

func TestP11_1MakeOfWorldsThatMayNotBe(t *testing.T) {
	for title, w := range wrongWorlds(t) {
		for _, room := range []int{0, 2} {
			in := copied(w, room)
			before := unfolded(in)
			if n, err := link.Make(in); err != api.ErrArg || !alike(n, api.Net{}) {
				t.Errorf("%s: Make is %v, %v", title, n, err)
			}
			if !reflect.DeepEqual(unfolded(in), before) {
				t.Errorf("%s: what is handed in is changed", title)
			}
		}
	}
}

// FuzzMake makes nets of texts.
func FuzzMake(f *testing.F) {
	f.Add("stop a\nstop b\npath p a b 3\nhazard h on p from 4 every 0 closed 5\n", int64(3))
	f.Add("stop a\nstop b\ndoor d a b 1 from 0 every 9 open 2\nhazard h on a from 4 every 9 closed 5\n", int64(7))
	f.Fuzz(func(t *testing.T, text string, x int64) {
		sheet, fault := sheet.Parse("horizon 300\n" + text)
		w, wrong := world.Make(sheet)
		if fault == (api.Fault{}) && wrong == (api.Wrong{}) {
			makes(t, "a text", w, plainMake(w))
			agrees(t, "a text", plainMake(w), x, 0)
		}
	})
}
