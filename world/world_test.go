package world_test

import (
	"cmp"
	"math"
	"reflect"
	"slices"
	"strconv"
	"strings"
	"testing"

	"timetable/api"
	"timetable/sheet"
	"timetable/world"
)

const (
	top      = int64(api.MaxTick)
	mostWins = 256
	horizon  = int64(1000)
)

// wrong is what a thing has.
func wrong(err api.Errno, kind, at int) api.Wrong {
	return api.Wrong{Err: err, Kind: kind, At: at}
}

// kindNames are the kinds' names, by their numbers.
var kindNames = []string{"horizon", "stop", "path", "door", "route", "trip", "hazard"}

// wholeSheet has things of all kinds, and nothing that is wrong.
func wholeSheet() api.Sheet {
	return api.Sheet{
		Horizon: horizon,
		Stops:   []string{"a", "b", "c", "d"},
		Paths:   []api.Path{{Name: "p", A: "a", B: "b", Len: 3}, {Name: "q", A: "d", B: "b", Len: 1}},
		Doors: []api.Door{
			{Name: "e", A: "a", B: "c", Len: 2, Times: api.Times{From: 5, Every: 10, Len: 2}},
			{Name: "f", A: "d", B: "a", Len: 7, Times: api.Times{From: 0, Every: 0, Len: 1}},
			{Name: "g", A: "c", B: "b", Len: 1, Times: api.Times{From: 9, Every: 500, Len: 3}},
		},
		Routes: []api.Route{
			{Name: "r", Stops: []string{"a", "b", "c"}, Rides: []int64{5, 3}, Stays: []int64{2}},
			{Name: "s", Stops: []string{"c", "d", "c", "a"}, Rides: []int64{1, 2, 4}, Stays: []int64{0, 6}},
			{Name: "u", Stops: []string{"d", "c"}, Rides: []int64{8}},
		},
		Trips: []api.Trip{
			{Name: "t", Route: "u", From: 1, Every: 10, Until: 40},
			{Name: "v", Route: "r", From: 7, Every: 0, Until: 7},
			{Name: "w", Route: "s", From: 2, Every: 1, Until: 3},
		},
		Hazards: []api.Hazard{
			{Name: "h", On: "q", Times: api.Times{From: 4, Every: 0, Len: 3}},
			{Name: "i", On: "c", Times: api.Times{From: 0, Every: 20, Len: 1}},
			{Name: "j", On: "p", Times: api.Times{From: 6, Every: 7, Len: 2}},
			{Name: "k", On: "a", Times: api.Times{From: 3, Every: 0, Len: 1}},
		},
	}
}

// wholeWorld is the world of wholeSheet.
func wholeWorld() api.World {
	return api.World{
		Horizon: horizon,
		Names: api.Names{
			Stops:   []string{"a", "b", "c", "d"},
			Paths:   []string{"p", "q"},
			Doors:   []string{"e", "f", "g"},
			Routes:  []string{"r", "s", "u"},
			Trips:   []string{"t", "v", "w"},
			Hazards: []string{"h", "i", "j", "k"},
		},
		Paths: []api.PathOf{{A: 0, B: 1, Len: 3}, {A: 3, B: 1, Len: 1}},
		Doors: []api.DoorOf{
			{A: 0, B: 2, Len: 2, Times: api.Times{From: 5, Every: 10, Len: 2}},
			{A: 3, B: 0, Len: 7, Times: api.Times{From: 0, Every: 0, Len: 1}},
			{A: 2, B: 1, Len: 1, Times: api.Times{From: 9, Every: 500, Len: 3}},
		},
		Routes: []api.RouteOf{
			{Stops: []int{0, 1, 2}, Rides: []int64{5, 3}, Stays: []int64{2}},
			{Stops: []int{2, 3, 2, 0}, Rides: []int64{1, 2, 4}, Stays: []int64{0, 6}},
			{Stops: []int{3, 2}, Rides: []int64{8}},
		},
		Trips: []api.TripOf{
			{Route: 2, From: 1, Every: 10, Until: 40},
			{Route: 0, From: 7, Every: 0, Until: 7},
			{Route: 1, From: 2, Every: 1, Until: 3},
		},
		Hazards: []api.HazardOf{
			{Stop: false, On: 1, Times: api.Times{From: 4, Every: 0, Len: 3}},
			{Stop: true, On: 2, Times: api.Times{From: 0, Every: 20, Len: 1}},
			{Stop: false, On: 0, Times: api.Times{From: 6, Every: 7, Len: 2}},
			{Stop: true, On: 0, Times: api.Times{From: 3, Every: 0, Len: 1}},
		},
	}
}

// copied tells a copy of x whose lists share no memory, each with so much spare room that is junk; without room, an empty list is nil.
func copied[T any](x T, room int) T {
	var y T
	copyInto(reflect.ValueOf(&y).Elem(), reflect.ValueOf(x), room)
	return y
}

func copyInto(to, from reflect.Value, room int) {
	switch from.Kind() {
	case reflect.Struct:
		for i := range from.NumField() {
			copyInto(to.Field(i), from.Field(i), room)
		}
	case reflect.Slice:
		n := from.Len()
		if n+room == 0 {
			return
		}
		l := reflect.MakeSlice(from.Type(), n+room, n+room)
		for i := range n {
			copyInto(l.Index(i), from.Index(i), room)
		}
		for i := n; i < n+room; i++ {
			junk(l.Index(i))
		}
		to.Set(l.Slice(0, n))
	default:
		to.Set(from)
	}
}

// junk makes v something that is nowhere else; a list in it gets one thing of the like.
func junk(v reflect.Value) {
	switch v.Kind() {
	case reflect.Struct:
		for i := range v.NumField() {
			junk(v.Field(i))
		}
	case reflect.Slice:
		l := reflect.MakeSlice(v.Type(), 1, 1)
		junk(l.Index(0))
		v.Set(l)
	case reflect.String:
		v.SetString("Junk")
	case reflect.Bool:
		v.SetBool(true)
	default:
		v.SetInt(-77)
	}
}

// whole tells x with its lists' spare room as a part of them.
func whole[T any](x T) T {
	y := copied(x, 0)
	unfold(reflect.ValueOf(&y).Elem(), reflect.ValueOf(x))
	return y
}

func unfold(to, from reflect.Value) {
	switch from.Kind() {
	case reflect.Struct:
		for i := range from.NumField() {
			unfold(to.Field(i), from.Field(i))
		}
	case reflect.Slice:
		all := from.Slice(0, from.Cap())
		l := reflect.MakeSlice(from.Type(), all.Len(), all.Len())
		for i := range all.Len() {
			unfold(l.Index(i), all.Index(i))
		}
		to.Set(l)
	default:
		to.Set(from)
	}
}

// alike tells whether all is the same, where a nil list and an empty one are one and the same.
func alike[T any](a, b T) bool {
	return reflect.DeepEqual(copied(a, 0), copied(b, 0))
}

// spot is a place in a value: a number, a name, a yes or no, or a list.
type spot struct {
	path string
	v    reflect.Value
}

// spots tells all places in what x points to, the outer ones first.
func spots(x any) []spot {
	return spotsIn("", reflect.ValueOf(x).Elem())
}

func spotsIn(path string, v reflect.Value) []spot {
	var l []spot
	switch v.Kind() {
	case reflect.Struct:
		for i := range v.NumField() {
			l = append(l, spotsIn(path+"."+v.Type().Field(i).Name, v.Field(i))...)
		}
	case reflect.Slice:
		l = append(l, spot{path, v})
		for i := range v.Len() {
			l = append(l, spotsIn(path+"["+strconv.Itoa(i)+"]", v.Index(i))...)
		}
	default:
		l = append(l, spot{path, v})
	}
	return l
}

// area is the memory of a list with its spare room.
type area struct {
	path     string
	from, to uintptr
}

func areas(x any) []area {
	var l []area
	for _, s := range spots(x) {
		if s.v.Kind() == reflect.Slice && s.v.Cap() > 0 {
			from := s.v.Pointer()
			l = append(l, area{s.path, from, from + uintptr(s.v.Cap())*s.v.Type().Elem().Size()})
		}
	}
	return l
}

// apart checks that no list of the values has memory that another one has.
func apart(t *testing.T, values ...any) {
	t.Helper()
	var all []area
	for i, x := range values {
		for _, a := range areas(x) {
			a.path = strconv.Itoa(i) + a.path
			all = append(all, a)
		}
	}
	slices.SortFunc(all, func(a, b area) int { return cmp.Compare(a.from, b.from) })
	for i := 1; i < len(all); i++ {
		if all[i].from < all[i-1].to {
			t.Errorf("%s and %s share memory", all[i-1].path, all[i].path)
		}
	}
}

func draw(seed *uint64) uint64 {
	*seed = *seed*6364136223846793005 + 1442695040888963407
	return *seed >> 33
}

func pick[T any](seed *uint64, l []T) T {
	return l[draw(seed)%uint64(len(l))]
}

// names tells the names of a sheet's things, by kind.
func names(x api.Sheet) [7][]string {
	var l [7][]string
	l[1] = append(l[1], x.Stops...)
	for _, p := range x.Paths {
		l[2] = append(l[2], p.Name)
	}
	for _, d := range x.Doors {
		l[3] = append(l[3], d.Name)
	}
	for _, r := range x.Routes {
		l[4] = append(l[4], r.Name)
	}
	for _, t := range x.Trips {
		l[5] = append(l[5], t.Name)
	}
	for _, h := range x.Hazards {
		l[6] = append(l[6], h.Name)
	}
	return l
}

// plainWrong asks a sheet one thing after the other, in the document's order.
func plainWrong(x api.Sheet) api.Wrong {
	if err := sheet.Check(x); err != api.OK {
		return wrong(err, 0, 0)
	}
	var ahead []string
	for kind, l := range names(x) {
		for at, name := range l {
			if slices.Contains(ahead, name) {
				return wrong(api.ErrThere, kind, at)
			}
			ahead = append(ahead, name)
		}
	}
	isStop := func(name string) bool { return slices.Contains(x.Stops, name) }
	for at, p := range x.Paths {
		if err := plainWay(isStop(p.A) && isStop(p.B), p.A, p.B, p.Len); err != api.OK {
			return wrong(err, 2, at)
		}
	}
	for at, d := range x.Doors {
		if err := plainWay(isStop(d.A) && isStop(d.B), d.A, d.B, d.Len); err != api.OK {
			return wrong(err, 3, at)
		}
		if err := plainTimes(d.Times, x.Horizon); err != api.OK {
			return wrong(err, 3, at)
		}
	}
	for at, r := range x.Routes {
		if err := plainRoute(r, isStop); err != api.OK {
			return wrong(err, 4, at)
		}
	}
	for at, trip := range x.Trips {
		if !slices.Contains(names(x)[4], trip.Route) {
			return wrong(api.ErrNone, 5, at)
		}
		if trip.Until < trip.From {
			return wrong(api.ErrArg, 5, at)
		}
	}
	for at, h := range x.Hazards {
		if !isStop(h.On) && !slices.Contains(names(x)[2], h.On) {
			return wrong(api.ErrNone, 6, at)
		}
		if err := plainTimes(h.Times, x.Horizon); err != api.OK {
			return wrong(err, 6, at)
		}
	}
	return api.Wrong{}
}

func plainWay(there bool, a, b string, length int64) api.Errno {
	switch {
	case !there:
		return api.ErrNone
	case a == b:
		return api.ErrArg
	case length < 1:
		return api.ErrArg
	}
	return api.OK
}

func plainRoute(r api.Route, isStop func(string) bool) api.Errno {
	for _, s := range r.Stops {
		if !isStop(s) {
			return api.ErrNone
		}
	}
	for i, ride := range r.Rides {
		if r.Stops[i] == r.Stops[i+1] || ride < 1 {
			return api.ErrArg
		}
	}
	return api.OK
}

func plainTimes(t api.Times, until int64) api.Errno {
	if t.From < 0 || t.From > top || t.Len < 1 || t.Len > top {
		return api.ErrArg
	}
	if t.Every != 0 && (t.Every < t.Len || t.Every > top) {
		return api.ErrArg
	}
	if t.Every > 0 && t.From <= until && (until-t.From)/t.Every+1 > mostWins {
		return api.ErrLong
	}
	return api.OK
}

// plainMake looks each name up among those of its kind.
func plainMake(x api.Sheet) (api.World, api.Wrong) {
	if bad := plainWrong(x); bad != (api.Wrong{}) {
		return api.World{}, bad
	}
	n := names(x)
	w := api.World{Horizon: x.Horizon, Names: api.Names{Stops: n[1], Paths: n[2], Doors: n[3], Routes: n[4], Trips: n[5], Hazards: n[6]}}
	stop := func(name string) int { return slices.Index(n[1], name) }
	for _, p := range x.Paths {
		w.Paths = append(w.Paths, api.PathOf{A: stop(p.A), B: stop(p.B), Len: p.Len})
	}
	for _, d := range x.Doors {
		w.Doors = append(w.Doors, api.DoorOf{A: stop(d.A), B: stop(d.B), Len: d.Len, Times: d.Times})
	}
	for _, r := range x.Routes {
		var l []int
		for _, s := range r.Stops {
			l = append(l, stop(s))
		}
		w.Routes = append(w.Routes, api.RouteOf{Stops: l, Rides: r.Rides, Stays: r.Stays})
	}
	for _, t := range x.Trips {
		w.Trips = append(w.Trips, api.TripOf{Route: slices.Index(n[4], t.Route), From: t.From, Every: t.Every, Until: t.Until})
	}
	for _, h := range x.Hazards {
		on := api.HazardOf{Stop: stop(h.On) >= 0, On: stop(h.On), Times: h.Times}
		if !on.Stop {
			on.On = slices.Index(n[2], h.On)
		}
		w.Hazards = append(w.Hazards, on)
	}
	return copied(w, 0), api.Wrong{}
}

// plainSheet tells the sheet of a world, and whether its lists and numbers allow for one.
func plainSheet(w api.World) (x api.Sheet, may bool) {
	defer func() {
		if recover() != nil {
			x, may = api.Sheet{}, false
		}
	}()
	n := w.Names
	if len(n.Paths) != len(w.Paths) || len(n.Doors) != len(w.Doors) || len(n.Routes) != len(w.Routes) || len(n.Trips) != len(w.Trips) || len(n.Hazards) != len(w.Hazards) {
		return api.Sheet{}, false
	}
	x = api.Sheet{Horizon: w.Horizon, Stops: n.Stops}
	for i, p := range w.Paths {
		x.Paths = append(x.Paths, api.Path{Name: n.Paths[i], A: n.Stops[p.A], B: n.Stops[p.B], Len: p.Len})
	}
	for i, d := range w.Doors {
		x.Doors = append(x.Doors, api.Door{Name: n.Doors[i], A: n.Stops[d.A], B: n.Stops[d.B], Len: d.Len, Times: d.Times})
	}
	for i, r := range w.Routes {
		var l []string
		for _, s := range r.Stops {
			l = append(l, n.Stops[s])
		}
		x.Routes = append(x.Routes, api.Route{Name: n.Routes[i], Stops: l, Rides: r.Rides, Stays: r.Stays})
	}
	for i, t := range w.Trips {
		x.Trips = append(x.Trips, api.Trip{Name: n.Trips[i], Route: n.Routes[t.Route], From: t.From, Every: t.Every, Until: t.Until})
	}
	for i, h := range w.Hazards {
		on := n.Paths
		if h.Stop {
			on = n.Stops
		}
		x.Hazards = append(x.Hazards, api.Hazard{Name: n.Hazards[i], On: on[h.On], Times: h.Times})
	}
	return copied(x, 0), true
}

// plainCheck is Check by what a world's sheet tells.
func plainCheck(w api.World) api.Wrong {
	x, may := plainSheet(w)
	if !may {
		return wrong(api.ErrArg, 0, 0)
	}
	return plainWrong(x)
}

// refuses checks that Make tells just this and nothing of a world.
func refuses(t *testing.T, title string, x api.Sheet, want api.Wrong) {
	t.Helper()
	if w, bad := world.Make(x); bad != want || !alike(w, api.World{}) {
		t.Errorf("%s: Make is %v, %v; it should be %v", title, w, bad, want)
	}
}

// makes checks that Make tells just this world.
func makes(t *testing.T, title string, x api.Sheet, want api.World) {
	t.Helper()
	if w, bad := world.Make(x); bad != (api.Wrong{}) || !alike(w, want) {
		t.Errorf("%s: Make is %v, %v; it should be %v", title, w, bad, want)
	}
}

// holds checks what Check and Sheet tell of a world that has this wrong.
func holds(t *testing.T, title string, w api.World, want api.Wrong) {
	t.Helper()
	if bad := world.Check(w); bad != want {
		t.Errorf("%s: Check is %v; it should be %v", title, bad, want)
	}
	x, err := world.Sheet(w)
	if err != want.Err {
		t.Errorf("%s: Sheet's error is %v; it should be %v", title, err, want.Err)
	}
	if err != api.OK && !alike(x, api.Sheet{}) {
		t.Errorf("%s: Sheet tells %v beside an error", title, x)
	}
}

// agrees holds Make, and all that may be asked of what it tells, against the plain way.
func agrees(t *testing.T, title string, x api.Sheet) api.Wrong {
	t.Helper()
	want, wantBad := plainMake(x)
	w, bad := world.Make(x)
	if bad != wantBad || !alike(w, want) {
		t.Fatalf("%s: Make of %v is %v, %v; it should be %v, %v", title, x, w, bad, want, wantBad)
	}
	if bad == (api.Wrong{}) {
		back, err := world.Sheet(w)
		if err != api.OK || !alike(back, x) || world.Check(w) != (api.Wrong{}) {
			t.Fatalf("%s: of %v Sheet is %v, %v, Check is %v", title, w, back, err, world.Check(w))
		}
	}
	return bad
}

func agreesWorld(t *testing.T, title string, w api.World) api.Wrong {
	t.Helper()
	want := plainCheck(w)
	if bad := world.Check(w); bad != want {
		t.Fatalf("%s: Check of %v is %v; it should be %v", title, w, bad, want)
	}
	x, err := world.Sheet(w)
	var wantSheet api.Sheet
	if want.Err == api.OK {
		wantSheet, _ = plainSheet(w)
	}
	if err != want.Err || !alike(x, wantSheet) {
		t.Fatalf("%s: Sheet of %v is %v, %v; it should be %v, %v", title, w, x, err, wantSheet, want.Err)
	}
	if want.Err == api.OK {
		if again, bad := world.Make(x); bad != (api.Wrong{}) || !alike(again, w) {
			t.Fatalf("%s: Make of Sheet of %v is %v, %v", title, w, again, bad)
		}
	}
	return want
}

func TestExamples(t *testing.T) {
	for text, want := range map[string]api.Wrong{
		"stop a\nstop a":                                                    wrong(api.ErrThere, api.KindStop, 1),
		"stop a\nstop b\npath p a b 0":                                      wrong(api.ErrArg, api.KindPath, 0),
		"stop a\nhazard h on nobody from 1 every 0 closed 1":                wrong(api.ErrNone, api.KindHazard, 0),
		"stop a\nstop b\ndoor d a b 1 from 0 every 1 open 1":                {},
		"stop a\nstop b\nroute r a 1 b\ntrip t of r from 9 every 0 until 9": {},
	} {
		x, fault := sheet.Parse("horizon 30\n" + text)
		if fault != (api.Fault{}) {
			t.Fatal(text, fault)
		}
		if _, bad := world.Make(x); bad != want {
			t.Errorf("Make of %q is %v; it should be %v", text, bad, want)
		}
	}
}

func TestP9_1MakeOfAWholeSheet(t *testing.T) {
	makes(t, "a whole sheet", wholeSheet(), wholeWorld())
	if bad := plainWrong(wholeSheet()); bad != (api.Wrong{}) {
		t.Error(bad)
	}
}

func TestP9_1MakeOfAText(t *testing.T) {
	x, fault := sheet.Parse("hazard h on p from 4 every 0 closed 5\n")
	if fault.Err != api.ErrText {
		t.Fatal(x, fault)
	}
	x, fault = sheet.Parse("horizon 30\nhazard h on p from 4 every 0 closed 5\ntrip t of r from 1 every 10 until 40\nroute r a 5 b stay 2 3 c\npath p b c 4\nstop c\nstop a\nstop b\n")
	if fault != (api.Fault{}) {
		t.Fatal(fault)
	}
	makes(t, "names ahead of their things", x, api.World{
		Horizon: 30,
		Names:   api.Names{Stops: []string{"c", "a", "b"}, Paths: []string{"p"}, Routes: []string{"r"}, Trips: []string{"t"}, Hazards: []string{"h"}},
		Paths:   []api.PathOf{{A: 2, B: 0, Len: 4}},
		Routes:  []api.RouteOf{{Stops: []int{1, 2, 0}, Rides: []int64{5, 3}, Stays: []int64{2}}},
		Trips:   []api.TripOf{{From: 1, Every: 10, Until: 40}},
		Hazards: []api.HazardOf{{Times: api.Times{From: 4, Len: 5}}},
	})
}

func TestP9_1TheLeastSheets(t *testing.T) {
	for _, h := range []int64{0, 1, top} {
		makes(t, "no things", api.Sheet{Horizon: h}, api.World{Horizon: h})
		holds(t, "no things", api.World{Horizon: h}, api.Wrong{})
	}
	for _, h := range []int64{-1, math.MinInt64, top + 1, api.Inf, math.MaxInt64} {
		refuses(t, "no things", api.Sheet{Horizon: h}, wrong(api.ErrRange, 0, 0))
		holds(t, "no things", api.World{Horizon: h}, wrong(api.ErrRange, 0, 0))
	}
	makes(t, "empty lists", api.Sheet{Stops: []string{}, Paths: []api.Path{}, Doors: []api.Door{}, Routes: []api.Route{}, Trips: []api.Trip{}, Hazards: []api.Hazard{}}, api.World{})
	makes(t, "a stop", api.Sheet{Stops: []string{"a"}}, api.World{Names: api.Names{Stops: []string{"a"}}})
	makes(t, "a stop, and a hazard on it", api.Sheet{Stops: []string{"a"}, Hazards: []api.Hazard{{Name: "h", On: "a", Times: api.Times{Len: 1}}}},
		api.World{Names: api.Names{Stops: []string{"a"}, Hazards: []string{"h"}}, Hazards: []api.HazardOf{{Stop: true, Times: api.Times{Len: 1}}}})
}

// numbered are n names of the longest kind.
func numbered(letter string, n int) []string {
	var l []string
	for i := range n {
		digits := strconv.Itoa(i)
		l = append(l, letter+strings.Repeat("-", 23-len(digits))+digits)
	}
	return l
}

// greatest has as many things of each kind as may be, and routes of as many stops.
func greatest() api.Sheet {
	x := api.Sheet{Horizon: top, Stops: numbered("s", 256)}
	for i, name := range numbered("p", 1024) {
		x.Paths = append(x.Paths, api.Path{Name: name, A: x.Stops[i%256], B: x.Stops[(i+1+i/256)%256], Len: top - int64(i)})
	}
	for i, name := range numbered("d", 256) {
		x.Doors = append(x.Doors, api.Door{Name: name, A: x.Stops[255-i], B: x.Stops[(256-i)%256], Len: top, Times: api.Times{From: top, Every: top, Len: top}})
	}
	for i, name := range numbered("r", 256) {
		r := api.Route{Name: name, Rides: make([]int64, 31), Stays: make([]int64, 30)}
		for at := range 32 {
			r.Stops = append(r.Stops, x.Stops[(i+at*7)%256])
		}
		for at := range r.Rides {
			r.Rides[at] = top - int64(at)
		}
		for at := range r.Stays {
			r.Stays[at] = top - int64(at)
		}
		x.Routes = append(x.Routes, r)
	}
	for i, name := range numbered("t", 1024) {
		x.Trips = append(x.Trips, api.Trip{Name: name, Route: x.Routes[i%256].Name, From: top, Every: top, Until: top})
	}
	for i, name := range numbered("h", 256) {
		h := api.Hazard{Name: name, On: x.Paths[1023-i].Name, Times: api.Times{From: 1, Every: top / 255, Len: top / 255}}
		if i%2 == 0 {
			h.On = x.Stops[i]
		}
		x.Hazards = append(x.Hazards, h)
	}
	return x
}

func TestP9_1TheGreatestSheet(t *testing.T) {
	x := greatest()
	if bad := agrees(t, "as many things as may be", x); bad != (api.Wrong{}) {
		t.Fatal(bad)
	}
	w, _ := world.Make(x)
	for kind, l := range names(x) {
		if len(l) > 0 {
			last := len(l) - 1
			if k, n := world.Find(w, l[last]); k != kind || n != last {
				t.Errorf("the last %s is found as %d, %d", kindNames[kind], k, n)
			}
		}
	}
	more := map[string]func(x *api.Sheet){
		"a stop": func(x *api.Sheet) { x.Stops = append(x.Stops, "more") },
		"a path": func(x *api.Sheet) {
			x.Paths = append(x.Paths, api.Path{Name: "more", A: x.Stops[0], B: x.Stops[1], Len: 1})
		},
		"a door":   func(x *api.Sheet) { x.Doors = append(x.Doors, x.Doors[0]); x.Doors[256].Name = "more" },
		"a route":  func(x *api.Sheet) { x.Routes = append(x.Routes, x.Routes[0]); x.Routes[256].Name = "more" },
		"a trip":   func(x *api.Sheet) { x.Trips = append(x.Trips, x.Trips[0]); x.Trips[1024].Name = "more" },
		"a hazard": func(x *api.Sheet) { x.Hazards = append(x.Hazards, x.Hazards[0]); x.Hazards[256].Name = "more" },
	}
	for title, grow := range more {
		y := copied(x, 0)
		grow(&y)
		refuses(t, title+" more", y, wrong(api.ErrLong, 0, 0))
		big, may := plainSheetWorld(y)
		if !may {
			t.Fatal(title)
		}
		holds(t, title+" more", big, wrong(api.ErrLong, 0, 0))
	}
	// A route's stop too many is no thing too many.
	long := copied(x, 0)
	r := &long.Routes[255]
	r.Stops, r.Rides, r.Stays = append(r.Stops, r.Stops[0]), append(r.Rides, 1), append(r.Stays, 0)
	refuses(t, "a route's stop more", long, wrong(api.ErrArg, 0, 0))
}

// plainSheetWorld tells the world of a sheet whose names are all there, whatever else is wrong with it.
func plainSheetWorld(x api.Sheet) (api.World, bool) {
	n := names(x)
	w := api.World{Horizon: x.Horizon, Names: api.Names{Stops: n[1], Paths: n[2], Doors: n[3], Routes: n[4], Trips: n[5], Hazards: n[6]}}
	may := true
	number := func(kind int, name string) int {
		i := slices.Index(n[kind], name)
		may = may && i >= 0
		return i
	}
	for _, p := range x.Paths {
		w.Paths = append(w.Paths, api.PathOf{A: number(1, p.A), B: number(1, p.B), Len: p.Len})
	}
	for _, d := range x.Doors {
		w.Doors = append(w.Doors, api.DoorOf{A: number(1, d.A), B: number(1, d.B), Len: d.Len, Times: d.Times})
	}
	for _, r := range x.Routes {
		of := api.RouteOf{Rides: r.Rides, Stays: r.Stays}
		for _, s := range r.Stops {
			of.Stops = append(of.Stops, number(1, s))
		}
		w.Routes = append(w.Routes, of)
	}
	for _, t := range x.Trips {
		w.Trips = append(w.Trips, api.TripOf{Route: number(4, t.Route), From: t.From, Every: t.Every, Until: t.Until})
	}
	for _, h := range x.Hazards {
		if i := slices.Index(n[1], h.On); i >= 0 {
			w.Hazards = append(w.Hazards, api.HazardOf{Stop: true, On: i, Times: h.Times})
		} else {
			w.Hazards = append(w.Hazards, api.HazardOf{On: number(2, h.On), Times: h.Times})
		}
	}
	return copied(w, 0), may
}

func TestP9_1WhatCheckOfASheetTells(t *testing.T) {
	tooMany := wholeSheet()
	for i := range 257 {
		tooMany.Stops = append(tooMany.Stops, "more"+strconv.Itoa(i))
	}
	refuses(t, "too many stops", tooMany, wrong(api.ErrLong, 0, 0))
	for _, s := range spots(new(wholeSheet())) {
		for title, value := range map[string]string{"a reserved word": "open", "an empty name": "", "a great letter": "A", "a long name": strings.Repeat("a", 25)} {
			x := wholeSheet()
			if s.v.Kind() == reflect.String {
				setString(&x, s.path, value)
				refuses(t, s.path+" as "+title, x, wrong(api.ErrText, 0, 0))
			}
		}
		for _, value := range []int64{math.MinInt64, -1, top + 1, api.Inf, math.MaxInt64} {
			x := wholeSheet()
			if s.v.Kind() == reflect.Int64 {
				setInt(&x, s.path, value)
				refuses(t, s.path+" as "+strconv.FormatInt(value, 10), x, wrong(api.ErrRange, 0, 0))
			}
		}
	}
	for _, at := range []int{0, 1, 2} {
		for title, change := range map[string]func(r *api.Route){
			"no stops":        func(r *api.Route) { *r = api.Route{Name: r.Name} },
			"a stop":          func(r *api.Route) { *r = api.Route{Name: r.Name, Stops: []string{"a"}} },
			"a ride too many": func(r *api.Route) { r.Rides = append(r.Rides, 1) },
			"a ride too few":  func(r *api.Route) { r.Rides = r.Rides[1:] },
			"a stay too many": func(r *api.Route) { r.Stays = append(r.Stays, 1) },
			"a stop too many": func(r *api.Route) { r.Stops = append(r.Stops, "b") },
			"a stop too few":  func(r *api.Route) { r.Stops = r.Stops[1:] },
		} {
			x := wholeSheet()
			change(&x.Routes[at])
			refuses(t, "route "+strconv.Itoa(at)+" with "+title, x, wrong(api.ErrArg, 0, 0))
		}
	}
}

// at tells the place of that path.
func at(x any, path string) reflect.Value {
	l := spots(x)
	return l[slices.IndexFunc(l, func(s spot) bool { return s.path == path })].v
}

func setString(x any, path, value string)    { at(x, path).SetString(value) }
func setInt(x any, path string, value int64) { at(x, path).SetInt(value) }

// owner tells the kind and the number of the thing that a path of a sheet, or of a world, is in.
func owner(path string) (int, int) {
	list, rest, _ := strings.Cut(strings.TrimPrefix(path, "."), "[")
	number, _, _ := strings.Cut(rest, "]")
	n, _ := strconv.Atoi(number)
	return slices.Index([]string{"Horizon", "Stops", "Paths", "Doors", "Routes", "Trips", "Hazards"}, list), n
}

// ownNames are the paths of all things' names in a sheet, in order.
func ownNames(x api.Sheet) []string {
	var l []string
	for _, s := range spots(&x) {
		kind, _ := owner(s.path)
		isStop := kind == api.KindStop && s.v.Kind() == reflect.String
		if isStop || strings.HasSuffix(s.path, ".Name") {
			l = append(l, s.path)
		}
	}
	return l
}

func TestP9_1ANameThatAnotherOneAheadHas(t *testing.T) {
	paths := ownNames(wholeSheet())
	if len(paths) != 19 {
		t.Fatal(paths)
	}
	for later := range paths {
		for ahead := range later {
			x := wholeSheet()
			setString(&x, paths[later], at(&x, paths[ahead]).String())
			kind, n := owner(paths[later])
			refuses(t, paths[later]+" as "+paths[ahead], x, wrong(api.ErrThere, kind, n))
			w := wholeWorld()
			mine := namesOf(&w)
			*mine[later] = *mine[ahead]
			holds(t, paths[later]+" as "+paths[ahead], w, wrong(api.ErrThere, kind, n))
			for third := range later {
				if third > ahead {
					y := copied(x, 0)
					setString(&y, paths[third], at(&y, paths[ahead]).String())
					kind, n := owner(paths[third])
					refuses(t, paths[later]+" and "+paths[third]+" as "+paths[ahead], y, wrong(api.ErrThere, kind, n))
				}
			}
		}
	}
}

// namesOf tells where a world's names stand, in order.
func namesOf(w *api.World) []*string {
	var l []*string
	for _, list := range [][]string{w.Names.Stops, w.Names.Paths, w.Names.Doors, w.Names.Routes, w.Names.Trips, w.Names.Hazards} {
		for i := range list {
			l = append(l, &list[i])
		}
	}
	return l
}

func TestP9_1NamesThatAreNearlyAlike(t *testing.T) {
	x := api.Sheet{Stops: []string{"a", "aa", "a-", "a_", "a1", "b", strings.Repeat("a", 24), strings.Repeat("a", 23)}}
	makes(t, "names nearly alike", x, api.World{Names: api.Names{Stops: x.Stops}})
}

// references are the paths of all names in a sheet that are another thing's.
func references(x api.Sheet) []string {
	own := ownNames(x)
	var l []string
	for _, s := range spots(&x) {
		if s.v.Kind() == reflect.String && !slices.Contains(own, s.path) {
			l = append(l, s.path)
		}
	}
	return l
}

// mayName tells whether a thing of the first kind may name one of the second.
func mayName(kind, other int) bool {
	switch kind {
	case api.KindTrip:
		return other == api.KindRoute
	case api.KindHazard:
		return other == api.KindStop || other == api.KindPath
	}
	return other == api.KindStop
}

func TestP9_1ANameOfNoStopNoPathNoRoute(t *testing.T) {
	paths := references(wholeSheet())
	if len(paths) != 2*2+3*2+9+3+4 {
		t.Fatal(paths)
	}
	for _, path := range paths {
		kind, n := owner(path)
		for _, name := range []string{"nobody", "aa", "a-", "x"} {
			x := wholeSheet()
			setString(&x, path, name)
			refuses(t, path+" as "+name, x, wrong(api.ErrNone, kind, n))
		}
		for other, l := range names(wholeSheet()) {
			for _, name := range l {
				x := wholeSheet()
				setString(&x, path, name)
				if !mayName(kind, other) {
					refuses(t, path+" as "+name, x, wrong(api.ErrNone, kind, n))
				}
				agrees(t, path+" as "+name, x)
			}
		}
	}
}

func TestP9_1AAsB(t *testing.T) {
	for at := range 2 {
		for _, stop := range []string{"a", "b", "c", "d"} {
			x := wholeSheet()
			x.Paths[at].A, x.Paths[at].B = stop, stop
			refuses(t, "path "+strconv.Itoa(at), x, wrong(api.ErrArg, api.KindPath, at))
		}
	}
	for at := range 3 {
		for _, stop := range []string{"a", "b", "c", "d"} {
			x := wholeSheet()
			x.Doors[at].A, x.Doors[at].B = stop, stop
			refuses(t, "door "+strconv.Itoa(at), x, wrong(api.ErrArg, api.KindDoor, at))
		}
	}
	nobody := wholeSheet()
	nobody.Paths[1].A, nobody.Paths[1].B = "nobody", "nobody"
	refuses(t, "from nobody to nobody", nobody, wrong(api.ErrNone, api.KindPath, 1))
	back := wholeSheet()
	back.Paths[0].A, back.Paths[0].B = "b", "a"
	back.Paths[1] = back.Paths[0]
	back.Paths[1].Name = "q"
	if bad := agrees(t, "two paths between the same stops", back); bad != (api.Wrong{}) {
		t.Error(bad)
	}
}

func TestP9_1LengthsAndRides(t *testing.T) {
	x := wholeSheet()
	for _, s := range spots(&x) {
		kind, n := owner(s.path)
		isLen := strings.HasSuffix(s.path, ".Len") && !strings.HasSuffix(s.path, ".Times.Len")
		isRide := strings.Contains(s.path, ".Rides[")
		if !isLen && !isRide {
			continue
		}
		for value, want := range map[int64]api.Wrong{
			math.MinInt64: wrong(api.ErrRange, 0, 0), -1: wrong(api.ErrRange, 0, 0), 0: wrong(api.ErrArg, kind, n),
			1: {}, 2: {}, top: {}, top + 1: wrong(api.ErrRange, 0, 0),
		} {
			y := wholeSheet()
			setInt(&y, s.path, value)
			if _, bad := world.Make(y); bad != want {
				t.Errorf("%s as %d: Make is %v; it should be %v", s.path, value, bad, want)
			}
			agrees(t, s.path, y)
		}
	}
}

func TestP9_1Stays(t *testing.T) {
	for _, stay := range []int64{0, 1, top} {
		x := wholeSheet()
		x.Routes[1].Stays[0], x.Routes[1].Stays[1] = stay, stay
		want := wholeWorld()
		want.Routes[1].Stays[0], want.Routes[1].Stays[1] = stay, stay
		makes(t, "stays", x, want)
	}
}

func TestP9_1TimesThatMayNotBe(t *testing.T) {
	cases := []struct {
		from, every, len int64
		want             api.Errno
	}{
		{0, 0, 1, api.OK}, {0, 0, 0, api.ErrArg}, {0, 0, -1, api.ErrRange}, {0, 10, 0, api.ErrArg},
		{0, 0, top, api.OK}, {0, 0, top + 1, api.ErrRange},
		{-1, 0, 1, api.ErrRange}, {top, 0, 1, api.OK}, {top + 1, 0, 1, api.ErrRange}, {top, 1, 1, api.OK}, {top, top, top, api.OK},
		{0, 10, 9, api.OK}, {0, 10, 10, api.OK}, {0, 10, 11, api.ErrArg}, {0, 1, 2, api.ErrArg}, {0, -1, 1, api.ErrRange},
		{0, 999, 1000, api.ErrArg}, {0, 1000, 1000, api.OK},
		{0, top - 1, top, api.ErrArg}, {0, top, top - 1, api.OK}, {0, top, top, api.OK}, {0, top + 1, top, api.ErrRange}, {0, top + 1, 1, api.ErrRange},
		{top, 1, 2, api.ErrArg}, {2000, 1, 2, api.ErrArg}, {2000, 0, 0, api.ErrArg},
		{math.MinInt64, 0, 1, api.ErrRange}, {0, math.MaxInt64, 1, api.ErrRange}, {0, 0, math.MaxInt64, api.ErrRange}, {0, api.Inf, 1, api.ErrRange},
	}
	for _, c := range cases {
		timed(t, horizon, api.Times{From: c.from, Every: c.every, Len: c.len}, c.want)
	}
}

// timed checks what Make tells of these times, of each door and of each hazard.
func timed(t *testing.T, until int64, times api.Times, want api.Errno) {
	t.Helper()
	of := func(kind, at int) api.Wrong {
		if want == api.OK {
			return api.Wrong{}
		}
		if want == api.ErrRange {
			return wrong(want, 0, 0)
		}
		return wrong(want, kind, at)
	}
	base := wholeSheet()
	base.Horizon = until
	for i := range base.Doors {
		x := copied(base, 0)
		x.Doors[i].Times = times
		if bad := agrees(t, "a door", x); bad != of(api.KindDoor, i) {
			t.Errorf("door %d with %v up to %d: %v; it should be %v", i, times, until, bad, of(api.KindDoor, i))
		}
	}
	for i := range base.Hazards {
		x := copied(base, 0)
		x.Hazards[i].Times = times
		if bad := agrees(t, "a hazard", x); bad != of(api.KindHazard, i) {
			t.Errorf("hazard %d with %v up to %d: %v; it should be %v", i, times, until, bad, of(api.KindHazard, i))
		}
	}
}

func TestP9_1AsManyWindowsAsMayBe(t *testing.T) {
	for _, c := range []struct {
		until, from, every, len int64
		want                    api.Errno
	}{
		{255, 0, 1, 1, api.OK}, {256, 0, 1, 1, api.ErrLong}, {256, 1, 1, 1, api.OK}, {257, 1, 1, 1, api.ErrLong},
		{horizon, 0, 3, 3, api.ErrLong}, {horizon, 0, 3, 1, api.ErrLong}, {horizon, 0, 4, 4, api.OK},
		{764, 0, 3, 2, api.OK}, {765, 0, 3, 2, api.OK}, {767, 0, 3, 2, api.OK}, {768, 0, 3, 2, api.ErrLong},
		{767, 2, 3, 2, api.OK}, {769, 2, 3, 2, api.OK}, {770, 2, 3, 2, api.ErrLong},
		{horizon, 745, 1, 1, api.OK}, {horizon, 744, 1, 1, api.ErrLong},
		{horizon, 1000, 1, 1, api.OK}, {horizon, 1001, 1, 1, api.OK}, {0, 0, 1, 1, api.OK}, {0, 1, 1, 1, api.OK},
		{horizon, 0, 0, 1, api.OK}, {horizon, 0, 0, top, api.OK},
	} {
		timed(t, c.until, api.Times{From: c.from, Every: c.every, Len: c.len}, c.want)
	}
}

func TestP9_1WindowsUpToAFarHorizon(t *testing.T) {
	for every, want := range map[int64]api.Errno{top / 256: api.ErrLong, top/256 + 1: api.OK, top: api.OK, 1: api.ErrLong, 0: api.OK} {
		x := api.Sheet{Horizon: top, Stops: []string{"a", "b"}, Doors: []api.Door{{Name: "d", A: "a", B: "b", Len: 1, Times: api.Times{Every: every, Len: 1}}}}
		bad := agrees(t, "a far horizon", x)
		if bad.Err != want {
			t.Errorf("every %d: %v; it should be %v", every, bad, want)
		}
	}
}

func TestP9_1StopsOneBehindTheOther(t *testing.T) {
	stops := []string{"a", "b", "c"}
	// All routes of up to five stops of three.
	for n := 2; n <= 5; n++ {
		all := 1
		for range n {
			all *= 3
		}
		for code := range all {
			r := api.Route{Name: "u", Rides: slices.Repeat([]int64{1}, n-1), Stays: make([]int64, n-2)}
			repeats := false
			for i := range n {
				r.Stops = append(r.Stops, stops[code%3])
				repeats = repeats || i > 0 && r.Stops[i] == r.Stops[i-1]
				code /= 3
			}
			x := wholeSheet()
			x.Routes[2] = r
			var want api.Wrong
			if repeats {
				want = wrong(api.ErrArg, api.KindRoute, 2)
			}
			if bad := agrees(t, "a route", x); bad != want {
				t.Errorf("%v: Make is %v; it should be %v", r, bad, want)
			}
		}
	}
}

func TestP9_1StopsOfALongRoute(t *testing.T) {
	x := greatest()
	for at := 1; at < 32; at++ {
		y := copied(x, 0)
		y.Routes[200].Stops[at] = y.Routes[200].Stops[at-1]
		refuses(t, "the same stop again at "+strconv.Itoa(at), y, wrong(api.ErrArg, api.KindRoute, 200))
	}
	far := copied(x, 0)
	far.Routes[0].Stops[31] = far.Routes[0].Stops[0]
	if bad := agrees(t, "a ring", far); bad != (api.Wrong{}) {
		t.Error(bad)
	}
}

func TestP9_1UntilAndFrom(t *testing.T) {
	for _, c := range []struct {
		from, until int64
		want        bool
	}{
		{0, 0, true}, {1, 0, false}, {0, 1, true}, {5, 4, false}, {5, 5, true}, {5, 6, true}, {5, 0, false},
		{top, top, true}, {top, top - 1, false}, {top - 1, top, true}, {top, 0, false}, {0, top, true}, {2000, 2000, true},
	} {
		for at := range 3 {
			for _, every := range []int64{0, 1, 7, top} {
				x := wholeSheet()
				x.Trips[at].From, x.Trips[at].Until, x.Trips[at].Every = c.from, c.until, every
				var want api.Wrong
				if !c.want {
					want = wrong(api.ErrArg, api.KindTrip, at)
				}
				if bad := agrees(t, "a trip", x); bad != want {
					t.Errorf("trip %d from %d until %d: %v; it should be %v", at, c.from, c.until, bad, want)
				}
			}
		}
	}
}

func TestP9_1WhatAHazardIsOn(t *testing.T) {
	base := wholeSheet()
	for at := range base.Hazards {
		for kind, l := range names(base) {
			for n, name := range l {
				x := wholeSheet()
				x.Hazards[at].On = name
				if kind != api.KindStop && kind != api.KindPath {
					refuses(t, "on "+name, x, wrong(api.ErrNone, api.KindHazard, at))
					continue
				}
				want := wholeWorld()
				want.Hazards[at].Stop, want.Hazards[at].On = kind == api.KindStop, n
				makes(t, "on "+name, x, want)
			}
		}
	}
	both := wholeSheet()
	both.Paths[0].Name = "c"
	both.Hazards[0].On = "c"
	refuses(t, "on a stop and a path of one name", both, wrong(api.ErrThere, api.KindPath, 0))
	itself := wholeSheet()
	itself.Hazards[3].On = itself.Hazards[3].Name
	refuses(t, "on itself", itself, wrong(api.ErrNone, api.KindHazard, 3))
}

func TestP9_1SeveralHazardsOnOne(t *testing.T) {
	x := wholeSheet()
	want := wholeWorld()
	for i := range x.Hazards {
		x.Hazards[i].On = "q"
		want.Hazards[i].Stop, want.Hazards[i].On = false, 1
	}
	makes(t, "all on one path", x, want)
}

// fault is a way to be wrong, and what is told of it. It leaves alone what another one changes, as far as that is told first.
type fault[T any] struct {
	title string
	spoil func(x *T)
	want  api.Wrong
}

func fewer[T any](l []T) []T { return l[:len(l)-1] }

// sheetFaults stand in the order in which they are told, of the things of those numbers.
func sheetFaults() []fault[api.Sheet] {
	type sheetFault = fault[api.Sheet]
	l := []sheetFault{
		{"too many stops", func(x *api.Sheet) { x.Stops = append(x.Stops, numbered("z", 256)...) }, wrong(api.ErrLong, 0, 0)},
		{"no name", func(x *api.Sheet) { x.Hazards[2].Name = "open" }, wrong(api.ErrText, 0, 0)},
		{"below 0", func(x *api.Sheet) { x.Trips[2].Every = -1 }, wrong(api.ErrRange, 0, 0)},
		{"a stay too many", func(x *api.Sheet) { x.Routes[0].Stays = append(x.Routes[0].Stays, 1) }, wrong(api.ErrArg, 0, 0)},
		{"stop 1 there", func(x *api.Sheet) { x.Stops[1] = "a" }, wrong(api.ErrThere, 1, 1)},
		{"stop 3 there", func(x *api.Sheet) { x.Stops[3] = "a" }, wrong(api.ErrThere, 1, 3)},
		{"path 0 there", func(x *api.Sheet) { x.Paths[0].Name = "a" }, wrong(api.ErrThere, 2, 0)},
		{"path 1 there", func(x *api.Sheet) { x.Paths[1].Name = "a" }, wrong(api.ErrThere, 2, 1)},
		{"door 0 there", func(x *api.Sheet) { x.Doors[0].Name = "a" }, wrong(api.ErrThere, 3, 0)},
		{"door 2 there", func(x *api.Sheet) { x.Doors[2].Name = "a" }, wrong(api.ErrThere, 3, 2)},
		{"route 0 there", func(x *api.Sheet) { x.Routes[0].Name = "a" }, wrong(api.ErrThere, 4, 0)},
		{"route 2 there", func(x *api.Sheet) { x.Routes[2].Name = "a" }, wrong(api.ErrThere, 4, 2)},
		{"trip 0 there", func(x *api.Sheet) { x.Trips[0].Name = "a" }, wrong(api.ErrThere, 5, 0)},
		{"trip 1 there", func(x *api.Sheet) { x.Trips[1].Name = "a" }, wrong(api.ErrThere, 5, 1)},
		{"hazard 0 there", func(x *api.Sheet) { x.Hazards[0].Name = "a" }, wrong(api.ErrThere, 6, 0)},
		{"hazard 3 there", func(x *api.Sheet) { x.Hazards[3].Name = "a" }, wrong(api.ErrThere, 6, 3)},
	}
	// The end that is none stays, whatever the other one becomes.
	l = append(l,
		sheetFault{"path 0: no A", func(x *api.Sheet) { x.Paths[0].A = "nobody" }, wrong(api.ErrNone, 2, 0)},
		sheetFault{"path 0: A as B", func(x *api.Sheet) { x.Paths[0].B = x.Paths[0].A }, wrong(api.ErrArg, 2, 0)},
		sheetFault{"path 0: Len", func(x *api.Sheet) { x.Paths[0].Len = 0 }, wrong(api.ErrArg, 2, 0)},
		sheetFault{"path 1: no B", func(x *api.Sheet) { x.Paths[1].B = "p" }, wrong(api.ErrNone, 2, 1)},
		sheetFault{"path 1: A as B", func(x *api.Sheet) { x.Paths[1].A = x.Paths[1].B }, wrong(api.ErrArg, 2, 1)},
		sheetFault{"path 1: Len", func(x *api.Sheet) { x.Paths[1].Len = 0 }, wrong(api.ErrArg, 2, 1)},
		sheetFault{"door 0: no B", func(x *api.Sheet) { x.Doors[0].B = "h" }, wrong(api.ErrNone, 3, 0)},
		sheetFault{"door 0: A as B", func(x *api.Sheet) { x.Doors[0].A = x.Doors[0].B }, wrong(api.ErrArg, 3, 0)})
	doorFaults := func(at int) []sheetFault {
		return []sheetFault{
			{"door: Len", func(x *api.Sheet) { x.Doors[at].Len = 0 }, wrong(api.ErrArg, 3, at)},
			{"door: Times", func(x *api.Sheet) { x.Doors[at].Times.Len = 0 }, wrong(api.ErrArg, 3, at)},
			{"door: windows", func(x *api.Sheet) { x.Doors[at].Times.Every = 3 }, wrong(api.ErrLong, 3, at)},
		}
	}
	l = append(l, doorFaults(0)...)
	l = append(l,
		sheetFault{"door 2: no A", func(x *api.Sheet) { x.Doors[2].A = "nobody" }, wrong(api.ErrNone, 3, 2)},
		sheetFault{"door 2: A as B", func(x *api.Sheet) { x.Doors[2].B = x.Doors[2].A }, wrong(api.ErrArg, 3, 2)})
	l = append(l, doorFaults(2)...)
	for _, at := range []int{0, 1} {
		l = append(l,
			sheetFault{"route: no first", func(x *api.Sheet) { x.Routes[at].Stops[0] = "t" }, wrong(api.ErrNone, 4, at)},
			sheetFault{"route: no stop", func(x *api.Sheet) { x.Routes[at].Stops[2] = "nobody" }, wrong(api.ErrNone, 4, at)},
			sheetFault{"route: the same", func(x *api.Sheet) { x.Routes[at].Stops[1] = x.Routes[at].Stops[0] }, wrong(api.ErrArg, 4, at)},
			sheetFault{"route: ride", func(x *api.Sheet) { x.Routes[at].Rides[1] = 0 }, wrong(api.ErrArg, 4, at)})
	}
	for _, at := range []int{0, 2} {
		l = append(l,
			sheetFault{"trip: no route", func(x *api.Sheet) { x.Trips[at].Route = "c" }, wrong(api.ErrNone, 5, at)},
			sheetFault{"trip: Until", func(x *api.Sheet) { x.Trips[at].Until = 0 }, wrong(api.ErrArg, 5, at)})
	}
	for _, at := range []int{1, 2} {
		l = append(l,
			sheetFault{"hazard: on none", func(x *api.Sheet) { x.Hazards[at].On = "e" }, wrong(api.ErrNone, 6, at)},
			sheetFault{"hazard: Times", func(x *api.Sheet) { x.Hazards[at].Times.Len = 0 }, wrong(api.ErrArg, 6, at)},
			sheetFault{"hazard: windows", func(x *api.Sheet) { x.Hazards[at].Times.Every = 2 }, wrong(api.ErrLong, 6, at)})
	}
	return l
}

func TestP9_1TwoThingsWrongAtOnce(t *testing.T) {
	l := sheetFaults()
	for i, f := range l {
		one := wholeSheet()
		f.spoil(&one)
		refuses(t, f.title, one, f.want)
		for _, g := range l[i+1:] {
			x := wholeSheet()
			f.spoil(&x)
			g.spoil(&x)
			refuses(t, f.title+", then "+g.title, x, f.want)
			y := wholeSheet()
			g.spoil(&y)
			f.spoil(&y)
			refuses(t, g.title+", then "+f.title, y, f.want)
		}
	}
}

// worldFaults stand in the order in which they are told.
func worldFaults() []fault[api.World] {
	type worldFault = fault[api.World]
	none := wrong(api.ErrArg, 0, 0)
	l := []worldFault{
		{"a path too few", func(w *api.World) { w.Paths = fewer(w.Paths) }, none},
		{"a door's name too few", func(w *api.World) { w.Names.Doors = fewer(w.Names.Doors) }, none},
		{"a route too many", func(w *api.World) { w.Routes = append(w.Routes, api.RouteOf{Stops: []int{0, 1}, Rides: []int64{1}}) }, none},
		{"a hazard's name too many", func(w *api.World) { w.Names.Hazards = append(w.Names.Hazards, "more") }, none},
		{"a path's stop", func(w *api.World) { w.Paths[1].B = 9999 }, none},
		{"a trip's route", func(w *api.World) { w.Trips[0].Route = -1 }, none},
		{"what a hazard is on", func(w *api.World) { w.Hazards[0].On = 3 }, none},
		{"too many stops", func(w *api.World) { w.Names.Stops = append(w.Names.Stops, numbered("z", 256)...) }, wrong(api.ErrLong, 0, 0)},
		{"no name", func(w *api.World) { w.Names.Hazards[1] = "" }, wrong(api.ErrText, 0, 0)},
		{"below 0", func(w *api.World) { w.Trips[2].Every = -1 }, wrong(api.ErrRange, 0, 0)},
		{"a ride too few", func(w *api.World) { w.Routes[2].Rides = nil }, none},
		{"stop 1 there", func(w *api.World) { w.Names.Stops[1] = "a" }, wrong(api.ErrThere, 1, 1)},
		{"stop 3 there", func(w *api.World) { w.Names.Stops[3] = "a" }, wrong(api.ErrThere, 1, 3)},
		{"path 1 there", func(w *api.World) { w.Names.Paths[1] = "a" }, wrong(api.ErrThere, 2, 1)},
		{"door 1 there", func(w *api.World) { w.Names.Doors[1] = "a" }, wrong(api.ErrThere, 3, 1)},
		{"route 1 there", func(w *api.World) { w.Names.Routes[1] = "a" }, wrong(api.ErrThere, 4, 1)},
		{"trip 1 there", func(w *api.World) { w.Names.Trips[1] = "a" }, wrong(api.ErrThere, 5, 1)},
		{"hazard 2 there", func(w *api.World) { w.Names.Hazards[2] = "a" }, wrong(api.ErrThere, 6, 2)},
		{"path 0: A as B", func(w *api.World) { w.Paths[0].B = w.Paths[0].A }, wrong(api.ErrArg, 2, 0)},
		{"path 0: Len", func(w *api.World) { w.Paths[0].Len = 0 }, wrong(api.ErrArg, 2, 0)},
		{"path 1: Len", func(w *api.World) { w.Paths[1].Len = 0 }, wrong(api.ErrArg, 2, 1)},
	}
	for _, at := range []int{0, 2} {
		l = append(l,
			worldFault{"door: A as B", func(w *api.World) { w.Doors[at].B = w.Doors[at].A }, wrong(api.ErrArg, 3, at)},
			worldFault{"door: Len", func(w *api.World) { w.Doors[at].Len = 0 }, wrong(api.ErrArg, 3, at)},
			worldFault{"door: Times", func(w *api.World) { w.Doors[at].Times.Len = 0 }, wrong(api.ErrArg, 3, at)},
			worldFault{"door: windows", func(w *api.World) { w.Doors[at].Times.Every = 3 }, wrong(api.ErrLong, 3, at)})
	}
	for _, at := range []int{0, 1} {
		l = append(l,
			worldFault{"route: the same", func(w *api.World) { w.Routes[at].Stops[1] = w.Routes[at].Stops[0] }, wrong(api.ErrArg, 4, at)},
			worldFault{"route: ride", func(w *api.World) { w.Routes[at].Rides[1] = 0 }, wrong(api.ErrArg, 4, at)})
	}
	l = append(l,
		worldFault{"trip 0: Until", func(w *api.World) { w.Trips[0].Until = 0 }, wrong(api.ErrArg, 5, 0)},
		worldFault{"trip 1: Until", func(w *api.World) { w.Trips[1].Until = 6 }, wrong(api.ErrArg, 5, 1)})
	for _, at := range []int{1, 2} {
		l = append(l,
			worldFault{"hazard: Times", func(w *api.World) { w.Hazards[at].Times.Len = 0 }, wrong(api.ErrArg, 6, at)},
			worldFault{"hazard: windows", func(w *api.World) { w.Hazards[at].Times.Every = 2 }, wrong(api.ErrLong, 6, at)})
	}
	return l
}

func TestP9_1CheckOfWorldsThatAreWrong(t *testing.T) {
	l := worldFaults()
	for i, f := range l {
		one := wholeWorld()
		f.spoil(&one)
		holds(t, f.title, one, f.want)
		for _, g := range l[i+1:] {
			w := wholeWorld()
			g.spoil(&w)
			f.spoil(&w)
			holds(t, g.title+", then "+f.title, w, f.want)
		}
	}
}

func TestP9_1CheckOfWhatMakeTells(t *testing.T) {
	w, _ := world.Make(wholeSheet())
	holds(t, "a world", w, api.Wrong{})
	x, err := world.Sheet(w)
	if err != api.OK || !alike(x, wholeSheet()) {
		t.Error(x, err)
	}
}

func TestP9_1ListsThatHaveNotAsManyAsTheirNames(t *testing.T) {
	none := wrong(api.ErrArg, 0, 0)
	for _, s := range spots(new(wholeWorld())) {
		list := strings.TrimPrefix(strings.TrimPrefix(s.path, ".Names"), ".")
		if s.v.Kind() != reflect.Slice || strings.Contains(list, "[") || list == "Stops" {
			continue
		}
		for title, change := range map[string]func(v reflect.Value){
			"too few":     func(v reflect.Value) { v.SetLen(v.Len() - 1) },
			"too many":    func(v reflect.Value) { v.Set(reflect.Append(v, v.Index(0))) },
			"none at all": func(v reflect.Value) { v.SetZero() },
			"as spare":    func(v reflect.Value) { v.Set(v.Slice(0, 0)) },
		} {
			w := wholeWorld()
			change(at(&w, s.path))
			holds(t, s.path+" "+title, w, none)
		}
	}
}

// numberSpots are the paths of all numbers of things in a world, and how many such things there are.
func numberSpots() map[string]int {
	l := map[string]int{}
	for _, s := range spots(new(wholeWorld())) {
		if s.v.Kind() != reflect.Int {
			continue
		}
		switch {
		case strings.HasSuffix(s.path, ".Route"):
			l[s.path] = 3
		case s.path == ".Hazards[0].On" || s.path == ".Hazards[2].On":
			l[s.path] = 2
		default:
			l[s.path] = 4
		}
	}
	return l
}

func TestP9_1NumbersOfNoThing(t *testing.T) {
	l := numberSpots()
	if len(l) != 2*2+3*2+9+3+4 {
		t.Fatal(l)
	}
	for path, n := range l {
		for _, value := range []int{math.MinInt, -9999, -2, -1, n, n + 1, 255, 256, 1 << 32, math.MaxInt} {
			w := wholeWorld()
			setInt(&w, path, int64(value))
			holds(t, path+" as "+strconv.Itoa(value), w, wrong(api.ErrArg, 0, 0))
		}
		for value := range n {
			w := wholeWorld()
			setInt(&w, path, int64(value))
			bad := agreesWorld(t, path+" as "+strconv.Itoa(value), w)
			if bad.Err != api.OK && bad.Kind == api.KindHorizon {
				t.Errorf("%s as %d: %v", path, value, bad)
			}
		}
	}
}

func TestP9_1NumbersWhereThereIsNoThing(t *testing.T) {
	none := wrong(api.ErrArg, 0, 0)
	holds(t, "a path", api.World{Names: api.Names{Paths: []string{"p"}}, Paths: []api.PathOf{{Len: 1}}}, none)
	holds(t, "a door", api.World{Names: api.Names{Doors: []string{"d"}}, Doors: []api.DoorOf{{Len: 1}}}, none)
	holds(t, "a route", api.World{Names: api.Names{Routes: []string{"r"}}, Routes: []api.RouteOf{{Stops: []int{0, 0}, Rides: []int64{1}}}}, none)
	holds(t, "a trip", api.World{Names: api.Names{Trips: []string{"t"}}, Trips: []api.TripOf{{}}}, none)
	hazard := api.World{Names: api.Names{Hazards: []string{"h"}}, Hazards: []api.HazardOf{{Times: api.Times{Len: 1}}}}
	holds(t, "a hazard", hazard, none)
	hazard.Names.Stops = []string{"a"}
	holds(t, "a hazard on a path, where there is a stop alone", hazard, none)
	hazard.Hazards[0].Stop = true
	holds(t, "a hazard on a stop", hazard, api.Wrong{})
	holds(t, "a route without stops", api.World{Names: api.Names{Routes: []string{"r"}}, Routes: []api.RouteOf{{}}}, none)
}

func TestP9_1AHazardsStopAndPath(t *testing.T) {
	for at := range 4 {
		for on := -1; on <= 4; on++ {
			for _, isStop := range []bool{false, true} {
				w := wholeWorld()
				w.Hazards[at].Stop, w.Hazards[at].On = isStop, on
				var want api.Wrong
				if on < 0 || isStop && on >= 4 || !isStop && on >= 2 {
					want = wrong(api.ErrArg, 0, 0)
				}
				holds(t, "hazard "+strconv.Itoa(at), w, want)
				agreesWorld(t, "hazard "+strconv.Itoa(at), w)
			}
		}
	}
}

func TestP9_1Find(t *testing.T) {
	w := wholeWorld()
	for kind, l := range names(wholeSheet()) {
		for n, name := range l {
			if k, i := world.Find(w, name); k != kind || i != n {
				t.Errorf("Find of %s is %d, %d; it should be %d, %d", name, k, i, kind, n)
			}
		}
	}
	for _, name := range []string{"", "nobody", "aa", "A", "open", "a ", " a", "x", strings.Repeat("a", 99)} {
		if k, i := world.Find(w, name); k != api.KindHorizon || i != 0 {
			t.Errorf("Find of %q is %d, %d", name, k, i)
		}
	}
	if k, i := world.Find(api.World{}, "a"); k != api.KindHorizon || i != 0 {
		t.Error(k, i)
	}
	if k, i := world.Find(api.World{}, ""); k != api.KindHorizon || i != 0 {
		t.Error(k, i)
	}
}

func TestP9_1FindOfANameThatSeveralHave(t *testing.T) {
	paths := ownNames(wholeSheet())
	for later := range paths {
		for ahead := range later {
			w := wholeWorld()
			l := namesOf(&w)
			for _, name := range []string{*l[ahead], "", "open"} {
				*l[later], *l[ahead] = name, name
				kind, n := owner(paths[ahead])
				if k, i := world.Find(w, name); k != kind || i != n {
					t.Errorf("Find of %q, which %s and %s have, is %d, %d", name, paths[ahead], paths[later], k, i)
				}
			}
		}
	}
}

func TestP9_1FindOfMoreThanMayBe(t *testing.T) {
	w := api.World{Names: api.Names{Stops: numbered("s", 3000), Hazards: numbered("h", 3000)}}
	if k, i := world.Find(w, w.Names.Hazards[2999]); k != api.KindHazard || i != 2999 {
		t.Error(k, i)
	}
	if k, i := world.Find(w, w.Names.Stops[2999]); k != api.KindStop || i != 2999 {
		t.Error(k, i)
	}
}

// same checks Same of two worlds, either way about.
func same(t *testing.T, title string, a, b api.World, want bool) {
	t.Helper()
	if world.Same(a, b) != want || world.Same(b, a) != want {
		t.Errorf("%s: Same is %v, %v; it should be %v", title, world.Same(a, b), world.Same(b, a), want)
	}
}

func TestP9_1SameOfWorldsThatAreAlike(t *testing.T) {
	same(t, "worlds of nothing", api.World{}, api.World{}, true)
	same(t, "whole worlds", wholeWorld(), wholeWorld(), true)
	same(t, "spare room", wholeWorld(), copied(wholeWorld(), 3), true)
	same(t, "spare room alone", api.World{}, copied(api.World{}, 3), true)
	one, _ := world.Make(greatest())
	other, _ := plainMake(greatest())
	same(t, "great worlds", one, other, true)
	same(t, "a great world and a whole one", one, wholeWorld(), false)
	same(t, "a whole world and nothing", wholeWorld(), api.World{}, false)
}

func TestP9_1SameOfNilAndEmpty(t *testing.T) {
	empty := api.World{
		Names: api.Names{Stops: []string{}, Paths: []string{}, Doors: []string{}, Routes: []string{}, Trips: []string{}, Hazards: []string{}},
		Paths: []api.PathOf{}, Doors: []api.DoorOf{}, Routes: []api.RouteOf{}, Trips: []api.TripOf{}, Hazards: []api.HazardOf{},
	}
	same(t, "empty lists", empty, api.World{}, true)
	w := wholeWorld()
	w.Routes[2].Stays = []int64{}
	same(t, "no stays", w, wholeWorld(), true)
	one, other := wholeWorld(), wholeWorld()
	one.Routes[1], other.Routes[1] = api.RouteOf{Stops: []int{}, Rides: []int64{}, Stays: []int64{}}, api.RouteOf{}
	same(t, "a route of nothing", one, other, true)
}

func TestP9_1SameOfWorldsThatDiffer(t *testing.T) {
	for _, s := range spots(new(wholeWorld())) {
		switch s.v.Kind() {
		case reflect.Slice:
			if s.v.Len() > 0 {
				w := wholeWorld()
				v := at(&w, s.path)
				v.SetLen(v.Len() - 1)
				same(t, s.path+" without the last", w, wholeWorld(), false)
				w = wholeWorld()
				v = at(&w, s.path)
				v.Set(v.Slice(1, v.Len()))
				same(t, s.path+" without the first", w, wholeWorld(), false)
				w = wholeWorld()
				v = at(&w, s.path)
				v.Set(reflect.Append(v, v.Index(v.Len()-1)))
				same(t, s.path+" with the last one twice", w, wholeWorld(), false)
			}
			w := wholeWorld()
			v := at(&w, s.path)
			v.Set(reflect.Append(v, reflect.Zero(v.Type().Elem())))
			same(t, s.path+" with one more", w, wholeWorld(), false)
		case reflect.String:
			w := wholeWorld()
			setString(&w, s.path, s.v.String()+"x")
			same(t, s.path, w, wholeWorld(), false)
		case reflect.Bool:
			w := wholeWorld()
			at(&w, s.path).SetBool(!s.v.Bool())
			same(t, s.path, w, wholeWorld(), false)
		default:
			for _, by := range []int64{1, -1, 1 << 32} {
				w := wholeWorld()
				setInt(&w, s.path, s.v.Int()+by)
				same(t, s.path, w, wholeWorld(), false)
			}
		}
	}
	one, other := wholeWorld(), wholeWorld()
	one.Names.Paths, one.Names.Doors = one.Names.Doors, one.Names.Paths
	same(t, "names of another kind", one, other, false)
	turned := wholeWorld()
	slices.Reverse(turned.Routes)
	same(t, "routes in another order", turned, wholeWorld(), false)
}

// spoilDrawn changes a few places of what x points to.
func spoilDrawn(seed *uint64, x any, names []string) {
	numbers := []int64{-1, 0, 1, 2, 3, 4, 5, 6, 9, 40, 255, 256, 500, horizon, top, top + 1}
	for range draw(seed) % 4 {
		s := pick(seed, spots(x))
		switch s.v.Kind() {
		case reflect.Slice:
			if n := s.v.Len(); n > 0 && draw(seed)%2 == 0 {
				s.v.SetLen(n - 1)
			} else if n > 0 {
				s.v.Set(reflect.Append(s.v, s.v.Index(int(draw(seed)%uint64(n)))))
			}
		case reflect.String:
			s.v.SetString(pick(seed, names))
		case reflect.Bool:
			s.v.SetBool(!s.v.Bool())
		default:
			s.v.SetInt(pick(seed, numbers))
		}
	}
}

// drawnSheet is one without anything wrong: some things of each kind.
func drawnSheet(seed *uint64) api.Sheet {
	x := api.Sheet{Horizon: int64(draw(seed) % 2000), Stops: []string{"a", "b", "c", "d", "e"}}
	name := func(letter string, i int) string { return letter + strconv.Itoa(i) }
	times := func() api.Times {
		t := api.Times{From: int64(draw(seed) % 3000), Every: int64(draw(seed)%2) * int64(10+draw(seed)%90), Len: int64(1 + draw(seed)%10)}
		return t
	}
	other := func(stop string) string {
		for {
			if s := pick(seed, x.Stops); s != stop {
				return s
			}
		}
	}
	for i := range int(draw(seed) % 4) {
		a := pick(seed, x.Stops)
		x.Paths = append(x.Paths, api.Path{Name: name("p", i), A: a, B: other(a), Len: int64(1 + draw(seed)%9)})
	}
	for i := range int(draw(seed) % 4) {
		a := pick(seed, x.Stops)
		x.Doors = append(x.Doors, api.Door{Name: name("d", i), A: a, B: other(a), Len: int64(1 + draw(seed)%9), Times: times()})
	}
	for i := range int(1 + draw(seed)%3) {
		r := api.Route{Name: name("r", i), Stops: []string{pick(seed, x.Stops)}}
		for n := range 1 + draw(seed)%5 {
			r.Rides = append(r.Rides, int64(1+draw(seed)%9))
			r.Stops = append(r.Stops, other(r.Stops[len(r.Stops)-1]))
			if n > 0 {
				r.Stays = append(r.Stays, int64(draw(seed)%3))
			}
		}
		x.Routes = append(x.Routes, r)
	}
	for i := range int(draw(seed) % 4) {
		from := int64(draw(seed) % 100)
		x.Trips = append(x.Trips, api.Trip{Name: name("t", i), Route: pick(seed, x.Routes).Name, From: from, Every: int64(draw(seed) % 20), Until: from + int64(draw(seed)%100)})
	}
	for i := range int(draw(seed) % 4) {
		h := api.Hazard{Name: name("h", i), On: pick(seed, x.Stops), Times: times()}
		if len(x.Paths) > 0 && draw(seed)%2 == 0 {
			h.On = pick(seed, x.Paths).Name
		}
		x.Hazards = append(x.Hazards, h)
	}
	return x
}

var drawnNames = []string{"a", "b", "c", "d", "e", "p0", "p1", "d0", "d1", "r0", "r1", "t0", "h0", "h1", "nobody", "x", "open"}

func TestP9_1DrawnSheets(t *testing.T) {
	seed := uint64(9)
	met := map[api.Wrong]int{}
	for range 10000 {
		x := drawnSheet(&seed)
		if bad := agrees(t, "a drawn sheet", x); bad != (api.Wrong{}) {
			t.Fatal(x, bad)
		}
		spoilDrawn(&seed, &x, drawnNames)
		met[agrees(t, "a spoilt sheet", x)]++
	}
	if len(met) < 50 || met[api.Wrong{}] < 1000 {
		t.Errorf("too few kinds of wrong: %v", met)
	}
}

func TestP9_1DrawnWorlds(t *testing.T) {
	seed := uint64(99)
	met := map[api.Wrong]int{}
	for range 10000 {
		w, _ := plainMake(drawnSheet(&seed))
		spoilDrawn(&seed, &w, drawnNames)
		met[agreesWorld(t, "a drawn world", w)]++
		for _, name := range drawnNames {
			kind, n := world.Find(w, name)
			wantKind, wantN := plainFind(w, name)
			if kind != wantKind || n != wantN {
				t.Fatalf("Find of %s in %v is %d, %d; it should be %d, %d", name, w, kind, n, wantKind, wantN)
			}
		}
		v := copied(w, 1)
		same(t, "a copy", w, v, true)
		spoilDrawn(&seed, &v, drawnNames)
		same(t, "a spoilt copy", w, v, alike(w, v))
	}
	if len(met) < 30 || met[api.Wrong{}] < 1000 {
		t.Errorf("too few kinds of wrong: %v", met)
	}
}

func plainFind(w api.World, name string) (int, int) {
	for kind, l := range [][]string{nil, w.Names.Stops, w.Names.Paths, w.Names.Doors, w.Names.Routes, w.Names.Trips, w.Names.Hazards} {
		for n, other := range l {
			if other == name {
				return kind, n
			}
		}
	}
	return 0, 0
}

func TestP9_2SheetOfMakeAndMakeOfSheet(t *testing.T) {
	for title, x := range map[string]api.Sheet{"a whole sheet": wholeSheet(), "the greatest": greatest(), "the least": {}} {
		w, bad := world.Make(x)
		back, err := world.Sheet(w)
		if bad != (api.Wrong{}) || err != api.OK || !alike(back, x) || !sheet.Same(back, x) {
			t.Errorf("%s: Sheet of Make is another one (%v, %v)", title, bad, err)
		}
		again, bad := world.Make(back)
		if bad != (api.Wrong{}) || !alike(again, w) || !world.Same(again, w) {
			t.Errorf("%s: Make of Sheet is another one (%v)", title, bad)
		}
	}
}

func TestP9_2UnlikeSheetsHaveUnlikeWorlds(t *testing.T) {
	base, _ := world.Make(wholeSheet())
	seed := uint64(999)
	for range 5000 {
		x := wholeSheet()
		spoilDrawn(&seed, &x, []string{"a", "b", "c", "d", "p", "q", "r", "s", "u", "y"})
		if w, bad := world.Make(x); bad == (api.Wrong{}) {
			same(t, "another sheet", w, base, sheet.Same(x, wholeSheet()))
		}
	}
}

func TestWhatIsHandedInStays(t *testing.T) {
	for title, x := range map[string]api.Sheet{"a sheet": wholeSheet(), "the greatest": greatest(), "nothing": {}} {
		roomy := copied(x, 2)
		before := whole(roomy)
		w, bad := world.Make(roomy)
		if bad != (api.Wrong{}) || !reflect.DeepEqual(whole(roomy), before) {
			t.Errorf("%s: Make changes what it is handed (%v)", title, bad)
		}
		want, _ := plainMake(x)
		if !alike(w, want) {
			t.Errorf("%s: Make reads spare room", title)
		}
		roomyWorld := copied(w, 2)
		beforeWorld := whole(roomyWorld)
		back, err := world.Sheet(roomyWorld)
		if err != api.OK || world.Check(roomyWorld) != (api.Wrong{}) || !world.Same(roomyWorld, roomyWorld) || !alike(back, x) {
			t.Errorf("%s: spare room is read (%v)", title, err)
		}
		if k, n := world.Find(roomyWorld, "Junk"); k != 0 || n != 0 {
			t.Errorf("%s: Find reads spare room", title)
		}
		if !reflect.DeepEqual(whole(roomyWorld), beforeWorld) {
			t.Errorf("%s: a world that is handed in is changed", title)
		}
	}
	for _, f := range sheetFaults() {
		x := wholeSheet()
		f.spoil(&x)
		roomy := copied(x, 2)
		before := whole(roomy)
		refuses(t, f.title+", with spare room", roomy, f.want)
		if !reflect.DeepEqual(whole(roomy), before) {
			t.Errorf("%s: Make changes what it is handed", f.title)
		}
	}
	for _, f := range worldFaults() {
		w := wholeWorld()
		f.spoil(&w)
		roomy := copied(w, 2)
		before := whole(roomy)
		holds(t, f.title+", with spare room", roomy, f.want)
		if !reflect.DeepEqual(whole(roomy), before) {
			t.Errorf("%s: what is handed in is changed", f.title)
		}
	}
}

func TestWhatIsAnsweredIsNewMemory(t *testing.T) {
	for _, x := range []api.Sheet{wholeSheet(), greatest(), {}} {
		for _, room := range []int{0, 2} {
			in := copied(x, room)
			one, _ := world.Make(in)
			other, _ := world.Make(in)
			from := copied(one, room)
			back, _ := world.Sheet(from)
			again, _ := world.Sheet(from)
			apart(t, &in, &one, &other, &from, &back, &again)
		}
	}
}

func TestAnAnswerStaysWhenWhatWasHandedInIsChanged(t *testing.T) {
	x := wholeSheet()
	w, _ := world.Make(x)
	junk(reflect.ValueOf(&x.Stops[0]).Elem())
	junk(reflect.ValueOf(&x.Paths[0]).Elem())
	junk(reflect.ValueOf(&x.Routes[0].Stops[0]).Elem())
	junk(reflect.ValueOf(&x.Routes[1].Rides[0]).Elem())
	junk(reflect.ValueOf(&x.Routes[1].Stays[0]).Elem())
	if !alike(w, wholeWorld()) {
		t.Error(w)
	}
	back, _ := world.Sheet(w)
	junk(reflect.ValueOf(&w.Names.Stops[0]).Elem())
	junk(reflect.ValueOf(&w.Routes[0].Stops[0]).Elem())
	junk(reflect.ValueOf(&w.Routes[1].Rides[0]).Elem())
	junk(reflect.ValueOf(&w.Routes[1].Stays[0]).Elem())
	if !alike(back, wholeSheet()) {
		t.Error(back)
	}
}

func FuzzMake(f *testing.F) {
	f.Add("stop a\nstop b\npath p a b 3\nroute r a 5 b\ntrip t of r from 1 every 10 until 30\nhazard h on p from 4 every 0 closed 5\n")
	f.Add("stop a\nstop b\ndoor d a b 1 from 0 every 0 open 2\nhazard h on a from 4 every 9 closed 5\n")
	f.Add("stop a\npath a a a 0\nroute r a 5 a\ntrip t of t from 2 every 10 until 1\nhazard h on h from 4 every 1 closed 5\n")
	f.Fuzz(func(t *testing.T, text string) {
		if x, fault := sheet.Parse("horizon 300\n" + text); fault == (api.Fault{}) {
			agrees(t, "a text", x)
		}
	})
}
