package expand_test

import (
	"math"
	"reflect"
	"slices"
	"strconv"
	"testing"

	"timetable/api"
	"timetable/expand"
)

func run(arr, dep []int64) api.Run {
	return api.Run{Trip: 3, No: 7, Arr: arr, Dep: dep}
}

// plainMay asks one thing after the other of a run's times, in the document's words.
func plainMay(r api.Run) bool {
	n := len(r.Arr)
	if len(r.Dep) != n || n < 2 {
		return false
	}
	for i := range n {
		if r.Arr[i] < 0 || r.Arr[i] > top || r.Dep[i] < 0 || r.Dep[i] > top {
			return false
		}
		if (i == 0 || i == n-1) && r.Arr[i] != r.Dep[i] {
			return false
		}
		if r.Dep[i] < r.Arr[i] || i > 0 && r.Arr[i] <= r.Dep[i-1] {
			return false
		}
	}
	return true
}

// plainLater moves all of r, place by place.
func plainLater(r api.Run, from int, by int64) (api.Run, api.Errno) {
	if !plainMay(r) || from < 0 || from >= len(r.Arr)-1 || by < 0 {
		return api.Run{}, api.ErrArg
	}
	late := api.Run{Trip: r.Trip, No: r.No}
	for i := range r.Arr {
		arr, dep := r.Arr[i], r.Dep[i]
		if i > from || i == 0 && from == 0 {
			arr = plainSum(arr, by)
		}
		if i >= from {
			dep = plainSum(dep, by)
		}
		if arr > top || dep > top {
			return api.Run{}, api.ErrRange
		}
		late.Arr, late.Dep = append(late.Arr, arr), append(late.Dep, dep)
	}
	return late, api.OK
}

// plainSum tells a sum that does not go round: whatever is above MaxTick is as good.
func plainSum(a, by int64) int64 {
	if by > top {
		return top + 1
	}
	return a + by
}

// laters holds Later against the plain way.
func laters(t *testing.T, title string, r api.Run, from int, by int64) api.Errno {
	t.Helper()
	want, wantErr := plainLater(r, from, by)
	late, err := expand.Later(r, from, by)
	if err != wantErr || !sameRun(late, want) {
		t.Fatalf("%s: Later of %v, %d, %d is %v, %v; it should be %v, %v", title, r, from, by, late, err, want, wantErr)
	}
	if err != api.OK && !reflect.DeepEqual(late, api.Run{}) {
		t.Fatalf("%s: Later tells %v beside an error", title, late)
	}
	return err
}

// allTimes tells all lists of n numbers from least to most.
func allTimes(n int, least, most int64) [][]int64 {
	l := [][]int64{nil}
	for range n {
		var longer [][]int64
		for _, times := range l {
			for x := least; x <= most; x++ {
				longer = append(longer, append(slices.Clone(times), x))
			}
		}
		l = longer
	}
	return l
}

// unlikeTimes are pairs of Arr and Dep that may be, and that may not be, of up to four stops.
func unlikeTimes() []api.Run {
	var l []api.Run
	for n := range 4 {
		for _, arr := range allTimes(n, -1, 3) {
			for _, dep := range allTimes(n, -1, 3) {
				l = append(l, run(arr, dep))
			}
		}
	}
	for _, mid := range allTimes(4, 1, 5) {
		l = append(l, run([]int64{0, mid[0], mid[2], 6}, []int64{0, mid[1], mid[3], 6}))
	}
	for n := range 4 {
		for m := range 5 {
			l = append(l, run([]int64{0, 1, 2, 3}[:n], []int64{0, 1, 2, 3, 4}[:m]))
		}
	}
	return l
}

func TestP10_2LaterOfAllSmallRuns(t *testing.T) {
	may := 0
	for _, r := range unlikeTimes() {
		for from := -1; from <= len(r.Arr); from++ {
			for _, by := range []int64{-1, 0, 1, 5} {
				if laters(t, "a small run", r, from, by) == api.OK {
					may++
				}
			}
		}
	}
	if may < 300 {
		t.Errorf("too few runs that may be: %d", may)
	}
}

func TestP10_2LaterOfTheExample(t *testing.T) {
	r := run([]int64{1, 6, 11}, []int64{1, 8, 11})
	for _, c := range []struct {
		from     int
		by       int64
		arr, dep []int64
	}{
		{0, 4, []int64{5, 10, 15}, []int64{5, 12, 15}},
		{1, 4, []int64{1, 6, 15}, []int64{1, 12, 15}},
		{0, 0, []int64{1, 6, 11}, []int64{1, 8, 11}},
		{1, 0, []int64{1, 6, 11}, []int64{1, 8, 11}},
	} {
		late, err := expand.Later(r, c.from, c.by)
		if err != api.OK || !sameRun(late, run(c.arr, c.dep)) {
			t.Errorf("Later from %d by %d is %v, %v", c.from, c.by, late, err)
		}
	}
}

func TestP10_2WhereLaterBegins(t *testing.T) {
	for n := 2; n <= 40; n++ {
		r := run(nil, nil)
		for i := range int64(n) {
			r.Arr, r.Dep = append(r.Arr, 10+4*i), append(r.Dep, 10+4*i+1)
		}
		r.Dep[0], r.Dep[n-1] = r.Arr[0], r.Arr[n-1]
		for _, from := range []int{math.MinInt, -2, -1, n - 1, n, n + 1, 1 << 32, math.MaxInt} {
			if err := laters(t, "from nowhere", r, from, 1); err != api.ErrArg {
				t.Errorf("from %d of %d: %v", from, n, err)
			}
		}
		for from := range n - 1 {
			if err := laters(t, "from a stop", r, from, 3); err != api.OK {
				t.Errorf("from %d of %d: %v", from, n, err)
			}
		}
	}
}

func TestP10_2HowMuchLater(t *testing.T) {
	for last, want := range map[int64]map[int64]api.Errno{
		11:      {math.MinInt64: api.ErrArg, -top: api.ErrArg, -1: api.ErrArg, 0: api.OK, 1: api.OK, top - 12: api.OK, top - 11: api.OK, top - 10: api.ErrRange, top: api.ErrRange},
		top - 1: {-1: api.ErrArg, 0: api.OK, 1: api.OK, 2: api.ErrRange},
		top:     {-1: api.ErrArg, 0: api.OK, 1: api.ErrRange},
	} {
		for _, by := range []int64{top + 1, api.Inf - 11, api.Inf, math.MaxInt64 - top, math.MaxInt64 - 11, math.MaxInt64 - 10, math.MaxInt64} {
			want[by] = api.ErrRange
		}
		for by, err := range want {
			for from := range 2 {
				r := run([]int64{1, 6, last}, []int64{1, 8, last})
				if got := laters(t, "up to MaxTick", r, from, by); got != err {
					t.Errorf("from %d of %v by %d: %v; it should be %v", from, r, by, got, err)
				}
			}
			if got := laters(t, "two stops", run([]int64{1, last}, []int64{1, last}), 0, by); got != err {
				t.Errorf("two stops up to %d, by %d: %v; it should be %v", last, by, got, err)
			}
		}
	}
}

func TestP10_2LaterOfTimesFarOut(t *testing.T) {
	for _, x := range []int64{math.MinInt64, -1, top + 1, api.Inf, math.MaxInt64} {
		for at := range 3 {
			for _, both := range []bool{false, true} {
				arr := run([]int64{1, 6, 11}, []int64{1, 8, 11})
				arr.Arr[at] = x
				dep := run([]int64{1, 6, 11}, []int64{1, 8, 11})
				dep.Dep[at] = x
				if both {
					arr.Dep[at], dep.Arr[at] = x, x
				}
				for from := range 2 {
					for _, by := range []int64{0, 1, top, math.MaxInt64} {
						if laters(t, "Arr", arr, from, by) != api.ErrArg || laters(t, "Dep", dep, from, by) != api.ErrArg {
							t.Errorf("%d at %d: it should be refused", x, at)
						}
					}
				}
			}
		}
	}
	for _, r := range []api.Run{run([]int64{0, top}, []int64{0, top}), run([]int64{top - 1, top}, []int64{top - 1, top}), run([]int64{0, 1, top}, []int64{0, top - 1, top})} {
		if laters(t, "up to MaxTick", r, 0, 0) != api.OK || laters(t, "up to MaxTick", r, 0, 1) != api.ErrRange {
			t.Error(r)
		}
	}
}

func TestP10_2WhichIsToldOfLater(t *testing.T) {
	bad := run([]int64{1, 6, top}, []int64{2, 8, top})
	good := run([]int64{1, 6, top}, []int64{1, 8, top})
	for title, err := range map[string]api.Errno{
		"times, and by":  laters(t, "times, and by", bad, 0, 1),
		"from, and by":   laters(t, "from, and by", good, 2, 1),
		"below 0 by all": laters(t, "below 0 by all", bad, -1, -1),
	} {
		if err != api.ErrArg {
			t.Errorf("%s: %v", title, err)
		}
	}
}

func TestP10_2LaterOfAnyTrip(t *testing.T) {
	for _, id := range []int{math.MinInt, -1, 0, 1024, math.MaxInt} {
		r := api.Run{Trip: id, No: -id, Arr: []int64{0, 1}, Dep: []int64{0, 1}}
		if laters(t, "any trip", r, 0, 2) != api.OK {
			t.Error(id)
		}
	}
}

func TestP10_2LaterLeavesWhatIsHandedIn(t *testing.T) {
	for _, room := range []bool{false, true} {
		for from := range 4 {
			for _, by := range []int64{-1, 0, 4, top} {
				r := run([]int64{1, 6, 11, 20}, []int64{1, 8, 11, 20})
				if room {
					r.Arr, r.Dep = roomy(r.Arr, -7), roomy(r.Dep, -7)
				}
				before := unfolded(r)
				late, err := expand.Later(r, from, by)
				again, _ := expand.Later(r, from, by)
				if unfolded(r) != before {
					t.Errorf("Later from %d by %d changes what it is handed", from, by)
				}
				if (err == api.OK) != (from < 3 && by >= 0 && by < top) {
					t.Errorf("Later from %d by %d: %v", from, by, err)
				}
				apart(t, "Later", runAreas(r, late, again)...)
				if err == api.OK {
					late.Arr[0], late.Dep[3] = -7, -7
				}
				if unfolded(r) != before {
					t.Error("an answer shares memory with what was handed in")
				}
			}
		}
	}
	// One list may be handed in as both.
	times := []int64{1, 6, 11}
	r := run(times, times)
	late, err := expand.Later(r, 1, 4)
	if err != api.OK || !sameRun(late, run([]int64{1, 6, 15}, []int64{1, 10, 15})) || !slices.Equal(times, []int64{1, 6, 11}) {
		t.Error(late, err, times)
	}
	apart(t, "of one list", append(runAreas(late), areaOf(times))...)
}

func TestP10_3LaterByAAndThenByB(t *testing.T) {
	for _, r := range unlikeTimes() {
		if !plainMay(r) {
			continue
		}
		for from := range len(r.Arr) - 1 {
			for _, a := range []int64{0, 1, 7, top / 2, top - 7, top - 6, top} {
				for _, b := range []int64{0, 1, 6, 7, top / 2, top} {
					first, err := expand.Later(r, from, a)
					if err != api.OK {
						continue
					}
					then, err := expand.Later(first, from, b)
					both, bothErr := expand.Later(r, from, a+b)
					if err != bothErr || !sameRun(then, both) {
						t.Fatalf("Later of %v, %d, by %d and by %d is %v, %v; by both %v, %v", r, from, a, b, then, err, both, bothErr)
					}
				}
			}
		}
	}
}

// checks tells whether Check tells just this.
func checks(t *testing.T, title string, w api.World, r api.Run, want api.Errno) {
	t.Helper()
	if err := expand.Check(w, r); err != want {
		t.Errorf("%s: Check of %v is %v; it should be %v", title, r, err, want)
	}
}

// plainCheck asks what chapter 10 asks of a run in a world that may be.
func plainCheck(w api.World, r api.Run) api.Errno {
	if r.Trip < 0 || r.Trip >= len(w.Trips) || r.No < 0 || r.No >= len(plainTrip(w, r.Trip)) {
		return api.ErrNone
	}
	if !plainMay(r) || len(r.Arr) != len(w.Routes[w.Trips[r.Trip].Route].Stops) {
		return api.ErrArg
	}
	if r.Arr[len(r.Arr)-1] > w.Horizon {
		return api.ErrRange
	}
	return api.OK
}

func TestP10_2CheckOfATripAndANumber(t *testing.T) {
	w := whole()
	times := [][]int64{{1, 9}, {7, 12, 17}, {1, 9}, {45, 46, 48, 58}}
	for _, trip := range []int{math.MinInt, -1, 0, 1, 2, 3, 4, 1 << 32, math.MaxInt} {
		for _, no := range []int{math.MinInt, -1, 0, 1, 2, 3, 4, 5, 1 << 32, math.MaxInt} {
			of := times[min(max(trip, 0), 3)]
			r := api.Run{Trip: trip, No: no, Arr: of, Dep: of}
			checks(t, "a trip and a number", w, r, plainCheck(w, r))
		}
	}
	for trip, n := range []int{4, 1, 0, 1} {
		for no := range n {
			checks(t, "that is there", w, api.Run{Trip: trip, No: no, Arr: times[trip], Dep: times[trip]}, api.OK)
		}
		checks(t, "behind the last one", w, api.Run{Trip: trip, No: n, Arr: times[trip], Dep: times[trip]}, api.ErrNone)
		checks(t, "below 0", w, api.Run{Trip: trip, No: -1, Arr: times[trip], Dep: times[trip]}, api.ErrNone)
	}
	// The run behind the last one that is there would leave in time, and come too late.
	small := parsed(t, text)
	late := plainRun(small, 0, 2)
	checks(t, "beyond the horizon", small, late, api.ErrNone)
}

func TestP10_2CheckOfTimes(t *testing.T) {
	for n := 2; n <= 4; n++ {
		route := line(slices.Repeat([]int64{1}, n-1), make([]int64, n-2))
		for _, horizon := range []int64{int64(n - 1), 5, 9, top} {
			w := of(horizon, []api.RouteOf{route}, api.TripOf{})
			met := map[api.Errno]int{}
			for _, r := range unlikeTimes() {
				r.Trip, r.No = 0, 0
				want := plainCheck(w, r)
				met[want]++
				if err := expand.Check(w, r); err != want {
					t.Fatalf("Check of %v in a world of %d stops, up to %d, is %v; it should be %v", r, n, horizon, err, want)
				}
			}
			if met[api.OK] == 0 && horizon > 5 || met[api.ErrArg] == 0 {
				t.Errorf("too few of some kind: %v", met)
			}
		}
	}
}

func TestP10_2CheckOfTimesThatMayNotBe(t *testing.T) {
	w := parsed(t, text)
	for title, r := range map[string]api.Run{
		"no times":                      {},
		"one stop alone":                {Arr: []int64{1}, Dep: []int64{1}},
		"two stops of three":            {Arr: []int64{1, 6}, Dep: []int64{1, 6}},
		"four stops of three":           {Arr: []int64{1, 6, 11, 12}, Dep: []int64{1, 8, 11, 12}},
		"a Dep too few":                 {Arr: []int64{1, 6, 11}, Dep: []int64{1, 8}},
		"an Arr too few":                {Arr: []int64{1, 6}, Dep: []int64{1, 8, 11}},
		"no Dep":                        {Arr: []int64{1, 6, 11}},
		"no Arr":                        {Dep: []int64{1, 6, 11}},
		"Dep behind Arr at first":       {Arr: []int64{1, 6, 11}, Dep: []int64{2, 8, 11}},
		"Dep ahead of Arr at first":     {Arr: []int64{1, 6, 11}, Dep: []int64{0, 8, 11}},
		"Dep behind Arr at last":        {Arr: []int64{1, 6, 11}, Dep: []int64{1, 8, 12}},
		"Dep ahead of Arr at last":      {Arr: []int64{1, 6, 11}, Dep: []int64{1, 8, 10}},
		"Dep below Arr":                 {Arr: []int64{1, 6, 11}, Dep: []int64{1, 5, 11}},
		"Arr at the Dep ahead":          {Arr: []int64{1, 1, 11}, Dep: []int64{1, 8, 11}},
		"Arr below the Dep ahead":       {Arr: []int64{1, 0, 11}, Dep: []int64{1, 8, 11}},
		"the last Arr at the Dep ahead": {Arr: []int64{1, 6, 11}, Dep: []int64{1, 11, 11}},
		"below 0":                       {Arr: []int64{-1, 6, 11}, Dep: []int64{-1, 8, 11}},
		"all below 0":                   {Arr: []int64{-9, -8, -7}, Dep: []int64{-9, -8, -7}},
		"above MaxTick":                 {Arr: []int64{1, 6, top + 1}, Dep: []int64{1, 8, top + 1}},
		"never":                         {Arr: []int64{1, 6, api.Inf}, Dep: []int64{1, 8, api.Inf}},
		"too many that are too late":    {Arr: []int64{1, 6, 11, 99}, Dep: []int64{1, 8, 11, 99}},
		"wrong, and too late":           {Arr: []int64{1, 6, 99}, Dep: []int64{1, 5, 99}},
	} {
		checks(t, title, w, r, api.ErrArg)
		r.No = 1
		checks(t, title, w, r, api.ErrArg)
		r.No = 2
		checks(t, title+", and no such run", w, r, api.ErrNone)
		r.Trip, r.No = 1, 0
		checks(t, title+", and no such trip", w, r, api.ErrNone)
		w := w
		w.Horizon = -1
		checks(t, title+", and no such world", w, r, api.ErrArg)
	}
}

func TestP10_2CheckUpToTheHorizon(t *testing.T) {
	w := parsed(t, text)
	for last, want := range map[int64]api.Errno{9: api.OK, 11: api.OK, 29: api.OK, 30: api.OK, 31: api.ErrRange, 1000: api.ErrRange, top: api.ErrRange, top + 1: api.ErrArg} {
		for no := range 2 {
			checks(t, "up to "+strconv.FormatInt(last, 10), w, api.Run{No: no, Arr: []int64{1, 6, last}, Dep: []int64{1, 8, last}}, want)
		}
	}
	checks(t, "all too late", w, api.Run{Arr: []int64{31, 32, 33}, Dep: []int64{31, 32, 33}}, api.ErrRange)
	checks(t, "at 0", w, api.Run{Arr: []int64{0, 1, 2}, Dep: []int64{0, 1, 2}}, api.OK)
	checks(t, "without a stay", w, api.Run{Arr: []int64{0, 6, 30}, Dep: []int64{0, 6, 30}}, api.OK)
	checks(t, "a long stay", w, api.Run{Arr: []int64{0, 1, 30}, Dep: []int64{0, 29, 30}}, api.OK)
	far := of(top, []api.RouteOf{line([]int64{1}, nil)}, api.TripOf{})
	checks(t, "at MaxTick", far, api.Run{Arr: []int64{0, top}, Dep: []int64{0, top}}, api.OK)
	checks(t, "above MaxTick", far, api.Run{Arr: []int64{0, top + 1}, Dep: []int64{0, top + 1}}, api.ErrArg)
}

func TestP10_2CheckOfWhatIsLater(t *testing.T) {
	w := parsed(t, text)
	r, _ := expand.One(w, 0, 1)
	for by, want := range map[int64]api.Errno{0: api.OK, 4: api.OK, 8: api.OK, 9: api.OK, 10: api.ErrRange, 99: api.ErrRange} {
		for from := range 2 {
			late, err := expand.Later(r, from, by)
			if err != api.OK {
				t.Fatal(err)
			}
			checks(t, "later", w, late, want)
		}
	}
}

func TestP10_2CheckLeavesWhatIsHandedIn(t *testing.T) {
	w := roomyWorld(parsed(t, text))
	for _, times := range [][]int64{nil, {1}, {1, 6, 11}, {1, 6, 99}, {3, 2, 1}} {
		for no := range 3 {
			r := api.Run{No: no, Arr: roomy(times, 50), Dep: roomy(times, 50)}
			before, beforeWorld := unfolded(r), unfolded(w)
			checks(t, "with spare room", w, r, plainCheck(w, r))
			if unfolded(r) != before || unfolded(w) != beforeWorld {
				t.Error("Check changes what it is handed")
			}
		}
	}
}

// TestNothingPanics asks all that may be asked, with numbers from everywhere.
func TestNothingPanics(t *testing.T) {
	numbers := []int64{math.MinInt64, math.MinInt64 + 1, -top, -1, 0, 1, 2, top - 1, top, top + 1, api.Inf - 1, api.Inf, math.MaxInt64 - 1, math.MaxInt64}
	var l [][]int64
	for _, x := range numbers {
		l = append(l, []int64{x})
		for _, y := range numbers {
			l = append(l, []int64{x, y}, []int64{x, 5, y}, []int64{0, x, y})
		}
	}
	for _, times := range l {
		r := run(times, times)
		for _, x := range numbers {
			laters(t, "numbers from everywhere", r, int(x), 1)
			laters(t, "numbers from everywhere", r, 0, x)
			laters(t, "numbers from everywhere", r, 1, x)
		}
	}
	seed := uint64(6)
	for range 20000 {
		w := drawnWorld(&seed)
		pick := func() int64 { return numbers[draw(&seed)%uint64(len(numbers))] }
		for i := range w.Trips {
			switch draw(&seed) % 8 {
			case 0:
				w.Trips[i].From = pick()
			case 1:
				w.Trips[i].Every = pick()
			case 2:
				w.Trips[i].Until = pick()
			case 3:
				w.Horizon = pick()
			case 4:
				w.Routes[0].Rides[0] = pick()
			case 5:
				w.Trips[i].Route = int(pick())
			}
		}
		trip, no := int(pick()), int(pick())
		n := expand.Count(w, trip)
		r, err := expand.One(w, trip, no)
		if (err == api.OK) != (no >= 0 && no < n) || err == api.OK && expand.Check(w, r) != api.OK {
			t.Fatalf("%v: Count of %d is %d, One of %d is %v, %v", w, trip, n, no, r, err)
		}
		sum := 0
		for trip := range w.Trips {
			sum += expand.Count(w, trip)
		}
		runs, err := expand.All(w)
		if err == api.OK && len(runs) != sum || err == api.ErrLong && sum <= mostRuns || err == api.ErrArg && sum > 0 {
			t.Fatalf("%v: %d runs, %v; by Count there are %d", w, len(runs), err, sum)
		}
	}
}
