package sheet_test

import (
	"maps"
	"math"
	"reflect"
	"slices"
	"strconv"
	"strings"
	"testing"

	"timetable/api"
	"timetable/lex"
	"timetable/sheet"
)

const (
	top       = int64(1) << 40
	never     = int64(1) << 62
	mostStops = 32 // of a route
	fiveStops = 5
	longest   = 24
	textBytes = 1 << 16
)

var reserved = []string{"horizon", "stop", "path", "door", "route", "trip", "hazard", "from", "every", "open", "closed", "of", "on", "until", "stay"}

func text(line, col int) api.Fault {
	return api.Fault{Err: api.ErrText, Line: line, Col: col}
}

func long(line, col int) api.Fault {
	return api.Fault{Err: api.ErrLong, Line: line, Col: col}
}

// short tells a text that may be long.
func short(s string) string {
	if len(s) > 200 {
		return strconv.Quote(s[:80]) + ".." + strconv.Quote(s[len(s)-80:]) + " of " + strconv.Itoa(len(s))
	}
	return strconv.Quote(s)
}

// sameSheet tells whether all is the same, where a nil list and an empty one are one and the same.
func sameSheet(a, b api.Sheet) bool {
	return reflect.DeepEqual(plainLists(a), plainLists(b))
}

// plainLists tells a copy whose lists are nil where they are empty.
func plainLists(x api.Sheet) api.Sheet {
	x = deep(x)
	for i := range x.Routes {
		r := &x.Routes[i]
		r.Stops, r.Rides, r.Stays = orNil(r.Stops), orNil(r.Rides), orNil(r.Stays)
	}
	x.Stops, x.Paths, x.Doors = orNil(x.Stops), orNil(x.Paths), orNil(x.Doors)
	x.Routes, x.Trips, x.Hazards = orNil(x.Routes), orNil(x.Trips), orNil(x.Hazards)
	return x
}

func orNil[T any](l []T) []T {
	if len(l) == 0 {
		return nil
	}
	return l
}

// deep tells a copy that shares no memory.
func deep(x api.Sheet) api.Sheet {
	x.Stops, x.Paths, x.Doors = slices.Clone(x.Stops), slices.Clone(x.Paths), slices.Clone(x.Doors)
	x.Routes, x.Trips, x.Hazards = slices.Clone(x.Routes), slices.Clone(x.Trips), slices.Clone(x.Hazards)
	for i := range x.Routes {
		r := &x.Routes[i]
		r.Stops, r.Rides, r.Stays = slices.Clone(r.Stops), slices.Clone(r.Rides), slices.Clone(r.Stays)
	}
	return x
}

// tells checks that Parse tells just this sheet and no fault.
func tells(t *testing.T, s string, want api.Sheet) {
	t.Helper()
	if x, f := sheet.Parse(s); f != (api.Fault{}) || !sameSheet(x, want) {
		t.Errorf("Parse of %s is %v, %v; it should be %v", short(s), x, f, want)
	}
}

// refuses checks that Parse tells just this fault and nothing of a sheet.
func refuses(t *testing.T, s string, want api.Fault) {
	t.Helper()
	if x, f := sheet.Parse(s); f != want || !sameSheet(x, api.Sheet{}) {
		t.Errorf("Parse of %s is %v, %v; it should be %v", short(s), x, f, want)
	}
}

// draw tells one number after the other, always the same ones.
func draw(seed *uint64) uint64 {
	*seed ^= *seed << 13
	*seed ^= *seed >> 7
	*seed ^= *seed << 17
	return *seed
}

func pick[T any](seed *uint64, l []T) T {
	return l[draw(seed)%uint64(len(l))]
}

// forms are all lines that may stand, by the kinds of their tokens: W a name, N a number; routes of up to so many stops.
func forms(stops int) []string {
	l := []string{
		"horizon N",
		"stop W",
		"path W W W N",
		"door W W W N from N every N open N",
		"trip W of W from N every N until N",
		"hazard W on W from N every N closed N",
	}
	routes := []string{"route W W N W"}
	for range stops - 1 {
		l = append(l, routes...)
		var longer []string
		for _, r := range routes {
			longer = append(longer, r+" N W", r+" stay N N W")
		}
		routes = longer
	}
	return l
}

// grammar holds all lines that may stand, by the kinds of their tokens, and all that such a line begins with. Its routes end at a sixth stop, so that it tells all of a line that has no more than five.
type grammar struct {
	whole map[string]bool
	begun map[string]bool
}

func newGrammar() grammar {
	g := grammar{map[string]bool{}, map[string]bool{}}
	for _, form := range forms(fiveStops + 1) {
		g.whole[form] = true
		kinds := strings.Fields(form)
		for n := range len(kinds) + 1 {
			g.begun[strings.Join(kinds[:n], " ")] = true
		}
	}
	return g
}

// wrong tells the place among the kinds of the first one that may not stand there: behind all if there is too little; -1 if the line may stand.
func (g grammar) wrong(kinds []string) int {
	for i := range kinds {
		if !g.begun[strings.Join(kinds[:i+1], " ")] {
			return i
		}
	}
	if g.whole[strings.Join(kinds, " ")] {
		return -1
	}
	return len(kinds)
}

func kindsOf(toks []string) []string {
	var l []string
	for _, s := range toks {
		switch {
		case slices.Contains(reserved, s):
			l = append(l, s)
		case s[0] >= '0' && s[0] <= '9':
			l = append(l, "N")
		default:
			l = append(l, "W")
		}
	}
	return l
}

// place is where a token is, or a line's end.
type place struct{ line, col int }

// laidLine is a line's tokens, and where they are, and its end behind them.
type laidLine struct {
	toks   []string
	places []place
}

var (
	gaps = []string{" ", " ", " ", "\t", "  ", " \t "}
	tops = []string{"", "", "", "", "\n", "# x 007 A\n", " \t\n\n", "\t# stop a\n #\n"}
	tips = []string{"", "", "", " ", "\t", "#", " # x stay 2"}
)

// lay puts lines of tokens together, with blanks, remarks and empty lines drawn between.
func lay(seed *uint64, lines [][]string) (string, []laidLine) {
	var s strings.Builder
	var laid []laidLine
	line := 1
	for i, toks := range lines {
		above := pick(seed, tops)
		line += strings.Count(above, "\n")
		s.WriteString(above)
		one := laidLine{toks: toks}
		row := pick(seed, []string{"", "", "", " ", "\t"})
		for j, tok := range toks {
			if j > 0 {
				row += pick(seed, gaps)
			}
			one.places = append(one.places, place{line, len(row) + 1})
			row += tok
		}
		row += pick(seed, tips)
		one.places = append(one.places, place{line, len(row) + 1})
		laid = append(laid, one)
		s.WriteString(row)
		if i < len(lines)-1 || draw(seed)%2 == 0 {
			s.WriteByte('\n')
			line++
		}
	}
	return s.String(), laid
}

// plain tells what Parse should tell of lines, but for what there is too much of.
func plain(g grammar, laid []laidLine) (api.Sheet, api.Fault) {
	var x api.Sheet
	if len(laid) == 0 {
		return x, text(1, 1)
	}
	for i, l := range laid {
		at := g.wrong(kindsOf(l.toks))
		if (l.toks[0] == "horizon") != (i == 0) {
			at = 0
		}
		if at >= 0 {
			return api.Sheet{}, text(l.places[at].line, l.places[at].col)
		}
		add(&x, l.toks)
	}
	return x, api.Fault{}
}

// add puts what the tokens of a good line tell into a sheet.
func add(x *api.Sheet, l []string) {
	switch l[0] {
	case "horizon":
		x.Horizon = num(l[1])
	case "stop":
		x.Stops = append(x.Stops, l[1])
	case "path":
		x.Paths = append(x.Paths, api.Path{Name: l[1], A: l[2], B: l[3], Len: num(l[4])})
	case "door":
		x.Doors = append(x.Doors, api.Door{Name: l[1], A: l[2], B: l[3], Len: num(l[4]), Times: times(l[6], l[8], l[10])})
	case "route":
		x.Routes = append(x.Routes, routeOf(strings.Join(l, " ")))
	case "trip":
		x.Trips = append(x.Trips, api.Trip{Name: l[1], Route: l[3], From: num(l[5]), Every: num(l[7]), Until: num(l[9])})
	case "hazard":
		x.Hazards = append(x.Hazards, api.Hazard{Name: l[1], On: l[3], Times: times(l[5], l[7], l[9])})
	}
}

// routeOf tells a route of a good line with one blank between tokens, stop by stop from the last one back.
func routeOf(s string) api.Route {
	l := strings.Fields(s)
	r := api.Route{Name: l[1]}
	for l = l[2:]; len(l) > 1; {
		n := len(l)
		r.Stops = append(r.Stops, l[n-1])
		r.Rides = append(r.Rides, num(l[n-2]))
		l = l[:n-2]
		if n = len(l); n == 1 {
			break
		}
		stay := int64(0)
		if l[n-2] == "stay" {
			stay = num(l[n-1])
			l = l[:n-2]
		}
		r.Stays = append(r.Stays, stay)
	}
	r.Stops = append(r.Stops, l[0])
	slices.Reverse(r.Stops)
	slices.Reverse(r.Rides)
	slices.Reverse(r.Stays)
	return r
}

func times(from, every, length string) api.Times {
	return api.Times{From: num(from), Every: num(every), Len: num(length)}
}

func num(s string) int64 {
	n, err := strconv.ParseInt(s, 10, 64)
	if err != nil {
		panic(err)
	}
	return n
}

var (
	someNames   = []string{"a", "b", "c", "r", "t1", "a-b_2", "stops", "on1", "by", "delay", "inf", strings.Repeat("z", longest)}
	someNumbers = []string{"0", "1", "2", "7", "10", "30", "1099511627775", "1099511627776"}
)

// word tells a token of a kind.
func word(seed *uint64, kind string) string {
	switch kind {
	case "W":
		return pick(seed, someNames)
	case "N":
		return pick(seed, someNumbers)
	}
	return kind
}

func words(seed *uint64, form string) []string {
	var l []string
	for kind := range strings.FieldsSeq(form) {
		l = append(l, word(seed, kind))
	}
	return l
}

// agrees checks Parse of lines against the plain one, and tells the sheet.
func agrees(t *testing.T, g grammar, seed *uint64, lines [][]string) (api.Sheet, api.Fault) {
	t.Helper()
	s, laid := lay(seed, lines)
	x, f := sheet.Parse(s)
	want, fault := plain(g, laid)
	if f != fault || !sameSheet(x, want) {
		t.Fatalf("Parse of %s is %v, %v; it should be %v, %v", short(s), x, f, want, fault)
	}
	return x, f
}

const whole = "horizon 40\nstop a\nstop b\npath p a b 3\ndoor d b a 2 from 1 every 9 open 4\nroute r a 5 b stay 2 3 a 6 b\ntrip t of r from 1 every 10 until 30\nhazard h on p from 4 every 0 closed 5\n"

// wholeSheet is what whole tells.
func wholeSheet() api.Sheet {
	return api.Sheet{
		Horizon: 40,
		Stops:   []string{"a", "b"},
		Paths:   []api.Path{{Name: "p", A: "a", B: "b", Len: 3}},
		Doors:   []api.Door{{Name: "d", A: "b", B: "a", Len: 2, Times: api.Times{From: 1, Every: 9, Len: 4}}},
		Routes:  []api.Route{{Name: "r", Stops: []string{"a", "b", "a", "b"}, Rides: []int64{5, 3, 6}, Stays: []int64{2, 0}}},
		Trips:   []api.Trip{{Name: "t", Route: "r", From: 1, Every: 10, Until: 30}},
		Hazards: []api.Hazard{{Name: "h", On: "p", Times: api.Times{From: 4, Len: 5}}},
	}
}

func TestP5_1EachKindOfLine(t *testing.T) {
	tells(t, whole, wholeSheet())
	tells(t, strings.TrimSuffix(whole, "\n"), wholeSheet())
	tells(t, "horizon 0", api.Sheet{})
	tells(t, "horizon 1099511627776\n", api.Sheet{Horizon: top})
	for line, change := range map[string]func(x *api.Sheet){
		"stop a":       func(x *api.Sheet) { x.Stops = []string{"a"} },
		"path p a b 0": func(x *api.Sheet) { x.Paths = []api.Path{{Name: "p", A: "a", B: "b"}} },
		"path p q q 1099511627776": func(x *api.Sheet) {
			x.Paths = []api.Path{{Name: "p", A: "q", B: "q", Len: top}}
		},
		"door d a b 3 from 5 every 10 open 2": func(x *api.Sheet) {
			x.Doors = []api.Door{{Name: "d", A: "a", B: "b", Len: 3, Times: api.Times{From: 5, Every: 10, Len: 2}}}
		},
		"route r a 5 b": func(x *api.Sheet) {
			x.Routes = []api.Route{{Name: "r", Stops: []string{"a", "b"}, Rides: []int64{5}}}
		},
		"route r a 5 b 3 c": func(x *api.Sheet) {
			x.Routes = []api.Route{{Name: "r", Stops: []string{"a", "b", "c"}, Rides: []int64{5, 3}, Stays: []int64{0}}}
		},
		"route r a 5 b stay 2 3 c": func(x *api.Sheet) {
			x.Routes = []api.Route{{Name: "r", Stops: []string{"a", "b", "c"}, Rides: []int64{5, 3}, Stays: []int64{2}}}
		},
		"route r a 5 b stay 0 3 c": func(x *api.Sheet) {
			x.Routes = []api.Route{{Name: "r", Stops: []string{"a", "b", "c"}, Rides: []int64{5, 3}, Stays: []int64{0}}}
		},
		"route r a 1 b 2 c stay 3 4 d stay 5 6 a": func(x *api.Sheet) {
			x.Routes = []api.Route{{Name: "r", Stops: []string{"a", "b", "c", "d", "a"}, Rides: []int64{1, 2, 4, 6}, Stays: []int64{0, 3, 5}}}
		},
		"trip t of r from 1 every 10 until 40": func(x *api.Sheet) {
			x.Trips = []api.Trip{{Name: "t", Route: "r", From: 1, Every: 10, Until: 40}}
		},
		"hazard h on b from 0 every 4 closed 9": func(x *api.Sheet) {
			x.Hazards = []api.Hazard{{Name: "h", On: "b", Times: api.Times{Every: 4, Len: 9}}}
		},
	} {
		want := api.Sheet{Horizon: 9}
		change(&want)
		tells(t, "horizon 9\n"+line, want)
	}
}

func TestP5_1ThingsStandInTheOrderOfTheirLines(t *testing.T) {
	tells(t, "horizon 9\nstop c\nstop a\ntrip u of s from 1 every 2 until 3\nstop b\ntrip t of r from 4 every 5 until 6\nstop a", api.Sheet{
		Horizon: 9,
		Stops:   []string{"c", "a", "b", "a"},
		Trips:   []api.Trip{{Name: "u", Route: "s", From: 1, Every: 2, Until: 3}, {Name: "t", Route: "r", From: 4, Every: 5, Until: 6}},
	})
	// Names that nobody has, or that more than one thing has, are not this layer's.
	tells(t, "horizon 9\nroute a a 0 a\nstop a\nstop a\npath a b c 0\nhazard x on y from 0 every 0 closed 0", api.Sheet{
		Horizon: 9,
		Stops:   []string{"a", "a"},
		Paths:   []api.Path{{Name: "a", A: "b", B: "c"}},
		Routes:  []api.Route{{Name: "a", Stops: []string{"a", "a"}, Rides: []int64{0}}},
		Hazards: []api.Hazard{{Name: "x", On: "y"}},
	})
}

func TestP5_1BlanksAndRemarks(t *testing.T) {
	for name, s := range map[string]string{
		"more blanks":   strings.ReplaceAll(whole, " ", " \t  "),
		"blanks ahead":  " \t" + strings.ReplaceAll(whole, "\n", "\n\t "),
		"blanks behind": strings.ReplaceAll(whole, "\n", " \n"),
		"remarks":       strings.ReplaceAll(whole, "\n", "# stop x 007 A\n"),
		"empty lines":   "\n# x\n\n" + strings.ReplaceAll(whole, "\n", "\n\n \n#\n"),
		"no end":        strings.TrimSuffix(whole, "\n") + " # x",
	} {
		if x, f := sheet.Parse(s); f.Err != api.OK || !sameSheet(x, wholeSheet()) {
			t.Errorf("%s: %v, %v", name, x, f)
		}
	}
}

func TestP5_1TextsWithoutLines(t *testing.T) {
	for _, s := range []string{"", " ", "\t\t", "\n", "\n\n\n", " \n\t\n", "#", "# horizon 9", "#\n", "# stop 007 A\n#\n", "\n\n  # x\n\n", strings.Repeat("\n", textBytes), strings.Repeat(" ", textBytes)} {
		refuses(t, s, text(1, 1))
	}
}

func TestP5_1TheFirstLineTellsTheHorizon(t *testing.T) {
	lines := strings.Split(strings.TrimSuffix(whole, "\n"), "\n")
	for _, line := range lines[1:] {
		refuses(t, line, text(1, 1))
		refuses(t, " "+line, text(1, 2))
		refuses(t, "\n# x\n\t"+line+"\nhorizon 9\n", text(3, 2))
		refuses(t, line+"\nstop", text(1, 1))
	}
	for _, s := range append([]string{"a", "7", "horizons 9", "by"}, reserved[1:]...) {
		refuses(t, s, text(1, 1))
		refuses(t, "\n "+s+" horizon 9", text(2, 2))
		refuses(t, s+"\nhorizon 9", text(1, 1))
	}
}

func TestP5_1NoOtherLineTellsTheHorizon(t *testing.T) {
	refuses(t, "horizon 9\nhorizon 9", text(2, 1))
	refuses(t, "horizon 9\nhorizon 8\n", text(2, 1))
	refuses(t, "horizon 9\n\n  horizon", text(3, 3))
	refuses(t, "horizon 9\nhorizon a b", text(2, 1))
	refuses(t, whole+"# x\n\thorizon 40\nstop", text(10, 2))
	refuses(t, "horizon 9\nstop a\nhorizon 0\nstop b", text(3, 1))
}

func TestP5_1TooLittleIsToldAtTheLinesEnd(t *testing.T) {
	refuses(t, "horizon", text(1, 8))
	refuses(t, "horizon\n", text(1, 8))
	refuses(t, " horizon  \t\nstop a", text(1, 12))
	refuses(t, "horizon # 9\nstop a", text(1, 12))
	refuses(t, "horizon # é\nstop a", text(1, 13))
	refuses(t, "horizon 9\nstop", text(2, 5))
	refuses(t, "horizon 9\nstop \na", text(2, 6))
	refuses(t, "horizon 9\nstop #a", text(2, 8))
	for _, line := range []string{
		"path", "path p", "path p a", "path p a b",
		"door d a b", "door d a b 3", "door d a b 3 from", "door d a b 3 from 5", "door d a b 3 from 5 every 10 open",
		"route", "route r", "route r a", "route r a 5", "route r a 5 b 3", "route r a 5 b stay", "route r a 5 b stay 2", "route r a 5 b stay 2 3",
		"trip t", "trip t of", "trip t of r from 1 every 10 until",
		"hazard h on", "hazard h on b from 0 every 0 closed",
	} {
		refuses(t, "horizon 9\n"+line, text(2, len(line)+1))
		refuses(t, "horizon 9\n\n"+line+" \t# x\nstop b", text(3, len(line)+6))
	}
}

func TestP5_1TooMuchIsToldAtTheFirstTokenBehind(t *testing.T) {
	refuses(t, "horizon 9 9", text(1, 11))
	refuses(t, "horizon 9 stop a", text(1, 11))
	lines := strings.Split(strings.TrimSuffix(whole, "\n"), "\n")
	for _, line := range lines[1:] {
		for _, s := range append([]string{"a", "7"}, reserved...) {
			if strings.HasPrefix(line, "route") && (s == "7" || s == "stay") {
				continue
			}
			refuses(t, "horizon 9\n"+line+" "+s, text(2, len(line)+2))
			refuses(t, "horizon 9\n"+line+"\t"+s+" 7 a\nstop", text(2, len(line)+2))
		}
	}
}

func TestP5_1AnotherTokenThanMayStandThere(t *testing.T) {
	refuses(t, "horizon a", text(1, 9))
	refuses(t, "horizon inf", text(1, 9))
	refuses(t, "horizon stop", text(1, 9))
	refuses(t, "horizon horizon 9", text(1, 9))
	refuses(t, "horizon 9\nstop open", text(2, 6))
	refuses(t, "horizon 9\nstop stop", text(2, 6))
	refuses(t, "horizon 9\nstop 7", text(2, 6))
	refuses(t, "horizon 9\nstop a b", text(2, 8))
	refuses(t, "horizon 9\npath p a 3 b", text(2, 10))
	refuses(t, "horizon 9\npath p a b c", text(2, 12))
	refuses(t, "horizon 9\ndoor d a b 3 every 9 from 1 open 4", text(2, 14))
	refuses(t, "horizon 9\ndoor d a b 3 from 1 every 9 closed 4", text(2, 29))
	refuses(t, "horizon 9\ndoor d a b 3 form 1 every 9 open 4", text(2, 14))
	refuses(t, "horizon 9\ntrip t on r from 1 every 9 until 4", text(2, 8))
	refuses(t, "horizon 9\ntrip t r from 1 every 9 until 4", text(2, 8))
	refuses(t, "horizon 9\ntrip t of r from 1 every 9 open 4", text(2, 28))
	refuses(t, "horizon 9\nhazard h of r from 1 every 9 closed 4", text(2, 10))
	refuses(t, "horizon 9\nhazard h on r from 1 every 9 open 4", text(2, 30))
	refuses(t, "horizon 9\nhazard h on 7 from 1 every 9 closed 4", text(2, 13))
	refuses(t, "horizon 9\nroute r 5 a", text(2, 9))
	refuses(t, "horizon 9\nroute r a b", text(2, 11))
	refuses(t, "horizon 9\nroute r a stay 2 5 b", text(2, 11))
	refuses(t, "horizon 9\nroute r a 5 stay 2 b", text(2, 13))
	refuses(t, "horizon 9\nroute r a 5 b c", text(2, 15))
	refuses(t, "horizon 9\nroute r a 5 b stay c", text(2, 20))
	refuses(t, "horizon 9\nroute r a 5 b stay 2 c", text(2, 22))
	refuses(t, "horizon 9\nroute r a 5 b stay 2 stay 3 4 c", text(2, 22))
	refuses(t, "horizon 9\nroute r a 5 b open 2 4 c", text(2, 15))
	refuses(t, "horizon 9\nroute r a 5 b 3 4", text(2, 17))
}

func TestP5_1WhatALineBeginsWith(t *testing.T) {
	for _, s := range []string{"a", "7", "0", "stops", "sto", "delay", "routes", "from", "every", "open", "closed", "of", "on", "until", "stay", "horizon"} {
		for _, behind := range []string{"", " a", " 7", " stop a", " a b c 3"} {
			refuses(t, "horizon 9\n  "+s+behind, text(2, 3))
			refuses(t, whole+s+behind+"\n", text(9, 1))
		}
	}
}

// TestP5_1EachTokenAtEachPlace: behind all that a line that may stand begins with, each token, and none.
func TestP5_1EachTokenAtEachPlace(t *testing.T) {
	g := newGrammar()
	seed := uint64(51)
	right := 0
	for _, begun := range slices.Sorted(maps.Keys(g.begun)) {
		kinds := strings.Fields(begun)
		for _, next := range append([]string{"", "W", "N"}, reserved...) {
			for _, behind := range []string{"", "a", "7 b", "stay 2"} {
				var line []string
				for _, k := range append(slices.Clone(kinds), next) {
					if k != "" {
						line = append(line, word(&seed, k))
					}
				}
				if next != "" {
					line = append(line, strings.Fields(behind)...)
				}
				if len(line) == 0 || overlong(line) {
					continue
				}
				first := [][]string{{"horizon", "9"}}
				if _, f := agrees(t, g, &seed, append(first, line, []string{"stop", "a"})); f.Err == api.OK {
					right++
				}
				agrees(t, g, &seed, [][]string{line})
				agrees(t, g, &seed, append(first, line))
			}
		}
	}
	if right < 100 {
		t.Errorf("no more than %d lines might stand", right)
	}
}

// overlong tells whether a line has more names than a route of five stops: of such a one the grammar does not tell all.
func overlong(line []string) bool {
	rest := slices.DeleteFunc(kindsOf(line), func(kind string) bool { return kind != "W" })
	return len(rest) > 1+fiveStops
}

// TestP5_1DrawnTexts: lines that may stand, now and then with a token put in, left out or changed.
func TestP5_1DrawnTexts(t *testing.T) {
	g := newGrammar()
	all := forms(fiveStops)
	seed := uint64(52)
	var right, wrong int
	for i := range 20000 {
		lines := [][]string{words(&seed, "horizon N")}
		for range i % 12 {
			form := pick(&seed, all[1:])
			if draw(&seed)%3 > 0 {
				form = all[1+draw(&seed)%5]
			}
			lines = append(lines, words(&seed, form))
		}
		if draw(&seed)%2 == 0 {
			spoil(&seed, lines)
		}
		if slices.ContainsFunc(lines, overlong) {
			continue
		}
		lines = slices.DeleteFunc(lines, func(l []string) bool { return len(l) == 0 })
		if _, f := agrees(t, g, &seed, lines); f.Err == api.OK {
			right++
		} else {
			wrong++
		}
	}
	if right < 5000 || wrong < 5000 {
		t.Errorf("%d texts were right, %d wrong", right, wrong)
	}
}

func spoil(seed *uint64, lines [][]string) {
	at := draw(seed) % uint64(len(lines))
	l := lines[at]
	i := int(draw(seed) % uint64(len(l)))
	any := word(seed, pick(seed, append([]string{"W", "W", "N", "N", "stay"}, reserved...)))
	switch draw(seed) % 5 {
	case 0:
		l = slices.Delete(slices.Clone(l), i, i+1)
	case 1:
		l = slices.Insert(slices.Clone(l), i, any)
	case 2:
		l = append(slices.Clone(l), any)
	case 3:
		l = slices.Clone(l[:i])
	default:
		l = slices.Clone(l)
		l[i] = any
	}
	lines[at] = l
}

// kinds of things: how many there may be, one line of each, and how many a sheet has.
var things = []struct {
	name string
	most int
	line string
	has  func(x api.Sheet) int
}{
	{"stops", 256, "stop a", func(x api.Sheet) int { return len(x.Stops) }},
	{"paths", 1024, "path p a b 3", func(x api.Sheet) int { return len(x.Paths) }},
	{"doors", 256, "door d a b 3 from 1 every 9 open 4", func(x api.Sheet) int { return len(x.Doors) }},
	{"routes", 256, "route r a 5 b", func(x api.Sheet) int { return len(x.Routes) }},
	{"trips", 1024, "trip t of r from 1 every 9 until 40", func(x api.Sheet) int { return len(x.Trips) }},
	{"hazards", 256, "hazard h on b from 0 every 0 closed 9", func(x api.Sheet) int { return len(x.Hazards) }},
}

func TestP5_1TooManyThings(t *testing.T) {
	for i, k := range things {
		most := "horizon 9\n" + strings.Repeat(k.line+"\n", k.most)
		x, f := sheet.Parse(most)
		if f.Err != api.OK || k.has(x) != k.most || sheet.Things(x) != k.most {
			t.Errorf("%s: %d of them: %v", k.name, k.has(x), f)
		}
		over := k.most + 2
		refuses(t, most+k.line, long(over, 1))
		refuses(t, most+"\n\n# x\n \t"+k.line+"\n", long(over+3, 3))
		refuses(t, most+k.line+"\n"+k.line+"\n", long(over, 1))
		// Another kind's is none too many.
		other := things[(i+1)%len(things)]
		if x, f := sheet.Parse(most + other.line); f.Err != api.OK || sheet.Things(x) != k.most+1 {
			t.Errorf("%s and one of %s: %v", k.name, other.name, f)
		}
		refuses(t, most+other.line+"\n"+k.line, long(over+1, 1))
		refuses(t, "horizon 9\n"+k.line+"\n"+other.line+strings.Repeat("\n"+k.line, k.most), long(over+1, 1))
	}
}

func TestP5_1ManyOfSeveralKinds(t *testing.T) {
	var s strings.Builder
	s.WriteString("horizon 9\n")
	for _, k := range things {
		if k.name != "trips" {
			s.WriteString(strings.Repeat(k.line+"\n", k.most))
		}
	}
	x, f := sheet.Parse(s.String())
	if f.Err != api.OK || sheet.Things(x) != 1024+4*256 {
		t.Fatalf("%d things, %v", sheet.Things(x), f)
	}
	for _, k := range things {
		if k.name != "trips" {
			refuses(t, s.String()+k.line, long(2+1024+4*256, 1))
		}
	}
}

func TestP5_1ATextBehindTooManyThings(t *testing.T) {
	for _, k := range things {
		most := "horizon 9\n" + strings.Repeat(k.line+"\n", k.most)
		over := k.most + 2
		// A line is looked at whole ahead of how many there are.
		refuses(t, most+k.line+" open", text(over, len(k.line)+2))
		first, _, _ := strings.Cut(k.line, " ")
		refuses(t, most+first, text(over, len(first)+1))
		// Lines behind it are not looked at.
		refuses(t, most+k.line+"\nopen", long(over, 1))
		refuses(t, most+k.line+"\nhorizon 9", long(over, 1))
		// Lines ahead of it are.
		refuses(t, most+"open\n"+k.line, text(over, 1))
	}
}

// longRoute tells a route's line of n stops.
func longRoute(n int, stay string) string {
	s := "route r s0"
	for i := 1; i < n; i++ {
		if i > 1 {
			s += stay
		}
		s += " " + strconv.Itoa(i) + " s" + strconv.Itoa(i)
	}
	return s
}

func TestP5_1RoutesOfManyStops(t *testing.T) {
	for _, stay := range []string{"", " stay 3", " stay 0"} {
		want := api.Route{Name: "r"}
		for i := range mostStops {
			want.Stops = append(want.Stops, "s"+strconv.Itoa(i))
			if i > 0 {
				want.Rides = append(want.Rides, int64(i))
			}
			if i > 1 {
				want.Stays = append(want.Stays, map[string]int64{" stay 3": 3}[stay])
			}
		}
		most := longRoute(mostStops, stay)
		tells(t, "horizon 9\n"+most, api.Sheet{Horizon: 9, Routes: []api.Route{want}})
		at := len(most) + len(stay) + len(" 32 ") + 1
		refuses(t, "horizon 9\n"+longRoute(mostStops+1, stay), long(2, at))
		refuses(t, "horizon 9\n"+longRoute(mostStops+2, stay), long(2, at))
		refuses(t, "horizon 9\n"+longRoute(10*mostStops, stay)+"\nstop", long(2, at))
		refuses(t, "horizon 9\n\n\t "+longRoute(mostStops+1, stay)+" # x", long(3, at+2))
		refuses(t, "horizon 9\n"+longRoute(mostStops-1, stay)+stay+" 31", text(2, len(longRoute(mostStops-1, stay)+stay)+4))
	}
}

func TestP5_1FaultsOfALongRoute(t *testing.T) {
	most, over := longRoute(mostStops, ""), longRoute(mostStops+1, "")
	at := len(over) - len("s32") + 1
	refuses(t, "horizon 9\n"+most+" 32 stay", text(2, at))
	refuses(t, "horizon 9\n"+most+" 32", text(2, len(most)+4))
	refuses(t, "horizon 9\n"+most+" stay 2", text(2, len(most)+8))
	// A token that may not stand there is told rather than a stop too many.
	refuses(t, "horizon 9\n"+over+" open", text(2, len(over)+2))
	refuses(t, "horizon 9\n"+over+" 7", text(2, len(over)+3))
	refuses(t, "horizon 9\n"+over+" stay 7", text(2, len(over)+8))
	refuses(t, "horizon 9\nstop a b\n"+over, text(2, 8))
	refuses(t, "horizon 9\n"+over+"\nstop a b", long(2, at))
	// A route too many is told rather than its stop too many.
	routes := "horizon 9\n" + strings.Repeat("route r a 5 b\n", 256)
	refuses(t, routes+over, long(258, 1))
	refuses(t, routes+over+" open", text(258, len(over)+2))
	refuses(t, "horizon 9\n"+over+"\n"+strings.Repeat("route r a 5 b\n", 256), long(2, at))
}

func TestP5_1TheLexersFaultIsToldFirst(t *testing.T) {
	tooLong := strings.Repeat("a", longest+1)
	for _, bad := range []struct {
		s string
		f api.Fault
	}{{"!", text(0, 1)}, {"007", text(0, 1)}, {"3x", text(0, 2)}, {tooLong, long(0, 1)}, {"1099511627777", long(0, 1)}, {"Stop", text(0, 1)}, {"-1", text(0, 1)}} {
		fault := func(line, ahead int) api.Fault {
			return api.Fault{Err: bad.f.Err, Line: line, Col: bad.f.Col + ahead}
		}
		// Alone, at a line's own fault, ahead of it, behind it.
		refuses(t, bad.s, fault(1, 0))
		refuses(t, "horizon "+bad.s, fault(1, 8))
		refuses(t, "horizon 9\nstop "+bad.s, fault(2, 5))
		refuses(t, "horizon 9\n"+bad.s+"\nstop", fault(2, 0))
		refuses(t, "stop a\n"+bad.s, fault(2, 0))
		refuses(t, "horizon 9\nstop\nstop a\n stop a b "+bad.s+"\nhorizon", fault(4, 10))
		refuses(t, "horizon 9\n"+strings.Repeat("stop a\n", 257)+bad.s, fault(259, 0))
		refuses(t, "horizon 9\n"+longRoute(mostStops+1, "")+"\n"+bad.s, fault(3, 0))
	}
	refuses(t, whole+"stop a\r\n", text(9, 7))
}

func TestP5_1LongTexts(t *testing.T) {
	most := whole + strings.Repeat("#", textBytes-len(whole))
	tells(t, most, wholeSheet())
	refuses(t, most+"#", long(1, 1))
	refuses(t, most+"\n", long(1, 1))
	refuses(t, strings.Repeat("stop\n", textBytes), long(1, 1))
	refuses(t, strings.Repeat(" ", textBytes)+"\n", long(1, 1))
	ends := "horizon 9\nstop" + strings.Repeat(" ", textBytes-14)
	refuses(t, ends, text(2, textBytes-9))
}

func TestP5_1TheFirstOfSeveralFaultsIsTold(t *testing.T) {
	refuses(t, "horizon\nstop", text(1, 8))
	refuses(t, "horizon 9\nstop\nstop 7", text(2, 5))
	refuses(t, "horizon 9\nstop 7\nstop", text(2, 6))
	refuses(t, "horizon 9\npath p 7 8 a", text(2, 8))
	refuses(t, "horizon 9\ndoor d a b 3 from a every b open c", text(2, 19))
	refuses(t, "horizon 9\nstop a\nhorizon 9\na", text(3, 1))
	refuses(t, "horizon 9\nroute r a 5 b 3\nroute", text(2, 16))
	stops, paths := strings.Repeat("stop a\n", 256), strings.Repeat("path p a b 3\n", 1024)
	refuses(t, "horizon 9\n"+stops+paths+"path p a b 3\nstop a\n", long(1282, 1))
	refuses(t, "horizon 9\n"+stops+paths+"stop a\npath p a b 3\n", long(1282, 1))
	refuses(t, "horizon 9\n"+stops+"stop a\n"+longRoute(mostStops+1, ""), long(258, 1))
	refuses(t, "horizon 9\n"+stops+longRoute(mostStops+1, "")+"\nstop a\n", long(258, len(longRoute(mostStops+1, ""))-2))
}

// checks checks what Check tells of a sheet that has been changed, and that it leaves it as it is.
func checks(t *testing.T, name string, change func(x *api.Sheet), want api.Errno) {
	t.Helper()
	x := wholeSheet()
	change(&x)
	kept := deep(x)
	if got := sheet.Check(x); got != want {
		t.Errorf("%s: Check is %d; it should be %d", name, got, want)
	}
	if !reflect.DeepEqual(x, kept) {
		t.Errorf("%s: Check changed it", name)
	}
}

// namesIn are all places of names in a whole sheet.
func namesIn(x *api.Sheet) map[string]*string {
	return map[string]*string{
		"first stop": &x.Stops[0], "last stop": &x.Stops[1],
		"path": &x.Paths[0].Name, "path's A": &x.Paths[0].A, "path's B": &x.Paths[0].B,
		"door": &x.Doors[0].Name, "door's A": &x.Doors[0].A, "door's B": &x.Doors[0].B,
		"route": &x.Routes[0].Name, "route's first stop": &x.Routes[0].Stops[0], "route's second stop": &x.Routes[0].Stops[1], "route's last stop": &x.Routes[0].Stops[3],
		"trip": &x.Trips[0].Name, "trip's route": &x.Trips[0].Route,
		"hazard": &x.Hazards[0].Name, "hazard's on": &x.Hazards[0].On,
	}
}

// numbersIn are all places of numbers in a whole sheet.
func numbersIn(x *api.Sheet) map[string]*int64 {
	d, r, p, h := &x.Doors[0], &x.Routes[0], &x.Trips[0], &x.Hazards[0]
	return map[string]*int64{
		"horizon": &x.Horizon, "path": &x.Paths[0].Len,
		"door": &d.Len, "door's from": &d.Times.From, "door's every": &d.Times.Every, "door's open": &d.Times.Len,
		"first ride": &r.Rides[0], "second ride": &r.Rides[1], "last ride": &r.Rides[2], "first stay": &r.Stays[0], "last stay": &r.Stays[1],
		"trip's from": &p.From, "trip's every": &p.Every, "trip's until": &p.Until,
		"hazard's from": &h.Times.From, "hazard's every": &h.Times.Every, "hazard's closed": &h.Times.Len,
	}
}

func TestP5_1CheckOfSheetsThatMayBe(t *testing.T) {
	checks(t, "whole", func(x *api.Sheet) {}, api.OK)
	checks(t, "nothing", func(x *api.Sheet) { *x = api.Sheet{} }, api.OK)
	checks(t, "empty lists", func(x *api.Sheet) {
		*x = api.Sheet{Stops: []string{}, Paths: []api.Path{}, Doors: []api.Door{}, Routes: []api.Route{}, Trips: []api.Trip{}, Hazards: []api.Hazard{}}
	}, api.OK)
	checks(t, "one of the other kinds' things", func(x *api.Sheet) { x.Stops, x.Routes = nil, nil }, api.OK)
}

func TestP5_1CheckOfNames(t *testing.T) {
	wrongs := append([]string{"", "A", "7", "7a", "-a", "_", "a b", "a ", " a", "a\n", "a#", "é", "aB", "\x00", strings.Repeat("a", longest+1)}, reserved...)
	for name := range namesIn(new(wholeSheet())) {
		for _, w := range wrongs {
			checks(t, name+" "+w, func(x *api.Sheet) { *namesIn(x)[name] = w }, api.ErrText)
		}
		for _, w := range someNames {
			checks(t, name+" "+w, func(x *api.Sheet) { *namesIn(x)[name] = w }, api.OK)
		}
	}
}

func TestP5_1CheckOfNumbers(t *testing.T) {
	for name := range numbersIn(new(wholeSheet())) {
		for _, n := range []int64{-1, -2, math.MinInt64, top + 1, 2 * top, never, never + 1, math.MaxInt64} {
			checks(t, name+" "+strconv.FormatInt(n, 10), func(x *api.Sheet) { *numbersIn(x)[name] = n }, api.ErrRange)
		}
		for _, n := range []int64{0, 1, top - 1, top} {
			checks(t, name+" "+strconv.FormatInt(n, 10), func(x *api.Sheet) { *numbersIn(x)[name] = n }, api.OK)
		}
	}
}

// routeCounts makes a route of so many stops, rides and stays.
func routeCounts(stops, rides, stays int) api.Route {
	return api.Route{Name: "r", Stops: slices.Repeat([]string{"a"}, stops), Rides: make([]int64, rides), Stays: make([]int64, stays)}
}

func TestP5_1CheckOfRoutesCounts(t *testing.T) {
	for stops := range 40 {
		for rides := max(0, stops-3); rides < stops+2; rides++ {
			for stays := max(0, stops-4); stays < stops+2; stays++ {
				want := api.ErrArg
				if stops >= 2 && stops <= mostStops && rides == stops-1 && stays == stops-2 {
					want = api.OK
				}
				name := strconv.Itoa(stops) + " stops, " + strconv.Itoa(rides) + " rides, " + strconv.Itoa(stays) + " stays"
				r := routeCounts(stops, rides, stays)
				checks(t, name, func(x *api.Sheet) { x.Routes = []api.Route{r} }, want)
				checks(t, name+" first", func(x *api.Sheet) { x.Routes = append([]api.Route{r}, x.Routes...) }, want)
				checks(t, name+" last", func(x *api.Sheet) { x.Routes = append(x.Routes, r) }, want)
			}
		}
	}
	checks(t, "a route of nothing", func(x *api.Sheet) { x.Routes[0] = api.Route{Name: "r"} }, api.ErrArg)
	checks(t, "a route of many stops", func(x *api.Sheet) { x.Routes[0] = routeCounts(1<<16, 1<<16-1, 1<<16-2) }, api.ErrArg)
}

// grow makes so many things of a kind, by the kind's place among things.
func grow(x *api.Sheet, kind, n int) {
	switch kind {
	case 0:
		x.Stops = slices.Repeat(x.Stops[:1], n)
	case 1:
		x.Paths = slices.Repeat(x.Paths[:1], n)
	case 2:
		x.Doors = slices.Repeat(x.Doors[:1], n)
	case 3:
		x.Routes = slices.Repeat(x.Routes[:1], n)
	case 4:
		x.Trips = slices.Repeat(x.Trips[:1], n)
	case 5:
		x.Hazards = slices.Repeat(x.Hazards[:1], n)
	}
}

func TestP5_1CheckOfHowManyThings(t *testing.T) {
	for i, k := range things {
		checks(t, k.name+": none", func(x *api.Sheet) { grow(x, i, 0) }, api.OK)
		checks(t, k.name+": most", func(x *api.Sheet) { grow(x, i, k.most) }, api.OK)
		checks(t, k.name+": one more", func(x *api.Sheet) { grow(x, i, k.most+1) }, api.ErrLong)
		checks(t, k.name+": many more", func(x *api.Sheet) { grow(x, i, 100*k.most) }, api.ErrLong)
	}
	checks(t, "most of all kinds", func(x *api.Sheet) {
		for i, k := range things {
			grow(x, i, k.most)
		}
	}, api.OK)
}

func TestP5_1CheckLooksAtEachThing(t *testing.T) {
	for i, k := range things {
		for _, at := range []int{0, k.most / 2, k.most - 1} {
			checks(t, k.name+": a name at "+strconv.Itoa(at), func(x *api.Sheet) {
				grow(x, i, k.most)
				*[]*string{&x.Stops[at%len(x.Stops)], &x.Paths[at%len(x.Paths)].B, &x.Doors[at%len(x.Doors)].A, &x.Routes[at%len(x.Routes)].Name, &x.Trips[at%len(x.Trips)].Route, &x.Hazards[at%len(x.Hazards)].On}[i] = "open"
			}, api.ErrText)
			if i == 0 {
				continue
			}
			checks(t, k.name+": a number at "+strconv.Itoa(at), func(x *api.Sheet) {
				grow(x, i, k.most)
				*[]*int64{nil, &x.Paths[at%len(x.Paths)].Len, &x.Doors[at%len(x.Doors)].Times.Len, &x.Routes[at%len(x.Routes)].Rides[2], &x.Trips[at%len(x.Trips)].Until, &x.Hazards[at%len(x.Hazards)].Times.Every}[i] = -1
			}, api.ErrRange)
		}
	}
}

func TestP5_1CheckTellsTheFirstThatApplies(t *testing.T) {
	tooMany := func(x *api.Sheet) { x.Hazards = slices.Repeat(x.Hazards, 257) }
	noName := func(x *api.Sheet) { x.Hazards[len(x.Hazards)-1].On = "7" }
	noTick := func(x *api.Sheet) { x.Trips[0].Until = top + 1 }
	noRoute := func(x *api.Sheet) { x.Routes[0].Stays = nil }
	order := []struct {
		change func(x *api.Sheet)
		err    api.Errno
	}{{tooMany, api.ErrLong}, {noName, api.ErrText}, {noTick, api.ErrRange}, {noRoute, api.ErrArg}}
	for set := range 1 << len(order) {
		want := api.OK
		for i := len(order) - 1; i >= 0; i-- {
			if set>>i&1 == 1 {
				want = order[i].err
			}
		}
		checks(t, "set "+strconv.Itoa(set), func(x *api.Sheet) {
			for i, o := range order {
				if set>>i&1 == 1 {
					o.change(x)
				}
			}
		}, want)
	}
	// Too many stops of a route are not too many things; what they are is looked at first.
	checks(t, "a name among too many stops", func(x *api.Sheet) {
		x.Routes[0] = routeCounts(33, 32, 31)
		x.Routes[0].Stops[32] = "stay"
	}, api.ErrText)
	checks(t, "a number among too many rides", func(x *api.Sheet) {
		x.Routes[0] = routeCounts(2, 40, 0)
		x.Routes[0].Rides[39] = -1
	}, api.ErrRange)
	checks(t, "a number among too many stays", func(x *api.Sheet) {
		x.Routes[0] = routeCounts(2, 1, 40)
		x.Routes[0].Stays[39] = top + 1
	}, api.ErrRange)
}

func TestP5_2Things(t *testing.T) {
	if n := sheet.Things(api.Sheet{}); n != 0 {
		t.Errorf("nothing has %d things", n)
	}
	if n := sheet.Things(api.Sheet{Horizon: 9}); n != 0 {
		t.Errorf("a horizon is %d things", n)
	}
	if n := sheet.Things(wholeSheet()); n != 7 {
		t.Errorf("a whole sheet has %d things", n)
	}
	for i, k := range things {
		x := wholeSheet()
		had := k.has(x)
		for _, n := range []int{0, 1, 5, k.most, 1000 * k.most} {
			grow(&x, i, 1)
			grow(&x, i, n)
			if got := sheet.Things(x); got != 7-had+n {
				t.Errorf("with %d of %s it has %d things", n, k.name, got)
			}
			if n == 0 {
				x = wholeSheet()
			}
		}
	}
	// Whatever they are, and stops of routes are no things.
	if n := sheet.Things(api.Sheet{Stops: []string{"", ""}, Routes: []api.Route{{Stops: []string{"a", "b", "c"}}}, Trips: make([]api.Trip, 3)}); n != 6 {
		t.Errorf("it has %d things", n)
	}
}

// differs are changes of a whole sheet after which it is another one.
func differs() map[string]func(x *api.Sheet) {
	all := map[string]func(x *api.Sheet){
		"stops turned about":   func(x *api.Sheet) { slices.Reverse(x.Stops) },
		"no stop":              func(x *api.Sheet) { x.Stops = nil },
		"a stop less":          func(x *api.Sheet) { x.Stops = x.Stops[:1] },
		"a stop more":          func(x *api.Sheet) { x.Stops = append(x.Stops, "c") },
		"no path":              func(x *api.Sheet) { x.Paths = nil },
		"a path more":          func(x *api.Sheet) { x.Paths = append(x.Paths, x.Paths[0]) },
		"no door":              func(x *api.Sheet) { x.Doors = nil },
		"a door more":          func(x *api.Sheet) { x.Doors = append(x.Doors, x.Doors[0]) },
		"no route":             func(x *api.Sheet) { x.Routes = nil },
		"a route more":         func(x *api.Sheet) { x.Routes = append(x.Routes, x.Routes[0]) },
		"no trip":              func(x *api.Sheet) { x.Trips = nil },
		"a trip more":          func(x *api.Sheet) { x.Trips = append(x.Trips, x.Trips[0]) },
		"no hazard":            func(x *api.Sheet) { x.Hazards = nil },
		"a hazard more":        func(x *api.Sheet) { x.Hazards = append(x.Hazards, x.Hazards[0]) },
		"a route's stop less":  func(x *api.Sheet) { x.Routes[0].Stops = x.Routes[0].Stops[:3] },
		"a route's stop more":  func(x *api.Sheet) { x.Routes[0].Stops = append(x.Routes[0].Stops, "a") },
		"a ride less":          func(x *api.Sheet) { x.Routes[0].Rides = x.Routes[0].Rides[:2] },
		"a ride more":          func(x *api.Sheet) { x.Routes[0].Rides = append(x.Routes[0].Rides, 0) },
		"rides turned about":   func(x *api.Sheet) { slices.Reverse(x.Routes[0].Rides) },
		"a stay less":          func(x *api.Sheet) { x.Routes[0].Stays = x.Routes[0].Stays[:1] },
		"a stay more":          func(x *api.Sheet) { x.Routes[0].Stays = append(x.Routes[0].Stays, 0) },
		"stays turned about":   func(x *api.Sheet) { slices.Reverse(x.Routes[0].Stays) },
		"no stays":             func(x *api.Sheet) { x.Routes[0].Stays = nil },
		"a path's ends turned": func(x *api.Sheet) { p := &x.Paths[0]; p.A, p.B = p.B, p.A },
	}
	for name := range namesIn(new(wholeSheet())) {
		all["name of "+name] = func(x *api.Sheet) { *namesIn(x)[name] += "x" }
	}
	for name := range numbersIn(new(wholeSheet())) {
		all["number of "+name] = func(x *api.Sheet) { *numbersIn(x)[name] += 1 << 40 }
	}
	return all
}

func TestP5_2SameOfSheetsThatDiffer(t *testing.T) {
	for name, change := range differs() {
		a, b := wholeSheet(), wholeSheet()
		change(&b)
		kept := deep(b)
		if sheet.Same(a, b) || sheet.Same(b, a) {
			t.Errorf("%s: it is the same", name)
		}
		if !sheet.Same(b, deep(b)) {
			t.Errorf("%s: it is not the same as itself", name)
		}
		if !reflect.DeepEqual(a, wholeSheet()) || !reflect.DeepEqual(b, kept) {
			t.Errorf("%s: Same changed it", name)
		}
	}
}

func TestP5_2SameOfEachPair(t *testing.T) {
	all := []api.Sheet{{}, {Horizon: 9}, wholeSheet()}
	for _, change := range differs() {
		x := wholeSheet()
		change(&x)
		all = append(all, x)
	}
	for i, a := range all {
		for j, b := range all {
			if got := sheet.Same(a, b); got != (i == j) {
				t.Errorf("Same of %v and %v is %v", a, b, got)
			}
		}
	}
}

func TestP5_2NilAndEmptyAreOne(t *testing.T) {
	none := api.Sheet{Stops: []string{}, Paths: []api.Path{}, Doors: []api.Door{}, Routes: []api.Route{}, Trips: []api.Trip{}, Hazards: []api.Hazard{}}
	if !sheet.Same(none, api.Sheet{}) || !sheet.Same(api.Sheet{}, none) {
		t.Error("none is not the same as nil")
	}
	a := api.Sheet{Routes: []api.Route{{Stops: []string{}, Rides: []int64{}, Stays: []int64{}}}}
	b := api.Sheet{Routes: []api.Route{{}}}
	if !sheet.Same(a, b) || !sheet.Same(b, a) {
		t.Error("a route of nothing is not the same")
	}
	if sheet.Check(a) != sheet.Check(b) || sheet.Things(a) != sheet.Things(b) || sheet.Check(none) != api.OK || sheet.Things(none) != 0 {
		t.Error("nil and empty")
	}
}

func TestP5_3WhatIsParsedMayBe(t *testing.T) {
	all := forms(fiveStops)
	seed := uint64(53)
	for i := range 3000 {
		lines := [][]string{words(&seed, "horizon N")}
		for range i % 40 {
			lines = append(lines, words(&seed, pick(&seed, all[1:])))
		}
		s, _ := lay(&seed, lines)
		x, f := sheet.Parse(s)
		if f.Err != api.OK || sheet.Check(x) != api.OK || sheet.Things(x) != len(lines)-1 {
			t.Fatalf("of %s: %v, Check %d, %d things", short(s), f, sheet.Check(x), sheet.Things(x))
		}
	}
	for _, k := range things {
		s := "horizon 1099511627776\n" + strings.Repeat(k.line+"\n", k.most)
		if k.name != "routes" {
			s += longRoute(mostStops, "")
		}
		x, f := sheet.Parse(s)
		if f.Err != api.OK || sheet.Check(x) != api.OK {
			t.Errorf("%s: %v, %d", k.name, f, sheet.Check(x))
		}
	}
}

func TestP5_3LinesOfUnlikeKindsInAnotherOrder(t *testing.T) {
	all := forms(fiveStops)
	seed := uint64(54)
	for i := range 2000 {
		byKind := map[string][][]string{}
		var lines [][]string
		for range i % 25 {
			form := pick(&seed, all[1:])
			if draw(&seed)%2 == 0 {
				form = all[1+draw(&seed)%5]
			}
			l := words(&seed, form)
			lines = append(lines, l)
			byKind[l[0]] = append(byKind[l[0]], l)
		}
		first := words(&seed, "horizon N")
		s, _ := lay(&seed, append([][]string{first}, lines...))
		want, f := sheet.Parse(s)
		if f.Err != api.OK {
			t.Fatalf("of %s: %v", short(s), f)
		}
		// The kinds' lines are dealt again, each kind's own in their order.
		other := [][]string{first}
		for range lines {
			kind := pick(&seed, lines)[0]
			for len(byKind[kind]) == 0 {
				kind = pick(&seed, lines)[0]
			}
			other = append(other, byKind[kind][0])
			byKind[kind] = byKind[kind][1:]
		}
		again, _ := lay(&seed, other)
		x, f := sheet.Parse(again)
		if f.Err != api.OK || !sheet.Same(x, want) || !sameSheet(x, want) {
			t.Fatalf("%s is read as %v, %v; it should be as %s", short(again), x, f, short(s))
		}
	}
	// Lines of one kind in another order tell another sheet.
	a, _ := sheet.Parse("horizon 9\nstop a\nstop b")
	b, _ := sheet.Parse("horizon 9\nstop b\nstop a")
	if sheet.Same(a, b) {
		t.Error("stops turned about are the same")
	}
}

// scribble writes over all of a list, its spare room too.
func scribble[T any](l []T, x T) {
	l = l[:cap(l)]
	for i := range l {
		l[i] = x
	}
}

// scribblers write over one list of a sheet each.
func scribblers(x *api.Sheet) []func() {
	all := []func(){
		func() { scribble(x.Stops, "x") },
		func() { scribble(x.Paths, api.Path{Name: "x"}) },
		func() { scribble(x.Doors, api.Door{Name: "x"}) },
		func() { scribble(x.Trips, api.Trip{Name: "x"}) },
		func() { scribble(x.Hazards, api.Hazard{Name: "x"}) },
	}
	for _, r := range x.Routes {
		all = append(all, func() { scribble(r.Stops, "x") }, func() { scribble(r.Rides, -7) }, func() { scribble(r.Stays, -7) })
	}
	return append(all, func() { scribble(x.Routes, api.Route{Name: "x"}) })
}

func TestParseAnswersNewMemory(t *testing.T) {
	s := whole + "stop c\nstop d\nroute q a 1 b\nroute p a 1 b stay 7 2 c\npath o a b 9\ndoor m a b 1 from 2 every 3 open 4\ntrip u of q from 1 every 2 until 3\nhazard n on a from 1 every 2 closed 3\n"
	want, f := sheet.Parse(s)
	if f.Err != api.OK {
		t.Fatal(f)
	}
	n := len(scribblers(&want))
	for i := range n {
		x, _ := sheet.Parse(s)
		// What no list but the one that is written over may show: the others, written over one by one, are all the same still.
		lists := func(x api.Sheet) []any {
			all := []any{x.Stops, x.Paths, x.Doors, x.Trips, x.Hazards}
			for _, r := range x.Routes {
				all = append(all, r.Stops, r.Rides, r.Stays)
			}
			return all
		}
		held := lists(x)
		kept := lists(deep(x))
		scribblers(&x)[i]()
		for j := range held {
			if j != i && !reflect.DeepEqual(held[j], kept[j]) {
				t.Errorf("list %d was written over with list %d: %v", j, i, held[j])
			}
		}
	}
	for _, write := range scribblers(&want) {
		write()
	}
	again, f := sheet.Parse(s)
	if f.Err != api.OK || sheet.Check(again) != api.OK || sheet.Things(again) != 15 {
		t.Errorf("it is read otherwise now: %v, %v", again, f)
	}
}

func TestSpareRoomIsLeftAlone(t *testing.T) {
	x := wholeSheet()
	room := append(make([]string, 0, 9), "a", "b")
	spare := room[:cap(room)]
	for i := 2; i < len(spare); i++ {
		spare[i] = "open"
	}
	rides := append(make([]int64, 0, 9), 5, 3, 6)
	behind := rides[:cap(rides)]
	for i := 3; i < len(behind); i++ {
		behind[i] = -7
	}
	x.Stops, x.Routes[0].Rides = room, rides
	keptSpare, keptBehind := slices.Clone(spare), slices.Clone(behind)
	if sheet.Check(x) != api.OK || sheet.Things(x) != 7 || !sheet.Same(x, wholeSheet()) || !sheet.Same(wholeSheet(), x) {
		t.Errorf("%v: %d, %d", x, sheet.Check(x), sheet.Things(x))
	}
	if !slices.Equal(spare, keptSpare) || !slices.Equal(behind, keptBehind) {
		t.Errorf("it became %v, %v", spare, behind)
	}
}

func TestWhatNoTextTellsEndsToo(t *testing.T) {
	odd := []api.Sheet{
		{Horizon: math.MinInt64},
		{Routes: []api.Route{{}, {Stays: []int64{math.MaxInt64}}}},
		{Stops: []string{"\xff", strings.Repeat("a", 1<<20)}},
		{Paths: make([]api.Path, 5), Doors: make([]api.Door, 300)},
		{Hazards: make([]api.Hazard, 1<<16), Trips: []api.Trip{{From: -1}}},
	}
	for i, want := range []api.Errno{api.ErrRange, api.ErrText, api.ErrText, api.ErrLong, api.ErrLong} {
		if got := sheet.Check(odd[i]); got != want {
			t.Errorf("Check of %d is %d; it should be %d", i, got, want)
		}
		for j := range odd {
			if sheet.Same(odd[i], odd[j]) != (i == j) {
				t.Errorf("Same of %d and %d", i, j)
			}
		}
	}
}

// FuzzParse: of any bytes there is a sheet that may be, or a fault that is in the text, never both.
func FuzzParse(f *testing.F) {
	for _, s := range []string{"", whole, "horizon 9\nstop", "horizon 9 # x\nroute r a 5 b stay 2", "stop a", "horizon 007", longRoute(40, " stay 1")} {
		f.Add(s)
	}
	f.Fuzz(func(t *testing.T, s string) {
		x, fault := sheet.Parse(s)
		if fault.Err == api.OK {
			if fault != (api.Fault{}) || sheet.Check(x) != api.OK {
				t.Errorf("%q is read as %v, %v", s, x, fault)
			}
			return
		}
		if !sameSheet(x, api.Sheet{}) || fault.Err != api.ErrText && fault.Err != api.ErrLong {
			t.Errorf("%q is read as %v, %v", s, x, fault)
		}
		lines := strings.Split(s, "\n")
		if fault.Line < 1 || fault.Line > len(lines) || fault.Col < 1 || fault.Col > len(lines[fault.Line-1])+1 {
			t.Errorf("%q has its fault at %v", s, fault)
		}
		if toks, own := lex.All(s); own.Err != api.OK && own != fault || own.Err == api.OK && len(toks) > 0 && !slices.ContainsFunc(toks, func(x api.Tok) bool { return x.Line == fault.Line && x.Col == fault.Col }) {
			t.Errorf("%q has its fault at %v, where no token is", s, fault)
		}
	})
}

func TestExamples(t *testing.T) {
	tells(t, "horizon 9\nstop a", api.Sheet{Horizon: 9, Stops: []string{"a"}})
	tells(t, "horizon 9\nroute r a 5 b stay 2 3 c", api.Sheet{Horizon: 9, Routes: []api.Route{{Name: "r", Stops: []string{"a", "b", "c"}, Rides: []int64{5, 3}, Stays: []int64{2}}}})
	refuses(t, "stop a", text(1, 1))
	// The last one of the document's ten.
	refuses(t, "horizon 9\nstop", text(2, 5))
}
