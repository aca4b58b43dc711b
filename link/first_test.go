package link_test

import (
	"math"
	"slices"
	"testing"

	"timetable/api"
	"timetable/link"
)

// first checks what First tells, and that May tells the same.
func first(t *testing.T, title string, n api.Net, at int, x, want int64) {
	t.Helper()
	wantTo := inf
	if want != inf {
		wantTo = want + n.Links[at].Len
		if !link.May(n, at, want) {
			t.Errorf("%s: May of %d is false", title, want)
		}
	}
	if from, to := link.First(n, at, x); from != want || to != wantTo {
		t.Errorf("%s: First of %d is %d, %d; it should be %d, %d", title, x, from, to, want, wantTo)
	}
	if may := link.May(n, at, x); may != (x == want && want != inf) {
		t.Errorf("%s: May of %d is %v", title, x, may)
	}
}

func TestExamples(t *testing.T) {
	n := net(40, rows(nil, nil), door(0, 1, 3, row(5, 7, 15, 17)))
	first(t, "a door", n, 0, 6, 6)
	first(t, "a door", n, 0, 7, 15)
	n.Closed[0] = row(4, 16)
	first(t, "its A closed", n, 0, 1, 16)
}

func TestP11_2UpToTheHorizon(t *testing.T) {
	for _, c := range []struct {
		horizon, length, latest int64
	}{
		{30, 4, 26}, {30, 1, 29}, {30, 30, 0}, {30, 31, -1}, {30, 29, 1}, {1, 1, 0}, {0, 1, -1}, {30, top, -1},
		{top, 1, top - 1}, {top, top, 0}, {top, top - 1, 1}, {top - 1, top, -1}, {0, top, -1}, {top - 1, 4, top - 5},
	} {
		for _, l := range []api.Link{path(0, 1, c.length, nil), path(0, 1, c.length, row(top, 2*top)), door(0, 1, c.length, row(0, 2*top))} {
			n := net(c.horizon, rows(nil, nil), l)
			for _, x := range []int64{0, 1, 2, c.latest - 1, c.latest, c.latest + 1, c.latest + 2, c.horizon, c.horizon + 1, top - 1, top} {
				want := inf
				if x >= 0 && x <= c.latest {
					want = x
				}
				first(t, "up to the horizon", n, 0, x, want)
			}
		}
	}
}

func TestP11_2ALinkThatEndsAtTheHorizon(t *testing.T) {
	for _, l := range []api.Link{path(0, 1, 4, row(3, 9)), door(0, 1, 4, row(9, 99))} {
		first(t, "one tick ahead of it", net(14, rows(nil, nil), l), 0, 6, 9)
		first(t, "just at it", net(13, rows(nil, nil), l), 0, 6, 9)
		first(t, "one tick behind it", net(12, rows(nil, nil), l), 0, 6, inf)
		first(t, "at the last tick", net(13, rows(nil, nil), l), 0, 9, 9)
		first(t, "behind the last tick", net(13, rows(nil, nil), l), 0, 10, inf)
	}
	n := net(20, rows(row(10, 16), nil), path(0, 1, 4, nil))
	first(t, "free at the last tick", n, 0, 11, 16)
	n.Closed[0] = row(10, 17)
	first(t, "free behind the last tick", n, 0, 11, inf)
	first(t, "ahead of that", n, 0, 9, 9)
}

func TestP11_2OutOfRange(t *testing.T) {
	n := wholeNet()
	far := net(top, rows(nil, nil), path(0, 1, 1, nil), door(0, 1, 1, row(0, 2*top)))
	for _, n := range []api.Net{n, far} {
		for at := range n.Links {
			for _, x := range []int64{math.MinInt64, -inf, -2 * top, -top, -7, -2, -1, top + 1, 2 * top, inf - 1, inf, inf + 1, math.MaxInt64} {
				if from, to := link.First(n, at, x); from != inf || to != inf || link.May(n, at, x) {
					t.Errorf("First of %d, %d is %d, %d, May is %v", at, x, from, to, link.May(n, at, x))
				}
			}
		}
		for _, at := range []int{math.MinInt, -len(n.Links), -2, -1, len(n.Links), len(n.Links) + 1, 2304, math.MaxInt} {
			for _, x := range edges {
				if from, to := link.First(n, at, x); from != inf || to != inf || link.May(n, at, x) {
					t.Errorf("First of %d, %d is %d, %d, May is %v", at, x, from, to, link.May(n, at, x))
				}
			}
		}
	}
	first(t, "at 0", far, 0, 0, 0)
	first(t, "at MaxTick", far, 0, top, inf)
	for _, n := range []api.Net{{}, net(top, rows(nil, nil))} {
		agrees(t, "no links", n, edges...)
	}
}

func TestP11_2ItsAClosed(t *testing.T) {
	for title, l := range map[string]api.Link{"a path": path(0, 1, 5, nil), "a door": door(0, 1, 5, row(0, 90))} {
		n := net(60, rows(row(10, 12), nil), l)
		for x, want := range map[int64]int64{0: 0, 9: 9, 10: 12, 11: 12, 12: 12, 13: 13} {
			first(t, title+", its A closed", n, 0, x, want)
		}
		n.Closed[0] = row(10, 12, 13, 14, 15, 20)
		for x, want := range map[int64]int64{9: 9, 10: 12, 12: 12, 13: 14, 14: 14, 15: 20, 19: 20, 20: 20} {
			first(t, title+", its A closed again and again", n, 0, x, want)
		}
		n.Closed[0] = row(0, 60)
		first(t, title+", its A always closed", n, 0, 0, inf)
		n.Closed[0] = row(0, 2*top)
		first(t, title+", its A always closed", n, 0, 60, inf)
		n.Closed[0] = row(0, 55)
		first(t, title+", its A closed up to the last tick", n, 0, 3, 55)
	}
}

func TestP11_2ItsBClosed(t *testing.T) {
	for title, l := range map[string]api.Link{"a path": path(0, 1, 5, nil), "a door": door(0, 1, 5, row(0, 90))} {
		n := net(60, rows(nil, row(0, 60), row(0, 60)), l)
		for x := range int64(56) {
			first(t, title+", its B closed", n, 0, x, x)
		}
		n.Closed[1] = row(0, 2*top)
		first(t, title+", its B closed", n, 0, 55, 55)
		first(t, title+", its B closed", n, 0, 56, inf)
	}
}

func TestP11_2ADoorsWindows(t *testing.T) {
	n := net(60, rows(nil, nil), door(0, 1, 20, row(5, 7, 15, 17, 18, 19, 30, 45)))
	for x, want := range map[int64]int64{
		0: 5, 4: 5, 5: 5, 6: 6, 7: 15, 8: 15, 14: 15, 15: 15, 16: 16, 17: 18, 18: 18, 19: 30,
		29: 30, 30: 30, 31: 31, 39: 39, 40: 40, 41: inf, 44: inf, 45: inf, 60: inf, top: inf,
	} {
		first(t, "a door", n, 0, x, want)
	}
	for _, x := range []int64{0, 1, 30, 60, top} {
		first(t, "a door that is never open", net(60, rows(nil, nil), door(0, 1, 1, nil)), 0, x, inf)
	}
	far := net(top, rows(nil, nil), door(0, 1, 1, row(top-3, top-2, top-1, top, top+1, 2*top)))
	for x, want := range map[int64]int64{0: top - 3, top - 3: top - 3, top - 2: top - 1, top - 1: top - 1, top: inf} {
		first(t, "a door far out", far, 0, x, want)
	}
}

func TestP11_2AClosedPath(t *testing.T) {
	n := net(60, rows(nil, nil), path(0, 1, 4, row(10, 12)))
	for x, want := range map[int64]int64{
		0: 0, 5: 5, 6: 6, // closed only behind the ticks that it takes
		7: 12,        // closed at the last one of them
		8: 12, 9: 12, // closed in their midst
		10: 12, 11: 12, // closed at the first one
		12: 12, 13: 13, 56: 56, 57: inf,
	} {
		first(t, "a path", n, 0, x, want)
	}
	n.Links[0].Closed = row(10, 11)
	for x, want := range map[int64]int64{6: 6, 7: 11, 10: 11, 11: 11} {
		first(t, "a path closed for a tick", n, 0, x, want)
	}
	n.Links[0].Len = 1
	for x, want := range map[int64]int64{8: 8, 9: 9, 10: 11, 11: 11} {
		first(t, "a path of a tick", n, 0, x, want)
	}
	n.Links[0].Closed = row(0, 60)
	first(t, "a path that is never open", n, 0, 0, inf)
	n.Links[0].Closed = row(0, 2*top)
	first(t, "a path that is never open", n, 0, 3, inf)
	far := net(top, rows(nil, nil), path(0, 1, 3, row(0, top-3)))
	first(t, "a path open at the end", far, 0, 0, top-3)
	far.Links[0].Closed = row(0, top-2)
	first(t, "a path open too late", far, 0, 0, inf)
	far.Links[0].Closed = row(0, 1, top, 2*top)
	first(t, "a path closed behind all", far, 0, 0, 1)
	first(t, "a path closed behind all", far, 0, top-3, top-3)
}

func TestP11_2GapsBetweenWindows(t *testing.T) {
	for _, c := range []struct{ length, want int64 }{{1, 12}, {4, 12}, {5, 12}, {6, 30}, {7, 30}, {20, 30}, {30, 30}, {31, inf}} {
		n := net(60, rows(nil, nil), path(0, 1, c.length, row(3, 5, 6, 12, 17, 20, 23, 30)))
		for _, x := range []int64{6, 7, 11, 12} {
			first(t, "a gap of 5", n, 0, x, c.want)
		}
	}
	n := net(60, rows(nil, nil), path(0, 1, 5, row(3, 5, 9, 12, 16, 20, 25, 30, 35, 40)))
	first(t, "gaps of one too few, and of just so many", n, 0, 4, 20)
	first(t, "behind the last such tick", n, 0, 21, 30)
	first(t, "behind the last such tick", n, 0, 31, 40)
	first(t, "at the last such tick", n, 0, 30, 30)
	first(t, "ahead of the first window", n, 0, 0, 5+15)
	n.Links[0].Len = 3
	first(t, "ahead of the first window", n, 0, 0, 0)
	n.Links[0].Len = 4
	first(t, "ahead of the first window", n, 0, 0, 5)
}

func TestP11_2WindowsThatHandOn(t *testing.T) {
	stop := row(0, 10, 12, 20, 22, 30, 31, 40)
	n := net(90, rows(stop, nil), path(0, 1, 2, row(11, 13, 21, 23, 31, 33, 41, 42)))
	first(t, "a stop and a path in turns", n, 0, 0, 42)
	first(t, "a stop and a path in turns", n, 0, 19, 42)
	n.Links[0].Len = 1
	first(t, "a path of a tick", n, 0, 0, 10)
	first(t, "a path of a tick", n, 0, 11, 20)
	first(t, "a path of a tick", n, 0, 21, 30)
	first(t, "a path of a tick", n, 0, 24, 30)
	first(t, "a path of a tick", n, 0, 31, 40)
	n = net(90, rows(stop, nil), door(0, 1, 2, row(1, 9, 13, 19, 25, 28, 29, 30, 35, 41)))
	first(t, "a stop and a door in turns", n, 0, 0, 40)
	n.Links[0].Open = row(1, 9, 13, 19, 25, 28, 29, 30, 35, 40, 88, 89)
	first(t, "a stop and a door in turns", n, 0, 0, 88)
	n.Links[0].Open = row(1, 9, 13, 19, 25, 28, 29, 30, 35, 40)
	first(t, "a stop and a door that never meet", n, 0, 0, inf)
	n.Links[0].Open = row(1, 9, 13, 19, 25, 28, 29, 30, 35, 40, 89, 90)
	first(t, "a stop and a door that meet too late", n, 0, 0, inf)
}

// TestP11_2AsManyWindowsAsMayBe hands on as often as hazards of one world can make it.
func TestP11_2AsManyWindowsAsMayBe(t *testing.T) {
	var stop, closed, open []api.Win
	const windows = 1 << 15
	for i := range int64(windows) {
		stop = append(stop, api.Win{From: 4 * i, To: 4*i + 2})
		closed = append(closed, api.Win{From: 4*i + 2, To: 4*i + 4})
		open = append(open, api.Win{From: 4 * i, To: 4*i + 1})
	}
	// The ticks of the pairs touch from one row to the other, but not within one.
	end := int64(4 * windows)
	n := net(top, rows(stop, nil), path(0, 1, 1, closed), door(0, 1, 1, open), door(0, 1, 7, append(slices.Clone(open), api.Win{From: end + 5, To: end + 9})))
	for _, x := range []int64{0, 1, 2, 3, 4, 77, end / 2, end - 1, end, end + 3} {
		first(t, "a stop and a path", n, 0, x, max(x, end))
		first(t, "a stop and a door that never meet", n, 1, x, inf)
		first(t, "a stop and a door that meet at last", n, 2, x, end+5)
	}
}

// TestP11_2TickByTick holds May and First of all small nets of one link against all ticks, one by one.
func TestP11_2TickByTick(t *testing.T) {
	const most = 7
	for stop := range uint64(1 << most) {
		for own := range uint64(1 << most) {
			for _, length := range []int64{1, 2, 3} {
				for _, horizon := range []int64{0, 5, 9} {
					n := net(horizon, rows(marked(stop), nil), door(0, 1, length, marked(own)), path(0, 1, length, marked(own)))
					may := [2]func(from int64) bool{
						func(from int64) bool { return stop>>from&1 == 0 && own>>from&1 == 1 },
						func(from int64) bool {
							return stop>>from&1 == 0 && own>>from&(1<<length-1) == 0
						},
					}
					for at := range may {
						want := inf
						for x := horizon + 1; x >= 0; x-- {
							if may[at](x) && x+length <= horizon {
								want = x
							}
							from, _ := link.First(n, at, x)
							if from != want || link.May(n, at, x) != (want == x) {
								t.Fatalf("First of %v, %d, %d is %d; it should be %d", n, at, x, from, want)
							}
						}
					}
				}
			}
		}
	}
}

// marked tells the windows of the ticks whose bits are there.
func marked(set uint64) []api.Win {
	var l []api.Win
	for i := range int64(64) {
		if set>>i&1 == 0 {
			continue
		}
		if i == 0 || set>>(i-1)&1 == 0 {
			l = append(l, api.Win{From: i, To: i})
		}
		l[len(l)-1].To++
	}
	return l
}

func TestP11_2DrawnNets(t *testing.T) {
	seed := uint64(112)
	for range 3000 {
		agrees(t, "a drawn net", drawnNet(&seed), ticksTo(60)...)
	}
}

// TestP11_2DrawnNetsFarOut moves drawn nets to about MaxTick.
func TestP11_2DrawnNetsFarOut(t *testing.T) {
	seed := uint64(1122)
	for range 2000 {
		n := drawnNet(&seed)
		by := top - upTo(&seed, 60)
		n.Horizon = min(n.Horizon+by, top)
		for i := range n.Closed {
			moved(n.Closed[i], by)
		}
		for i := range n.Links {
			moved(n.Links[i].Open, by)
			moved(n.Links[i].Closed, by)
		}
		ticks := []int64{-1, 0, 1, by - 1}
		for x := by; x < top+9; x++ {
			ticks = append(ticks, x)
		}
		agrees(t, "a drawn net far out", n, ticks...)
	}
}

func moved(l []api.Win, by int64) {
	for i := range l {
		l[i].From, l[i].To = l[i].From+by, l[i].To+by
	}
}

func TestP11_3EarlierIsNeverWorse(t *testing.T) {
	seed := uint64(113)
	for range 2000 {
		n := drawnNet(&seed)
		for at := range n.Links {
			ahead := int64(-1)
			for x := range int64(60) {
				from, to := link.First(n, at, x)
				if from < ahead {
					t.Fatalf("%v: First of %d, %d is %d; that of an earlier tick is %d", n, at, x, from, ahead)
				}
				if from != inf && (from < x || to != from+n.Links[at].Len || !link.May(n, at, from)) {
					t.Fatalf("%v: First of %d, %d is %d, %d, which may not be", n, at, x, from, to)
				}
				// Where it may not be taken now, it is as if one had come a tick later.
				later, _ := link.First(n, at, x+1)
				if may := link.May(n, at, x); may != (from == x) || !may && from != later {
					t.Fatalf("%v: First of %d, %d is %d, May is %v; that of the next tick is %d", n, at, x, from, may, later)
				}
				ahead = from
			}
		}
	}
}

func TestP11_3OfWhatMakeTells(t *testing.T) {
	for title, w := range map[string]api.World{"a whole world": whole(t), "a crowded world": crowded()} {
		n, err := link.Make(w)
		if err != api.OK {
			t.Fatal(title, err)
		}
		agrees(t, title, n, ticksTo(70)...)
	}
	n, _ := link.Make(whole(t))
	for _, c := range []struct {
		at      int
		x, want int64
	}{
		{0, 0, 5}, {0, 7, 15}, {0, 57, inf}, {0, 56, 56}, {1, 0, 0}, {1, 1, inf},
		{2, 2, 2}, {2, 3, 4}, {3, 3, 3}, {2, 57, 57}, {2, 58, inf},
		{4, 0, 0}, {4, 1, 7}, {5, 20, 20}, {5, 21, 25}, {5, 44, 45},
	} {
		first(t, "a whole world", n, c.at, c.x, c.want)
	}
}
