package window_test

import (
	"fmt"
	"math"
	"math/bits"
	"slices"
	"testing"

	"timetable/api"
	"timetable/window"
)

const (
	top  = int64(api.MaxTick)
	inf  = int64(api.Inf)
	most = 256
)

// edges are numbers at and beside all that a tick, or the end of a window, is held against.
var edges = []int64{
	math.MinInt64, math.MinInt64 + 1, -inf, -2 * top, -top - 1, -top, -2, -1,
	0, 1, 2, 3, 7, 1 << 20, top / 2, top - 2, top - 1, top,
	top + 1, top + 2, 2*top - 1, 2 * top, 2*top + 1, inf - 1, inf, inf + 1, math.MaxInt64 - 1, math.MaxInt64,
}

func isFinite(x int64) bool { return 0 <= x && x <= top }

func win(from, to int64) api.Win { return api.Win{From: from, To: to} }

// row makes windows of a from, a to, a from and so on.
func row(numbers ...int64) []api.Win {
	var l []api.Win
	for i := 0; i < len(numbers); i += 2 {
		l = append(l, win(numbers[i], numbers[i+1]))
	}
	return l
}

// plainGood holds each window against what the document asks of it.
func plainGood(l []api.Win) bool {
	for i, w := range l {
		inside := w.From >= 0 && w.From < w.To && w.To <= 2*top
		apart := i == 0 || w.From > l[i-1].To
		if !inside || !apart {
			return false
		}
	}
	return true
}

// marked tells the joined windows of the ticks whose bits are there, from base on.
func marked(set uint64, base int64) []api.Win {
	var l []api.Win
	for i := range int64(64) {
		if set>>i&1 == 0 {
			continue
		}
		if i == 0 || set>>(i-1)&1 == 0 {
			l = append(l, win(base+i, base+i))
		}
		l[len(l)-1].To++
	}
	return l
}

// laid is l with spare room behind it that has a window of its own.
func laid(l []api.Win) []api.Win {
	spare := append(slices.Clone(l), junk, junk)
	return spare[:len(l)]
}

var junk = win(-77, -7)

// untouched tells whether a laid row is still l, and what is behind it, too.
func untouched(spare, l []api.Win) bool {
	return slices.Equal(spare[:len(l)+2], append(slices.Clone(l), junk, junk))
}

func draw(seed *uint64) uint64 {
	*seed = *seed*6364136223846793005 + 1442695040888963407
	return *seed >> 33
}

// notGood are rows each of which is wrong in another way.
func notGood() map[string][]api.Win {
	return map[string][]api.Win{
		"touching":                     row(1, 2, 2, 3),
		"touching last":                row(1, 2, 4, 5, 5, 7),
		"overlapping":                  row(1, 4, 3, 6),
		"one in the other":             row(1, 9, 3, 4),
		"the same":                     row(1, 2, 1, 2),
		"in another order":             row(5, 7, 1, 3),
		"in another order, last":       row(1, 3, 9, 11, 5, 7),
		"empty":                        row(3, 3),
		"empty at 0":                   row(0, 0),
		"empty behind a good one":      row(1, 2, 5, 5),
		"empty ahead of a good one":    row(1, 1, 5, 7),
		"turned about":                 row(4, 3),
		"turned about behind":          row(1, 2, 9, 5),
		"from below 0":                 row(-1, 2),
		"wholly below 0":               row(-5, -2),
		"below 0 ahead of a good one":  row(-5, -2, 5, 7),
		"to 0":                         row(-1, 0),
		"from the least number on":     row(math.MinInt64, 2),
		"beyond 2 MaxTick":             row(1, 2*top+1),
		"beyond 2 MaxTick behind":      row(1, 2, 5, 2*top+1),
		"wholly beyond 2 MaxTick":      row(2*top, 2*top+1),
		"to Inf":                       row(1, inf),
		"to the greatest number":       row(0, math.MaxInt64),
		"all numbers":                  row(math.MinInt64, math.MaxInt64),
		"all numbers, turned about":    row(math.MaxInt64, math.MinInt64),
		"the zero window":              {{}},
		"the zero window behind":       {{From: 1, To: 2}, {}},
		"the zero window in the midst": {{From: 1, To: 2}, {}, {From: 5, To: 7}},
	}
}

func TestP8_1Check(t *testing.T) {
	cases := []struct {
		from, every, len int64
		want             api.Errno
	}{
		{0, 0, 1, api.OK},
		{5, 10, 2, api.OK},
		{-1, 0, 1, api.ErrArg},
		{-1, 10, 2, api.ErrArg},
		{top - 1, 0, 1, api.OK},
		{top, 0, 1, api.OK},
		{top + 1, 0, 1, api.ErrArg},
		{inf, 0, 1, api.ErrArg},
		{0, 0, 0, api.ErrArg},
		{0, 10, 0, api.ErrArg},
		{0, 0, -1, api.ErrArg},
		{0, 0, 2, api.OK},
		{0, 0, top - 1, api.OK},
		{0, 0, top, api.OK},
		{top, 0, top, api.OK},
		{top, top, top, api.OK},
		{0, 0, top + 1, api.ErrArg},
		{0, top + 1, top + 1, api.ErrArg},
		{0, 0, inf, api.ErrArg},
		{0, inf, inf, api.ErrArg},
		{0, -1, 1, api.ErrArg},
		{0, -10, 2, api.ErrArg},
		{0, 1, 1, api.OK},
		{0, 1, 2, api.ErrArg},
		{0, 4, 5, api.ErrArg},
		{0, 5, 5, api.OK},
		{0, 6, 5, api.OK},
		{0, top - 1, 5, api.OK},
		{0, top, 5, api.OK},
		{0, top + 1, 5, api.ErrArg},
		{0, inf, 5, api.ErrArg},
		{0, top - 1, top, api.ErrArg},
		{0, top, top, api.OK},
		{0, 1, top, api.ErrArg},
	}
	for _, c := range cases {
		x := api.Times{From: c.from, Every: c.every, Len: c.len}
		if got := window.Check(x); got != c.want {
			t.Errorf("Check(%v) is %d; it should be %d", x, got, c.want)
		}
	}
}

func mayBe(t api.Times) bool {
	return t.From >= 0 && t.From <= top &&
		t.Len >= 1 && t.Len <= top &&
		(t.Every == 0 || t.Every >= t.Len && t.Every <= top)
}

func TestP8_1CheckByEachNumber(t *testing.T) {
	for _, from := range edges {
		for _, every := range edges {
			for _, length := range edges {
				x := api.Times{From: from, Every: every, Len: length}
				want := api.ErrArg
				if mayBe(x) {
					want = api.OK
				}
				if got := window.Check(x); got != want {
					t.Errorf("Check(%v) is %d; it should be %d", x, got, want)
				}
			}
		}
	}
}

func TestP8_1Good(t *testing.T) {
	for _, l := range [][]api.Win{
		nil,
		{},
		row(0, 1),
		row(3, 9),
		row(0, 2*top),
		row(2*top-1, 2*top),
		row(0, 1, 2, 3),
		row(5, 7, 15, 17),
		row(0, 1, 2, 3, 4, 9, 10, 2*top),
		row(0, top, top+1, 2*top),
		row(0, 2*top-2, 2*top-1, 2*top),
	} {
		if !window.Good(l) {
			t.Errorf("Good(%v) is false", l)
		}
	}
	for name, l := range notGood() {
		if window.Good(l) {
			t.Errorf("%s: Good(%v) is true", name, l)
		}
	}
}

func TestP8_1GoodByEachNumber(t *testing.T) {
	for _, from := range edges {
		for _, to := range edges {
			w := win(from, to)
			for _, l := range [][]api.Win{{w}, {w, w}, {win(1, 2), w}, {w, win(4, 7)}, {w, win(top+3, top+4)}, {win(1, 2), w, win(top+3, top+4)}, {win(3, 3), w}} {
				if got := window.Good(l); got != plainGood(l) {
					t.Errorf("Good(%v) is %v", l, got)
				}
			}
		}
	}
}

// smallRows calls look with each row of up to three windows from -1 to 6.
func smallRows(look func(l []api.Win)) {
	var wins []api.Win
	for from := int64(-1); from <= 6; from++ {
		for to := int64(-1); to <= 6; to++ {
			wins = append(wins, win(from, to))
		}
	}
	look(nil)
	for _, a := range wins {
		look([]api.Win{a})
		for _, b := range wins {
			look([]api.Win{a, b})
			for _, c := range wins {
				look([]api.Win{a, b, c})
			}
		}
	}
}

func TestP8_1GoodOfAllSmallRows(t *testing.T) {
	good := 0
	smallRows(func(l []api.Win) {
		want := plainGood(l)
		if want {
			good++
		}
		if got := window.Good(l); got != want {
			t.Fatalf("Good(%v) is %v", l, got)
		}
	})
	// Of the seven bounds 0 to 6, any two, any four and any six are a row, and so is none.
	if good != 1+21+35+7 {
		t.Errorf("%d of the small rows are good", good)
	}
}

// wins checks what Wins answers.
func wins(t *testing.T, x api.Times, horizon int64, want []api.Win, wantErr api.Errno) {
	t.Helper()
	if l, err := window.Wins(x, horizon); !slices.Equal(l, want) || err != wantErr {
		t.Errorf("Wins(%v, %d) is %v, %d; it should be %v, %d", x, horizon, l, err, want, wantErr)
	}
}

func TestP8_1Wins(t *testing.T) {
	once, often, always := api.Times{From: 5, Len: 2}, api.Times{From: 5, Every: 10, Len: 2}, api.Times{From: 5, Every: 2, Len: 2}
	cases := []struct {
		x       api.Times
		horizon int64
		want    []api.Win
	}{
		{once, 0, nil},
		{once, 4, nil},
		{once, 5, row(5, 7)},
		{once, 6, row(5, 7)},
		{once, 7, row(5, 7)},
		{once, top, row(5, 7)},
		{often, 0, nil},
		{often, 4, nil},
		{often, 5, row(5, 7)},
		{often, 14, row(5, 7)},
		{often, 15, row(5, 7, 15, 17)},
		{often, 16, row(5, 7, 15, 17)},
		{often, 24, row(5, 7, 15, 17)},
		{often, 25, row(5, 7, 15, 17, 25, 27)},
		{always, 4, nil},
		{always, 5, row(5, 7)},
		{always, 6, row(5, 7)},
		{always, 7, row(5, 9)},
		{always, 8, row(5, 9)},
		{always, 9, row(5, 11)},
		{api.Times{From: 5, Every: 3, Len: 2}, 11, row(5, 7, 8, 10, 11, 13)},
		{api.Times{Every: 1, Len: 1}, 9, row(0, 10)},
		{api.Times{Len: 1}, 0, row(0, 1)},
		{api.Times{Every: 1, Len: 1}, 0, row(0, 1)},
		{api.Times{Len: top}, 0, row(0, top)},
		{api.Times{Every: top, Len: top}, 0, row(0, top)},
		{api.Times{Every: top, Len: top}, top - 1, row(0, top)},
		{api.Times{Every: top, Len: top}, top, row(0, 2*top)},
		{api.Times{Every: top, Len: top - 1}, top, row(0, top-1, top, 2*top-1)},
		{api.Times{From: top, Len: top}, top, row(top, 2*top)},
		{api.Times{From: top, Len: top}, top - 1, nil},
		{api.Times{From: top, Every: top, Len: top}, top, row(top, 2*top)},
		{api.Times{From: 1, Every: top, Len: 1}, top, row(1, 2)},
		{api.Times{From: 0, Every: top - 1, Len: 3}, top, row(0, 3, top-1, top+2)},
		{api.Times{From: top - 1, Every: 1, Len: 1}, top, row(top-1, top+1)},
	}
	for _, c := range cases {
		wins(t, c.x, c.horizon, c.want, api.OK)
	}
}

// TestP8_1WinsByMarks holds Wins against ticks that are marked one by one.
func TestP8_1WinsByMarks(t *testing.T) {
	for from := range int64(8) {
		for length := int64(1); length <= 6; length++ {
			for every := range int64(9) {
				for horizon := range int64(24) {
					if every != 0 && every < length {
						continue
					}
					set := uint64(0)
					for x := from; x <= horizon; x += every {
						set |= (1<<length - 1) << x
						if every == 0 {
							break
						}
					}
					x := api.Times{From: from, Every: every, Len: length}
					wins(t, x, horizon, marked(set, 0), api.OK)
				}
			}
		}
	}
}

func TestP8_1WinsOfAsManyAsThereMayBe(t *testing.T) {
	apart, touching, long := api.Times{From: 3, Every: 2, Len: 1}, api.Times{From: 3, Every: 4, Len: 4}, api.Times{Every: top / most, Len: 7}
	full := make([]api.Win, most)
	for i := range int64(most) {
		full[i] = win(3+2*i, 4+2*i)
	}
	wins(t, apart, 3+2*(most-1)-1, full[:most-1], api.OK)
	wins(t, apart, 3+2*(most-1), full, api.OK)
	wins(t, apart, 3+2*most-1, full, api.OK)
	wins(t, apart, 3+2*most, nil, api.ErrLong)
	wins(t, apart, top, nil, api.ErrLong)
	// As many windows are too many, though joined they are one.
	wins(t, touching, 3+4*(most-1), row(3, 3+4*most), api.OK)
	wins(t, touching, 3+4*most-1, row(3, 3+4*most), api.OK)
	wins(t, touching, 3+4*most, nil, api.ErrLong)
	wins(t, api.Times{Every: 1, Len: 1}, top, nil, api.ErrLong)
	if l, err := window.Wins(long, top-1); len(l) != most || err != api.OK {
		t.Errorf("%d windows, %d", len(l), err)
	}
	wins(t, long, top, nil, api.ErrLong)
	wins(t, api.Times{From: 1, Every: top / most, Len: top / most}, top, row(1, 1+top), api.OK)
}

func TestP8_1WinsRefuses(t *testing.T) {
	may := []api.Times{{From: 5, Every: 10, Len: 2}, {Len: 1}, {Every: 1, Len: 1}, {From: top, Every: top, Len: top}}
	mayNot := []api.Times{{}, {From: -1, Len: 1}, {From: top + 1, Len: 1}, {Every: 1, Len: 2}, {Len: top + 1}, {Every: 1}, {From: math.MinInt64, Every: math.MinInt64, Len: math.MinInt64}, {From: math.MaxInt64, Every: math.MaxInt64, Len: math.MaxInt64}}
	for _, horizon := range edges {
		for _, x := range mayNot {
			wins(t, x, horizon, nil, api.ErrArg) // ahead of whatever horizon
		}
		for _, x := range may {
			if !isFinite(horizon) {
				wins(t, x, horizon, nil, api.ErrRange) // ahead of too many windows
			}
		}
	}
}

func TestP8_1WinsByEachNumber(t *testing.T) {
	for _, from := range edges {
		for _, every := range edges {
			for _, length := range edges {
				for _, horizon := range edges {
					x := api.Times{From: from, Every: every, Len: length}
					l, err := window.Wins(x, horizon)
					if want := winsError(x, horizon); err != want || err != api.OK && len(l) != 0 {
						t.Fatalf("Wins(%v, %d) is %v, %d; the error should be %d", x, horizon, l, err, want)
					}
					if !plainGood(l) || (len(l) > 0) != (err == api.OK && from <= horizon) {
						t.Fatalf("Wins(%v, %d) is %v", x, horizon, l)
					}
					if len(l) > 0 && (l[0].From != from || l[len(l)-1].To > horizon+length) {
						t.Fatalf("Wins(%v, %d) is %v", x, horizon, l)
					}
				}
			}
		}
	}
}

func winsError(x api.Times, horizon int64) api.Errno {
	switch {
	case !mayBe(x):
		return api.ErrArg
	case !isFinite(horizon):
		return api.ErrRange
	case x.Every > 0 && horizon-x.From >= most*x.Every:
		return api.ErrLong
	}
	return api.OK
}

func TestP8_1Union(t *testing.T) {
	cases := []struct{ a, b, want []api.Win }{
		{nil, nil, nil},
		{row(5, 7), nil, row(5, 7)},
		{row(5, 7, 15, 17), nil, row(5, 7, 15, 17)},
		{row(5, 7), row(5, 7), row(5, 7)},
		{row(5, 7), row(7, 9), row(5, 9)},
		{row(5, 7), row(8, 9), row(5, 7, 8, 9)},
		{row(5, 7), row(6, 9), row(5, 9)},
		{row(5, 7), row(5, 9), row(5, 9)},
		{row(5, 9), row(6, 7), row(5, 9)},
		{row(5, 9), row(5, 7), row(5, 9)},
		{row(5, 9), row(7, 9), row(5, 9)},
		{row(5, 7, 15, 17), row(7, 15), row(5, 17)},
		{row(5, 7, 15, 17), row(8, 14), row(5, 7, 8, 14, 15, 17)},
		{row(5, 7, 15, 17, 25, 27), row(6, 16), row(5, 17, 25, 27)},
		{row(5, 7, 15, 17, 25, 27), row(0, 40), row(0, 40)},
		{row(0, 1, 4, 5, 8, 9), row(2, 3, 6, 7, 10, 11), row(0, 1, 2, 3, 4, 5, 6, 7, 8, 9, 10, 11)},
		{row(0, 2, 4, 6, 8, 10), row(2, 4, 6, 8), row(0, 10)},
		{row(0, 1, 2, 3, 4, 5), row(9, 10, 11, 12), row(0, 1, 2, 3, 4, 5, 9, 10, 11, 12)},
		{row(0, top), row(top, 2*top), row(0, 2*top)},
		{row(0, 2*top), row(top, top+1), row(0, 2*top)},
		{row(0, 1), row(2*top-1, 2*top), row(0, 1, 2*top-1, 2*top)},
		{row(5, 7), row(1, 2, 2, 3), nil},
		{nil, row(1, 2, 2, 3), nil},
		{row(1, 2, 2, 3), row(1, 2, 2, 3), nil},
	}
	for _, c := range cases {
		a, b := laid(c.a), laid(c.b)
		for _, pair := range [][2][]api.Win{{a, b}, {b, a}} {
			if l := window.Union(pair[0], pair[1]); !slices.Equal(l, c.want) {
				t.Errorf("Union(%v, %v) is %v; it should be %v", pair[0], pair[1], l, c.want)
			}
		}
		if !untouched(a, c.a) || !untouched(b, c.b) {
			t.Errorf("Union(%v, %v) changed what was handed in", c.a, c.b)
		}
	}
}

// TestP8_1UnionByMarks holds Union of all rows over eight ticks, at both ends of where windows may be, against marks.
func TestP8_1UnionByMarks(t *testing.T) {
	for _, base := range []int64{0, top - 4, 2*top - 8} {
		for a := range uint64(256) {
			for b := range uint64(256) {
				x, y := laid(marked(a, base)), laid(marked(b, base))
				if l := window.Union(x, y); !slices.Equal(l, marked(a|b, base)) {
					t.Fatalf("Union(%v, %v) is %v", x, y, l)
				}
				if !untouched(x, marked(a, base)) || !untouched(y, marked(b, base)) {
					t.Fatalf("Union of %v, %v changed them", marked(a, base), marked(b, base))
				}
			}
		}
	}
}

func TestP8_1UnionWithItself(t *testing.T) {
	for set := range uint64(1 << 10) {
		l := marked(set, 3)
		if u := window.Union(l, l); !slices.Equal(u, l) {
			t.Fatalf("Union of %v with itself is %v", l, u)
		}
	}
}

func TestP8_1UnionIsAsLongAsItIs(t *testing.T) {
	var a, b, c []api.Win
	for i := range int64(5000) {
		a, b, c = append(a, win(6*i, 6*i+2)), append(b, win(6*i+3, 6*i+5)), append(c, win(6*i+2, 6*i+3))
	}
	u := window.Union(a, b)
	if len(u) != 10000 || !plainGood(u) || window.Sum(u) != 20000 {
		t.Errorf("%d windows, %d ticks", len(u), window.Sum(u))
	}
	if l := window.Union(u, c); len(l) != 5000 || window.Sum(l) != 25000 {
		t.Errorf("%d windows, %d ticks", len(l), window.Sum(l))
	}
}

func TestP8_1Sum(t *testing.T) {
	cases := []struct {
		l    []api.Win
		want int64
	}{
		{nil, 0},
		{row(5, 6), 1},
		{row(5, 7), 2},
		{row(5, 7, 15, 17), 4},
		{row(0, 1, 2, 3, 4, 9), 7},
		{row(0, top), top},
		{row(top, 2*top), top},
		{row(0, 2*top), 2 * top},
		{row(0, top, top+1, 2*top), 2*top - 1},
	}
	for _, c := range cases {
		if n := window.Sum(c.l); n != c.want {
			t.Errorf("Sum(%v) is %d; it should be %d", c.l, n, c.want)
		}
	}
	for set := range uint64(1 << 12) {
		l := marked(set, 2*top-12)
		if n := window.Sum(l); n != int64(bits.OnesCount64(set)) {
			t.Fatalf("Sum(%v) is %d", l, n)
		}
	}
}

// asked is what a row should tell of an x and an n.
type asked struct {
	has             bool
	next, free, gap int64
}

func holds(t *testing.T, l []api.Win, x, n int64, want asked) {
	t.Helper()
	got := asked{window.Has(l, x), window.Next(l, x), window.Free(l, x), window.Gap(l, x, n)}
	if got != want {
		t.Fatalf("%v, asked for %d and %d: Has, Next, Free, Gap are %v; they should be %v", l, x, n, got, want)
	}
}

func TestP8_2AboutWindowsEnds(t *testing.T) {
	l := row(5, 7, 15, 17)
	cases := []struct {
		x, n int64
		want asked
	}{
		{0, 1, asked{false, 5, 0, 0}},
		{0, 5, asked{false, 5, 0, 0}},
		{0, 6, asked{false, 5, 0, 7}},
		{0, 8, asked{false, 5, 0, 7}},
		{0, 9, asked{false, 5, 0, 17}},
		{4, 1, asked{false, 5, 4, 4}},
		{4, 2, asked{false, 5, 4, 7}},
		{5, 1, asked{true, 5, 7, 7}},
		{5, 0, asked{true, 5, 7, 5}},
		{6, 1, asked{true, 6, 7, 7}},
		{6, 8, asked{true, 6, 7, 7}},
		{6, 9, asked{true, 6, 7, 17}},
		{7, 8, asked{false, 15, 7, 7}},
		{7, 9, asked{false, 15, 7, 17}},
		{8, 7, asked{false, 15, 8, 8}},
		{8, 8, asked{false, 15, 8, 17}},
		{14, 1, asked{false, 15, 14, 14}},
		{14, 2, asked{false, 15, 14, 17}},
		{15, 1, asked{true, 15, 17, 17}},
		{16, top, asked{true, 16, 17, 17}},
		{17, 1, asked{false, inf, 17, 17}},
		{17, top, asked{false, inf, 17, 17}},
		{18, 0, asked{false, inf, 18, 18}},
		{top - 1, top, asked{false, inf, top - 1, top - 1}},
		{top, 0, asked{false, inf, top, top}},
		{top, 1, asked{false, inf, top, top}},
		{top, top, asked{false, inf, top, top}},
	}
	for _, c := range cases {
		holds(t, l, c.x, c.n, c.want)
	}
}

func TestP8_2WithoutWindows(t *testing.T) {
	for _, l := range [][]api.Win{nil, {}} {
		for _, x := range []int64{0, 1, 5, top - 1, top} {
			for _, n := range []int64{0, 1, 2, top - 1, top} {
				holds(t, l, x, n, asked{false, inf, x, x})
			}
		}
	}
}

// TestP8_2BeyondMaxTick holds what a tick up to MaxTick is told of windows that go on beyond it.
func TestP8_2BeyondMaxTick(t *testing.T) {
	cases := []struct {
		l    []api.Win
		x, n int64
		want asked
	}{
		{row(top, 2*top), 0, 1, asked{false, top, 0, 0}},
		{row(top, 2*top), 0, top, asked{false, top, 0, 0}},
		{row(top, 2*top), 1, top - 1, asked{false, top, 1, 1}},
		{row(top, 2*top), 1, top, asked{false, top, 1, 2 * top}},
		{row(top, 2*top), top, 0, asked{true, top, 2 * top, top}},
		{row(top, 2*top), top, 1, asked{true, top, 2 * top, 2 * top}},
		{row(0, 2*top), 0, top, asked{true, 0, 2 * top, 2 * top}},
		{row(0, top), top, top, asked{false, inf, top, top}},
		{row(0, top), top - 1, 1, asked{true, top - 1, top, top}},
		{row(0, top, top+1, 2*top), 7, 1, asked{true, 7, top, top}},
		{row(0, top, top+1, 2*top), 7, 2, asked{true, 7, top, 2 * top}},
		{row(top+1, top+2), top, 1, asked{false, top + 1, top, top}},
		{row(top+1, top+2), top, 2, asked{false, top + 1, top, top + 2}},
		{row(top+2, top+4), top, 2, asked{false, top + 2, top, top}},
		{row(2*top-1, 2*top), top, top - 1, asked{false, 2*top - 1, top, top}},
		{row(2*top-1, 2*top), top, top, asked{false, 2*top - 1, top, 2 * top}},
		{row(2*top-1, 2*top), 0, top, asked{false, 2*top - 1, 0, 0}},
	}
	for _, c := range cases {
		holds(t, c.l, c.x, c.n, c.want)
	}
}

// least tells the first number from x on that is as it should be, up to 64 of them; Inf if there is none.
func least(x int64, should func(y int64) bool) int64 {
	for y := x; y < x+64; y++ {
		if should(y) {
			return y
		}
	}
	return inf
}

// TestP8_2ByMarks holds all rows over ten ticks against marks, for all ticks about them and gaps of all lengths.
func TestP8_2ByMarks(t *testing.T) {
	for _, base := range []int64{0, 3, top - 5, top - 14} {
		for set := range uint64(1 << 10) {
			l := laid(marked(set, base))
			in := func(y int64) bool { return y >= base && y < base+64 && set>>(y-base)&1 == 1 }
			for x := max(base-2, 0); x <= min(base+12, top); x++ {
				next := least(x, in)
				free := least(x, func(y int64) bool { return !in(y) })
				for n := range int64(13) {
					gap := least(x, func(y int64) bool {
						return least(y, in) >= y+n
					})
					holds(t, l, x, n, asked{in(x), next, free, gap})
				}
			}
			if !untouched(l, marked(set, base)) {
				t.Fatalf("%v was changed", marked(set, base))
			}
		}
	}
}

func TestP8_2OutOfRange(t *testing.T) {
	rows := [][]api.Win{nil, row(5, 7, 15, 17), row(0, 2*top), row(0, 1), row(top, 2*top), row(top+1, top+3)}
	for _, l := range rows {
		for _, x := range edges {
			for _, n := range edges {
				if !isFinite(n) {
					if y := window.Gap(l, x, n); y != inf {
						t.Errorf("Gap(%v, %d, %d) is %d", l, x, n, y)
					}
				}
				if !isFinite(x) {
					holds(t, l, x, n, asked{false, inf, inf, inf})
				}
			}
		}
	}
}

func TestP8_2OfARowThatIsNotGood(t *testing.T) {
	for name, l := range notGood() {
		for _, x := range append([]int64{4, 5, 6, 10}, edges...) {
			for _, n := range []int64{0, 1, 2, 3, top, -1, top + 1, inf} {
				holds(t, l, x, n, asked{false, inf, inf, inf})
			}
		}
		saysNothing(t, name, l)
	}
}

// saysNothing checks what is told of a row that is not good.
func saysNothing(t *testing.T, name string, l []api.Win) {
	t.Helper()
	was, spare := slices.Clone(l), laid(l)
	for _, other := range [][]api.Win{nil, row(5, 7), spare} {
		if u, v := window.Union(spare, other), window.Union(other, spare); len(u) != 0 || len(v) != 0 {
			t.Fatalf("%s: Union of %v and %v is %v, %v", name, l, other, u, v)
		}
	}
	if n := window.Sum(spare); n != 0 {
		t.Fatalf("%s: Sum(%v) is %d", name, l, n)
	}
	if !untouched(spare, was) {
		t.Fatalf("%s: %v was changed to %v", name, was, spare)
	}
}

func TestP8_2OfAllSmallRowsThatAreNotGood(t *testing.T) {
	smallRows(func(l []api.Win) {
		if plainGood(l) {
			return
		}
		saysNothing(t, "a small row", l)
		for x := range int64(4) {
			holds(t, l, 2*x, x, asked{false, inf, inf, inf})
		}
	})
}

// TestP8_3JoinedHasTheSameTicks holds Wins against the windows as they come, and Union against both rows, tick by tick.
func TestP8_3JoinedHasTheSameTicks(t *testing.T) {
	seed := uint64(8)
	for range 3000 {
		a, x, horizon := drawn(&seed)
		b, y, _ := drawn(&seed)
		u := window.Union(a, b)
		if !plainGood(a) || !plainGood(u) {
			t.Fatalf("%v or %v is not good", a, u)
		}
		for tick := range horizon + 12 {
			if window.Has(a, tick) != comes(x, horizon, tick) {
				t.Fatalf("Has(%v, %d) is %v of %v up to %d", a, tick, window.Has(a, tick), x, horizon)
			}
			if window.Has(u, tick) != (window.Has(a, tick) || window.Has(b, tick)) {
				t.Fatalf("Has(%v, %d) is %v of %v and %v", u, tick, window.Has(u, tick), x, y)
			}
		}
	}
}

// drawn tells windows of times that come now and then, the times, and the horizon.
func drawn(seed *uint64) ([]api.Win, api.Times, int64) {
	length := 1 + int64(draw(seed)%6)
	x := api.Times{From: int64(draw(seed) % 20), Len: length}
	if draw(seed)%4 > 0 {
		x.Every = length + int64(draw(seed)%5)
	}
	horizon := int64(draw(seed) % 60)
	l, err := window.Wins(x, horizon)
	if err != api.OK {
		panic(fmt.Sprint(x, horizon, err))
	}
	return l, x, horizon
}

// comes tells whether x is in a window of times that begins at the horizon or ahead.
func comes(t api.Times, horizon, x int64) bool {
	if t.Every == 0 {
		return t.From <= horizon && t.From <= x && x < t.From+t.Len
	}
	begun := x - (x-t.From)%t.Every // the last beginning that is not behind x
	return x >= t.From && begun <= horizon && x < begun+t.Len
}

func TestP8_3NextAndFreeOfWhatWasJoined(t *testing.T) {
	for a := range uint64(64) {
		for b := range uint64(64) {
			l, m := marked(a, 1), marked(b, 1)
			u := window.Union(l, m)
			for x := range int64(9) {
				if y := window.Next(u, x); y != min(window.Next(l, x), window.Next(m, x)) {
					t.Fatalf("Next(%v, %d) is %d of %v and %v", u, x, y, l, m)
				}
				y := x
				for window.Has(l, y) || window.Has(m, y) {
					y = max(window.Free(l, y), window.Free(m, y))
				}
				if window.Free(u, x) != y {
					t.Fatalf("Free(%v, %d) is %d of %v and %v; it should be %d", u, x, window.Free(u, x), l, m, y)
				}
			}
		}
	}
}

func TestP8_3GapOfOneIsFree(t *testing.T) {
	hold := func(l []api.Win, x int64) {
		if y, z := window.Gap(l, x, 1), window.Free(l, x); y != z {
			t.Fatalf("%v: Gap(%d, 1) is %d, Free %d", l, x, y, z)
		}
	}
	for _, base := range []int64{0, top - 4, 2*top - 8} {
		for set := range uint64(256) {
			for x := base - 2; x <= base+10; x++ {
				hold(marked(set, base), x)
			}
		}
	}
	for _, l := range notGood() {
		for _, x := range edges {
			hold(l, x)
		}
	}
}

func TestP8_3JoinedInWhateverOrder(t *testing.T) {
	for a := range uint64(32) {
		for b := range uint64(32) {
			for c := range uint64(32) {
				l, m, n := marked(a, 0), marked(b, 1), marked(c, 2)
				u, v := window.Union(window.Union(l, m), n), window.Union(l, window.Union(n, m))
				if !slices.Equal(u, v) {
					t.Fatalf("%v, %v, %v are %v; in another order %v", l, m, n, u, v)
				}
			}
		}
	}
}

// scribble writes all over a row, its spare room too.
func scribble(l []api.Win) {
	l = l[:cap(l)]
	for i := range l {
		l[i] = win(-9, -99)
	}
}

func TestAnswersAreNewMemory(t *testing.T) {
	for _, l := range [][]api.Win{row(5, 7), row(5, 7, 15, 17), row(0, 1, 2, 3, 4, 5, 6, 7, 8, 9)} {
		for _, other := range [][]api.Win{nil, {}, row(5, 7), row(100, 101), l} {
			a, b := laid(l), laid(other)
			one, two := window.Union(a, b), window.Union(b, a)
			want := slices.Clone(one)
			scribble(two)
			if !slices.Equal(one, want) || !untouched(a, l) || !untouched(b, other) {
				t.Errorf("Union of %v and %v shares memory", l, other)
			}
			scribble(a)
			scribble(b)
			if !slices.Equal(one, want) {
				t.Errorf("Union of %v and %v shares memory with them", l, other)
			}
		}
	}
	x := api.Times{From: 5, Every: 10, Len: 2}
	one, _ := window.Wins(x, 99)
	two, _ := window.Wins(x, 99)
	want := slices.Clone(one)
	scribble(two)
	if !slices.Equal(one, want) {
		t.Error("two answers of Wins share memory")
	}
	wins(t, x, 99, want, api.OK)
}

func TestExamples(t *testing.T) {
	l, err := window.Wins(api.Times{From: 5, Every: 10, Len: 2}, 20)
	if err != api.OK || !slices.Equal(l, row(5, 7, 15, 17)) {
		t.Errorf("Wins is %v, %d", l, err)
	}
	if x, y, z := window.Free(l, 5), window.Gap(l, 6, 8), window.Next(l, 8); x != 7 || y != 7 || z != 15 {
		t.Errorf("Free %d, Gap %d, Next %d", x, y, z)
	}
}
