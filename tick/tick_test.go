package tick_test

import (
	"math"
	"math/big"
	"strconv"
	"strings"
	"testing"

	"timetable/api"
	"timetable/tick"
)

const (
	top = int64(api.MaxTick)
	inf = int64(api.Inf)
)

// samples are ticks and what is none, with the edges of both.
var samples = []int64{
	math.MinInt64, math.MinInt64 + 1, -inf, -top, -2, -1,
	0, 1, 2, 3, 7, 10, 1 << 20, 1<<20 + 1, 1 << 39, top - 1, top,
	top + 1, 2 * top, inf - 1, inf, inf + 1, math.MaxInt64 - 1, math.MaxInt64,
}

func isTick(t int64) bool { return 0 <= t && t <= top || t == inf }

func isFinite(t int64) bool { return 0 <= t && t <= top }

// bounded is the answer of a number that may be any: itself, or ErrRange outside of 0 to MaxTick.
func bounded(x *big.Int) (int64, api.Errno) {
	if x.Sign() < 0 || x.Cmp(big.NewInt(top)) > 0 {
		return 0, api.ErrRange
	}
	return x.Int64(), api.OK
}

func plainAdd(a, b int64) (int64, api.Errno) {
	switch {
	case !isTick(a) || !isTick(b):
		return 0, api.ErrRange
	case a == inf || b == inf:
		return inf, api.OK
	}
	return bounded(new(big.Int).Add(big.NewInt(a), big.NewInt(b)))
}

func plainSub(a, b int64) (int64, api.Errno) {
	switch {
	case !isTick(a) || !isTick(b) || b == inf || b > a:
		return 0, api.ErrRange
	case a == inf:
		return inf, api.OK
	}
	return bounded(new(big.Int).Sub(big.NewInt(a), big.NewInt(b)))
}

func plainMul(a, n int64) (int64, api.Errno) {
	switch {
	case !isTick(a) || n < 0:
		return 0, api.ErrRange
	case n == 0:
		return 0, api.OK
	case a == inf:
		return inf, api.OK
	}
	return bounded(new(big.Int).Mul(big.NewInt(a), big.NewInt(n)))
}

func plainAt(from, every, i int64) (int64, api.Errno) {
	if !isFinite(from) || !isFinite(every) || i < 0 || every == 0 && i != 0 {
		return 0, api.ErrRange
	}
	x := new(big.Int).Mul(big.NewInt(every), big.NewInt(i))
	return bounded(x.Add(x, big.NewInt(from)))
}

func TestP1_1Is(t *testing.T) {
	for _, x := range samples {
		if got := tick.Is(x); got != isTick(x) {
			t.Errorf("Is(%d) is %v", x, got)
		}
	}
}

func TestP1_1Check(t *testing.T) {
	for _, x := range samples {
		want := api.ErrRange
		if isFinite(x) {
			want = api.OK
		}
		if got := tick.Check(x); got != want {
			t.Errorf("Check(%d) is %d", x, got)
		}
	}
}

type call struct {
	a, b, want int64
	err        api.Errno
}

func hold(t *testing.T, name string, f func(a, b int64) (int64, api.Errno), calls []call) {
	t.Helper()
	for _, c := range calls {
		if x, e := f(c.a, c.b); x != c.want || e != c.err {
			t.Errorf("%s(%d, %d) is %d, %d; it should be %d, %d", name, c.a, c.b, x, e, c.want, c.err)
		}
	}
}

func TestP1_1Add(t *testing.T) {
	hold(t, "Add", tick.Add, []call{
		{3, 4, 7, api.OK},
		{0, 0, 0, api.OK},
		{0, top, top, api.OK},
		{top - 4, 4, top, api.OK},
		{top - 4, 5, 0, api.ErrRange},
		{top, 1, 0, api.ErrRange},
		{top, top, 0, api.ErrRange},
		{inf, 3, inf, api.OK},
		{3, inf, inf, api.OK},
		{inf, top, inf, api.OK},
		{inf, inf, inf, api.OK},
		{inf, -1, 0, api.ErrRange},
		{-1, inf, 0, api.ErrRange},
		{inf, top + 1, 0, api.ErrRange},
		{5, -3, 0, api.ErrRange},
		{-3, 5, 0, api.ErrRange},
		{0, top + 1, 0, api.ErrRange},
		{math.MaxInt64, math.MaxInt64, 0, api.ErrRange},
	})
}

func TestP1_1Sub(t *testing.T) {
	hold(t, "Sub", tick.Sub, []call{
		{7, 4, 3, api.OK},
		{7, 7, 0, api.OK},
		{7, 8, 0, api.ErrRange},
		{0, 0, 0, api.OK},
		{0, 1, 0, api.ErrRange},
		{top, 0, top, api.OK},
		{top, top, 0, api.OK},
		{inf, 0, inf, api.OK},
		{inf, top, inf, api.OK},
		{inf, inf, 0, api.ErrRange},
		{3, inf, 0, api.ErrRange},
		{inf, -1, 0, api.ErrRange},
		{inf, top + 1, 0, api.ErrRange},
		{5, -3, 0, api.ErrRange},
		{-3, -5, 0, api.ErrRange},
		{top + 1, 1, 0, api.ErrRange},
		{top + 9, top + 2, 0, api.ErrRange},
	})
}

func TestP1_1Mul(t *testing.T) {
	hold(t, "Mul", tick.Mul, []call{
		{3, 4, 12, api.OK},
		{0, 0, 0, api.OK},
		{0, 5, 0, api.OK},
		{0, math.MaxInt64, 0, api.OK},
		{5, 0, 0, api.OK},
		{inf, 0, 0, api.OK},
		{inf, 1, inf, api.OK},
		{inf, math.MaxInt64, inf, api.OK},
		{inf, -1, 0, api.ErrRange},
		{0, -1, 0, api.ErrRange},
		{3, math.MinInt64, 0, api.ErrRange},
		{-1, 0, 0, api.ErrRange},
		{top + 1, 0, 0, api.ErrRange},
		{top, 1, top, api.OK},
		{top, 2, 0, api.ErrRange},
		{1, top, top, api.OK},
		{1, top + 1, 0, api.ErrRange},
		{1 << 20, 1 << 20, top, api.OK},
		{1 << 20, 1<<20 + 1, 0, api.ErrRange},
		{3, top / 3, top - 1, api.OK},
		{3, top/3 + 1, 0, api.ErrRange},
		// These products would come back from beyond 64 bits as 0 and as 4.
		{1 << 32, 1 << 32, 0, api.ErrRange},
		{4, inf + 1, 0, api.ErrRange},
	})
}

func TestP1_1AllPairs(t *testing.T) {
	calls := []struct {
		name      string
		got, want func(a, b int64) (int64, api.Errno)
	}{
		{"Add", tick.Add, plainAdd},
		{"Sub", tick.Sub, plainSub},
		{"Mul", tick.Mul, plainMul},
	}
	for _, c := range calls {
		for _, a := range samples {
			for _, b := range samples {
				x, e := c.got(a, b)
				if y, f := c.want(a, b); x != y || e != f {
					t.Errorf("%s(%d, %d) is %d, %d; it should be %d, %d", c.name, a, b, x, e, y, f)
				}
			}
		}
	}
}

func TestP1_2At(t *testing.T) {
	cases := []struct {
		from, every, i, want int64
		err                  api.Errno
	}{
		{5, 10, 0, 5, api.OK},
		{5, 10, 2, 25, api.OK},
		{0, 1, top, top, api.OK},
		{0, 1, top + 1, 0, api.ErrRange},
		{1, 1, top, 0, api.ErrRange},
		{top, 10, 0, top, api.OK},
		{top, 1, 1, 0, api.ErrRange},
		{top, 0, 0, top, api.OK},
		{5, 0, 0, 5, api.OK},
		{5, 0, 1, 0, api.ErrRange},
		{5, 0, -1, 0, api.ErrRange},
		{5, 10, -1, 0, api.ErrRange},
		{25, 10, -1, 0, api.ErrRange},
		{-5, 10, 2, 0, api.ErrRange},
		{5, -10, 0, 0, api.ErrRange},
		{inf, 10, 0, 0, api.ErrRange},
		{5, inf, 0, 0, api.ErrRange},
		{top + 1, 0, 0, 0, api.ErrRange},
		{5, top + 1, 0, 0, api.ErrRange},
		{0, top, 1, top, api.OK},
		{1, top, 1, 0, api.ErrRange},
		// The product would come back from beyond 64 bits as 0.
		{5, 1 << 32, 1 << 32, 0, api.ErrRange},
	}
	for _, c := range cases {
		if x, e := tick.At(c.from, c.every, c.i); x != c.want || e != c.err {
			t.Errorf("At(%d, %d, %d) is %d, %d; it should be %d, %d", c.from, c.every, c.i, x, e, c.want, c.err)
		}
	}
	for _, from := range samples {
		for _, every := range samples {
			for _, i := range samples {
				x, e := tick.At(from, every, i)
				if y, f := plainAt(from, every, i); x != y || e != f {
					t.Errorf("At(%d, %d, %d) is %d, %d; it should be %d, %d", from, every, i, x, e, y, f)
				}
			}
		}
	}
}

func TestP1_2Count(t *testing.T) {
	cases := []struct{ from, every, until, want int64 }{
		{5, 10, 25, 3},
		{5, 10, 24, 2},
		{5, 10, 26, 3},
		{5, 10, 5, 1},
		{5, 10, 4, 0},
		{5, 10, 0, 0},
		{5, 0, 25, 1},
		{5, 0, 5, 1},
		{5, 0, 4, 0},
		{0, 0, 0, 1},
		{0, 1, top, top + 1},
		{0, top, top, 2},
		{1, top, top, 1},
		{top, 1, top, 1},
		{top, 0, top, 1},
		{-1, 10, 25, 0},
		{5, -10, 25, 0},
		{5, 10, -1, 0},
		{inf, 10, inf, 0},
		{5, inf, 25, 0},
		{5, 10, inf, 0},
		{5, 0, inf, 0},
		{5, 10, top + 1, 0},
		{5, top + 1, 25, 0},
		{top + 1, 10, top, 0},
		{math.MinInt64, 1, top, 0},
		{0, math.MinInt64, top, 0},
		{0, 1, math.MaxInt64, 0},
	}
	for _, c := range cases {
		if x := tick.Count(c.from, c.every, c.until); x != c.want {
			t.Errorf("Count(%d, %d, %d) is %d; it should be %d", c.from, c.every, c.until, x, c.want)
		}
	}
}

func TestP1_2CountByCounting(t *testing.T) {
	for from := range int64(9) {
		for every := range int64(6) {
			for until := range int64(20) {
				want := int64(0)
				for x := from; x <= until; x += every {
					want++
					if every == 0 {
						break
					}
				}
				if got := tick.Count(from, every, until); got != want {
					t.Errorf("Count(%d, %d, %d) is %d; it should be %d", from, every, until, got, want)
				}
			}
		}
	}
}

func TestP1_3Text(t *testing.T) {
	for _, x := range samples {
		want := ""
		if isFinite(x) {
			want = strconv.FormatInt(x, 10)
		}
		if x == inf {
			want = "inf"
		}
		if got := tick.Text(x); got != want {
			t.Errorf("Text(%d) is %q; it should be %q", x, got, want)
		}
	}
}

func TestP1_3Parse(t *testing.T) {
	cases := []struct {
		s    string
		want int64
		err  api.Errno
	}{
		{"0", 0, api.OK},
		{"7", 7, api.OK},
		{"42", 42, api.OK},
		{"100", 100, api.OK},
		{"1099511627775", top - 1, api.OK},
		{"1099511627776", top, api.OK},
		{"1099511627777", 0, api.ErrRange},
		{"9999999999999", 0, api.ErrRange},
		{"10995116277760", 0, api.ErrRange},
		{"109951162777600", 0, api.ErrRange},
		// Inf's own digits, and numbers that would come back from beyond 64 bits as 1 and as 0.
		{"4611686018427387904", 0, api.ErrRange},
		{"9223372036854775807", 0, api.ErrRange},
		{"9223372036854775808", 0, api.ErrRange},
		{"18446744073709551617", 0, api.ErrRange},
		{"18446744073709551616", 0, api.ErrRange},
		{strings.Repeat("9", 1000), 0, api.ErrRange},
		{"inf", inf, api.OK},
		{"", 0, api.ErrText},
		{"00", 0, api.ErrText},
		{"01", 0, api.ErrText},
		{"01099511627776", 0, api.ErrText},
		{"0" + strings.Repeat("9", 1000), 0, api.ErrText},
		{strings.Repeat("0", 20) + "1", 0, api.ErrText},
		{"-0", 0, api.ErrText},
		{"-1", 0, api.ErrText},
		{"-10995116277760", 0, api.ErrText},
		{"+1", 0, api.ErrText},
		{"+", 0, api.ErrText},
		{" 1", 0, api.ErrText},
		{"1 ", 0, api.ErrText},
		{"1\n", 0, api.ErrText},
		{"1_000", 0, api.ErrText},
		{"1.0", 0, api.ErrText},
		{"1e3", 0, api.ErrText},
		{"0x1f", 0, api.ErrText},
		{"3x", 0, api.ErrText},
		{"x3", 0, api.ErrText},
		{strings.Repeat("9", 1000) + "x", 0, api.ErrText},
		{strings.Repeat("9", 14) + "x", 0, api.ErrText},
		{strings.Repeat("9", 13) + "x", 0, api.ErrText},
		{strings.Repeat("9", 14) + "/", 0, api.ErrText},
		{strings.Repeat("9", 14) + ":", 0, api.ErrText},
		{strings.Repeat("9", 14) + "-1", 0, api.ErrText},
		{"Inf", 0, api.ErrText},
		{"INF", 0, api.ErrText},
		{"in", 0, api.ErrText},
		{"inf ", 0, api.ErrText},
		{"+inf", 0, api.ErrText},
		{"infinity", 0, api.ErrText},
		{"٣", 0, api.ErrText},
		{"１", 0, api.ErrText},
		{"\x00", 0, api.ErrText},
		{"1\xff", 0, api.ErrText},
	}
	for _, c := range cases {
		if x, e := tick.Parse(c.s); x != c.want || e != c.err {
			t.Errorf("Parse(%q) is %d, %d; it should be %d, %d", c.s, x, e, c.want, c.err)
		}
	}
}

func TestP1_4AddTurnedAbout(t *testing.T) {
	for _, a := range samples {
		for _, b := range samples {
			x, e := tick.Add(a, b)
			if y, f := tick.Add(b, a); x != y || e != f {
				t.Errorf("Add(%d, %d) is %d, %d; turned about %d, %d", a, b, x, e, y, f)
			}
		}
	}
}

// addAll adds three, two of them first, and gives up at the first error.
func addAll(first func() (int64, api.Errno), c int64) (int64, api.Errno) {
	x, e := first()
	if e != api.OK {
		return 0, e
	}
	return tick.Add(x, c)
}

func TestP1_4AddInWhateverBrackets(t *testing.T) {
	for _, a := range samples {
		for _, b := range samples {
			for _, c := range samples {
				x, e := addAll(func() (int64, api.Errno) { return tick.Add(a, b) }, c)
				y, f := addAll(func() (int64, api.Errno) { return tick.Add(b, c) }, a)
				// Beside Inf, two ticks in brackets may be too much by themselves, where in other brackets all is Inf.
				withInf := a == inf || b == inf || c == inf
				if withInf && (e != api.OK || f != api.OK) {
					continue
				}
				if x != y || e != f {
					t.Errorf("%d, %d, %d: %d, %d; in other brackets %d, %d", a, b, c, x, e, y, f)
				}
			}
		}
	}
}

func TestP1_4CountAndAt(t *testing.T) {
	places := []int64{0, 1, 2, 3, 10, top/10 - 1, top / 10, top - 1, top, top + 1, math.MaxInt64}
	for _, from := range samples {
		for _, every := range samples {
			for _, until := range samples {
				n := tick.Count(from, every, until)
				if !isFinite(from) || !isFinite(every) || !isFinite(until) {
					continue
				}
				for _, i := range append([]int64{n - 1, n, n + 1}, places...) {
					if i < 0 {
						continue
					}
					x, e := tick.At(from, every, i)
					if there := e == api.OK && x <= until; there != (i < n) {
						t.Errorf("Count(%d, %d, %d) is %d; At %d is %d, %d", from, every, until, n, i, x, e)
					}
				}
			}
		}
	}
}

func TestP1_4ParseOfText(t *testing.T) {
	for _, x := range samples {
		y, e := tick.Parse(tick.Text(x))
		if !isTick(x) {
			if y != 0 || e != api.ErrText {
				t.Errorf("%d is no tick, but came back as %d, %d", x, y, e)
			}
			continue
		}
		if y != x || e != api.OK {
			t.Errorf("%d came back as %d, %d", x, y, e)
		}
	}
	for x := range int64(2000) {
		if y, e := tick.Parse(tick.Text(x)); y != x || e != api.OK {
			t.Errorf("%d came back as %d, %d", x, y, e)
		}
	}
}
