package order_test

import (
	"cmp"
	"math"
	"slices"
	"testing"

	"timetable/api"
	"timetable/order"
)

const (
	least = int64(math.MinInt64)
	most  = int64(math.MaxInt64)
)

// rows are rows of numbers: nil, empty, of one thing, rising, falling, with the same numbers, and with the edges of what a number can be.
func rows() [][]int64 {
	return append([][]int64{
		nil,
		{},
		{7},
		{least},
		{most},
		{1, 2},
		{2, 1},
		{3, 3},
		{1, 3, 3, 5},
		{5, 3, 3, 1},
		{5, 2, 5},
		{2, 1, 2, 0},
		{1, 2, 3, 4, 5},
		{5, 4, 3, 2, 1},
		{1, 2, 3, 4, 3},
		{2, 1, 3, 4, 5},
		{1, 2, 2, 1, 1, 2, 3, 3},
		{-1, -3, 0, 2, -3},
		// A difference of these would go round.
		{most, least},
		{least, most},
		{most, least, 0, most, -1, least, 1},
		{least, least, -1, 0, 1, most, most},
	}, mixed()...)
}

// mixed are longer rows of many lengths, with few numbers and with many, in no order that could be told beforehand.
func mixed() [][]int64 {
	var l [][]int64
	seed := uint64(1)
	for n := range 70 {
		for _, kinds := range []uint64{2, 5, 1000} {
			row := make([]int64, n)
			for i := range row {
				seed = seed*6364136223846793005 + 1442695040888963407
				row[i] = int64(seed>>33%kinds) - int64(kinds/2)
			}
			l = append(l, row)
		}
	}
	return l
}

// short are all rows of up to five of the numbers from 0 to 3.
func short() [][]int64 {
	l := [][]int64{{}}
	for at := 0; len(l[at]) < 5; at++ {
		for x := range int64(4) {
			l = append(l, append(slices.Clone(l[at]), x))
		}
	}
	return l
}

// keysOf are things with the numbers of l, each with its place and what to add to it.
func keysOf(l []int64, more int) []api.Key {
	k := make([]api.Key, len(l))
	for i, x := range l {
		k[i] = api.Key{K: x, At: i + more}
	}
	return k
}

func byK(a, b api.Key) int { return cmp.Compare(a.K, b.K) }

// plainSorted puts in each thing behind all that are not above it.
func plainSorted(l []api.Key) []api.Key {
	var s []api.Key
	for _, k := range l {
		at := len(s)
		for at > 0 && s[at-1].K > k.K {
			at--
		}
		s = slices.Insert(s, at, k)
	}
	return s
}

func plainMerge(a, b []api.Key) []api.Key {
	var l []api.Key
	for len(a) > 0 && len(b) > 0 {
		if b[0].K < a[0].K {
			l, b = append(l, b[0]), b[1:]
		} else {
			l, a = append(l, a[0]), a[1:]
		}
	}
	return append(append(l, a...), b...)
}

func doesNotFall(l []int64) bool {
	for i, x := range l {
		for _, y := range l[:i] {
			if y > x {
				return false
			}
		}
	}
	return true
}

func plainPlace(l []int64, reached func(number int64) bool) int {
	if !doesNotFall(l) {
		return -1
	}
	for i, x := range l {
		if reached(x) {
			return i
		}
	}
	return len(l)
}

func k(number int64, at int) api.Key { return api.Key{K: number, At: at} }

func TestP2_1Sorted(t *testing.T) {
	cases := []struct{ l, want []api.Key }{
		{nil, nil},
		{[]api.Key{}, nil},
		{[]api.Key{k(4, 9)}, []api.Key{k(4, 9)}},
		{[]api.Key{k(2, 0), k(1, 1), k(2, 2)}, []api.Key{k(1, 1), k(2, 0), k(2, 2)}},
		{[]api.Key{k(1, 0), k(2, 1), k(3, 2)}, []api.Key{k(1, 0), k(2, 1), k(3, 2)}},
		{[]api.Key{k(3, 0), k(2, 1), k(1, 2)}, []api.Key{k(1, 2), k(2, 1), k(3, 0)}},
		// At is not looked at: what has the same K stays as it stood.
		{[]api.Key{k(5, 9), k(5, 3), k(5, 7), k(5, 3)}, []api.Key{k(5, 9), k(5, 3), k(5, 7), k(5, 3)}},
		{[]api.Key{k(5, 9), k(5, 3), k(4, 12), k(5, 7), k(4, 11)}, []api.Key{k(4, 12), k(4, 11), k(5, 9), k(5, 3), k(5, 7)}},
		{[]api.Key{k(most, 1), k(0, -4), k(least, 3), k(-1, math.MinInt)}, []api.Key{k(least, 3), k(-1, math.MinInt), k(0, -4), k(most, 1)}},
	}
	for _, c := range cases {
		if got := order.Sorted(c.l); !slices.Equal(got, c.want) {
			t.Errorf("Sorted(%v) is %v; it should be %v", c.l, got, c.want)
		}
	}
	for _, row := range slices.Concat(rows(), short()) {
		l := keysOf(row, 100)
		if got, want := order.Sorted(l), plainSorted(l); !slices.Equal(got, want) {
			t.Errorf("Sorted(%v) is %v; it should be %v", l, got, want)
		}
	}
}

func TestP2_1SortedOfManyThings(t *testing.T) {
	const n = 100_003
	l := make([]api.Key, n)
	for i := range l {
		l[i] = k(int64(i*7919%1009), i)
	}
	want := slices.Clone(l)
	slices.SortStableFunc(want, byK)
	if got := order.Sorted(l); !slices.Equal(got, want) {
		t.Error("Sorted of many things is another row")
	}
}

func TestP2_1Merge(t *testing.T) {
	cases := []struct{ a, b, want []api.Key }{
		{nil, nil, nil},
		{[]api.Key{}, nil, nil},
		{[]api.Key{k(1, 0)}, nil, []api.Key{k(1, 0)}},
		{nil, []api.Key{k(1, 0)}, []api.Key{k(1, 0)}},
		{[]api.Key{k(1, 0), k(3, 1)}, []api.Key{k(2, 2), k(4, 3)}, []api.Key{k(1, 0), k(2, 2), k(3, 1), k(4, 3)}},
		{[]api.Key{k(5, 0)}, []api.Key{k(1, 1), k(2, 2), k(6, 3)}, []api.Key{k(1, 1), k(2, 2), k(5, 0), k(6, 3)}},
		// Of the same K, all of a come first, whatever At is.
		{[]api.Key{k(2, 9), k(2, 8)}, []api.Key{k(2, 1), k(2, 0)}, []api.Key{k(2, 9), k(2, 8), k(2, 1), k(2, 0)}},
		// What is not sorted is taken as it stands.
		{[]api.Key{k(3, 0), k(1, 1)}, []api.Key{k(2, 2)}, []api.Key{k(2, 2), k(3, 0), k(1, 1)}},
		{[]api.Key{k(3, 0)}, []api.Key{k(9, 1), k(1, 2)}, []api.Key{k(3, 0), k(9, 1), k(1, 2)}},
		{[]api.Key{k(9, 0), k(1, 1), k(5, 2)}, []api.Key{k(8, 3), k(2, 4), k(9, 5), k(0, 6)}, []api.Key{k(8, 3), k(2, 4), k(9, 0), k(1, 1), k(5, 2), k(9, 5), k(0, 6)}},
		{[]api.Key{k(least, 0)}, []api.Key{k(most, 1)}, []api.Key{k(least, 0), k(most, 1)}},
		{[]api.Key{k(most, 0)}, []api.Key{k(least, 1)}, []api.Key{k(least, 1), k(most, 0)}},
	}
	for _, c := range cases {
		if got := order.Merge(c.a, c.b); !slices.Equal(got, c.want) {
			t.Errorf("Merge(%v, %v) is %v; it should be %v", c.a, c.b, got, c.want)
		}
	}
	all := rows()
	for _, ra := range all {
		for _, rb := range all {
			a, b := keysOf(ra, 100), keysOf(rb, 500)
			if got, want := order.Merge(a, b), plainMerge(a, b); !slices.Equal(got, want) {
				t.Errorf("Merge(%v, %v) is %v; it should be %v", a, b, got, want)
			}
		}
	}
}

func TestP2_1MergeOfARowWithItself(t *testing.T) {
	l := []api.Key{k(1, 0), k(3, 1), k(2, 2)}
	want := []api.Key{k(1, 0), k(1, 0), k(3, 1), k(2, 2), k(3, 1), k(2, 2)}
	if got := order.Merge(l, l); !slices.Equal(got, want) {
		t.Errorf("Merge of %v with itself is %v; it should be %v", l, got, want)
	}
}

func TestP2_1Perm(t *testing.T) {
	cases := []struct {
		l    []int64
		want []int
	}{
		{nil, nil},
		{[]int64{}, nil},
		{[]int64{7}, []int{0}},
		{[]int64{5, 2, 5}, []int{1, 0, 2}},
		{[]int64{4, 4, 4}, []int{0, 1, 2}},
		{[]int64{1, 2, 3}, []int{0, 1, 2}},
		{[]int64{3, 2, 1}, []int{2, 1, 0}},
		{[]int64{30, 10, 20}, []int{1, 2, 0}},
		{[]int64{20, 30, 10}, []int{2, 0, 1}},
		{[]int64{2, 1, 2, 1, 2}, []int{1, 3, 0, 2, 4}},
		{[]int64{most, 0, least}, []int{2, 1, 0}},
	}
	for _, c := range cases {
		if got := order.Perm(c.l); !slices.Equal(got, c.want) {
			t.Errorf("Perm(%v) is %v; it should be %v", c.l, got, c.want)
		}
	}
	for _, row := range slices.Concat(rows(), short()) {
		var want []int
		for _, thing := range plainSorted(keysOf(row, 0)) {
			want = append(want, thing.At)
		}
		if got := order.Perm(row); !slices.Equal(got, want) {
			t.Errorf("Perm(%v) is %v; it should be %v", row, got, want)
		}
	}
}

func TestP2_2Rising(t *testing.T) {
	cases := []struct {
		l    []int64
		want bool
	}{
		{nil, true},
		{[]int64{}, true},
		{[]int64{7}, true},
		{[]int64{least}, true},
		{[]int64{1, 2}, true},
		{[]int64{2, 2}, false},
		{[]int64{2, 1}, false},
		{[]int64{1, 2, 3}, true},
		{[]int64{1, 1, 2}, false},
		{[]int64{1, 2, 2}, false},
		{[]int64{2, 1, 3}, false},
		{[]int64{1, 3, 2}, false},
		{[]int64{1, 3, 3, 5}, false},
		{[]int64{least, -1, 0, 1, most}, true},
		{[]int64{most, least}, false},
	}
	for _, c := range cases {
		if got := order.Rising(c.l); got != c.want {
			t.Errorf("Rising(%v) is %v", c.l, got)
		}
	}
	for _, row := range slices.Concat(rows(), short()) {
		want := true
		for i := range row {
			want = want && (i == 0 || row[i] > row[i-1])
		}
		if got := order.Rising(row); got != want {
			t.Errorf("Rising(%v) is %v", row, got)
		}
	}
}

func TestP2_2LowerAndUpper(t *testing.T) {
	cases := []struct {
		l            []int64
		x            int64
		lower, upper int
	}{
		{nil, 3, 0, 0},
		{[]int64{}, 3, 0, 0},
		{nil, least, 0, 0},
		{nil, most, 0, 0},
		{[]int64{3}, 2, 0, 0},
		{[]int64{3}, 3, 0, 1},
		{[]int64{3}, 4, 1, 1},
		{[]int64{1, 3, 3, 5}, 3, 1, 3},
		{[]int64{1, 3, 3, 5}, 0, 0, 0},
		{[]int64{1, 3, 3, 5}, 1, 0, 1},
		{[]int64{1, 3, 3, 5}, 2, 1, 1},
		{[]int64{1, 3, 3, 5}, 4, 3, 3},
		{[]int64{1, 3, 3, 5}, 5, 3, 4},
		{[]int64{1, 3, 3, 5}, 9, 4, 4},
		{[]int64{4, 4, 4, 4, 4}, 4, 0, 5},
		{[]int64{4, 4, 4, 4, 4}, 3, 0, 0},
		{[]int64{4, 4, 4, 4, 4}, 5, 5, 5},
		// A row that falls somewhere, at its beginning, in it, at its end.
		{[]int64{2, 1}, 0, -1, -1},
		{[]int64{2, 1}, 9, -1, -1},
		{[]int64{2, 1, 3, 4, 5}, 4, -1, -1},
		{[]int64{1, 2, 5, 4, 9}, 1, -1, -1},
		{[]int64{1, 2, 3, 4, 3}, 1, -1, -1},
		{[]int64{most, least}, 0, -1, -1},
		{[]int64{least, 0, most}, least, 0, 1},
		{[]int64{least, 0, most}, most, 2, 3},
		{[]int64{least, 0, most}, 1, 2, 2},
		{[]int64{0}, least, 0, 0},
		{[]int64{0}, most, 1, 1},
	}
	for _, c := range cases {
		if lower, upper := order.Lower(c.l, c.x), order.Upper(c.l, c.x); lower != c.lower || upper != c.upper {
			t.Errorf("Lower, Upper of %v, %d are %d, %d; they should be %d, %d", c.l, c.x, lower, upper, c.lower, c.upper)
		}
	}
}

// asked are numbers to look for in a row: each of it, what is beside it, and what is below all and above all.
func asked(row []int64) []int64 {
	l := []int64{least, -1, 0, 1, most}
	for _, x := range row {
		l = append(l, x-1, x, x+1)
	}
	return l
}

// both are rows as they come and as they are when they do not fall.
func both(l [][]int64) [][]int64 {
	var all [][]int64
	for _, row := range l {
		s := slices.Clone(row)
		slices.Sort(s)
		all = append(all, row, s)
	}
	return all
}

func TestP2_2LowerAndUpperByLooking(t *testing.T) {
	for _, row := range both(slices.Concat(rows(), short())) {
		for _, x := range asked(row) {
			lower := plainPlace(row, func(number int64) bool { return number >= x })
			upper := plainPlace(row, func(number int64) bool { return number > x })
			if got := order.Lower(row, x); got != lower {
				t.Errorf("Lower(%v, %d) is %d; it should be %d", row, x, got, lower)
			}
			if got := order.Upper(row, x); got != upper {
				t.Errorf("Upper(%v, %d) is %d; it should be %d", row, x, got, upper)
			}
		}
	}
}

func TestP2_2Uniq(t *testing.T) {
	cases := []struct{ l, want []int64 }{
		{nil, nil},
		{[]int64{}, nil},
		{[]int64{7}, []int64{7}},
		{[]int64{7, 7, 7}, []int64{7}},
		{[]int64{3, 1, 3}, []int64{1, 3}},
		{[]int64{1, 2, 3}, []int64{1, 2, 3}},
		{[]int64{3, 2, 1}, []int64{1, 2, 3}},
		{[]int64{1, 3, 3, 5}, []int64{1, 3, 5}},
		{[]int64{0, -1, 0, 1, -1}, []int64{-1, 0, 1}},
		{[]int64{most, least, most, 0, least}, []int64{least, 0, most}},
	}
	for _, c := range cases {
		if got := order.Uniq(c.l); !slices.Equal(got, c.want) {
			t.Errorf("Uniq(%v) is %v; it should be %v", c.l, got, c.want)
		}
	}
	for _, row := range slices.Concat(rows(), short()) {
		got := order.Uniq(row)
		if !order.Rising(got) {
			t.Errorf("Uniq(%v) is %v, which does not rise", row, got)
		}
		for _, x := range slices.Concat(row, got) {
			if slices.Contains(row, x) != slices.Contains(got, x) {
				t.Errorf("Uniq(%v) is %v: %d is in one alone", row, got, x)
			}
		}
	}
}

func TestP2_3SortedIsMergeOfTheSortedHalves(t *testing.T) {
	for _, row := range slices.Concat(rows(), short()) {
		l := keysOf(row, 100)
		// An odd thing out may go to either half.
		for _, half := range []int{len(l) / 2, (len(l) + 1) / 2} {
			got, want := order.Merge(order.Sorted(l[:half]), order.Sorted(l[half:])), order.Sorted(l)
			if !slices.Equal(got, want) {
				t.Errorf("%v: the merged halves are %v, all is %v", l, got, want)
			}
		}
	}
}

func TestP2_3EachKStaysAsItStood(t *testing.T) {
	ofK := func(l []api.Key, x int64) []api.Key {
		return slices.DeleteFunc(slices.Clone(l), func(thing api.Key) bool { return thing.K != x })
	}
	for _, row := range slices.Concat(rows(), short()) {
		l := keysOf(row, 100)
		slices.Reverse(l[len(l)/2:]) // so that At falls, too, among what has the same K
		got := order.Sorted(l)
		if len(got) != len(l) {
			t.Errorf("Sorted(%v) is %v", l, got)
		}
		for _, x := range row {
			if a, b := ofK(l, x), ofK(got, x); !slices.Equal(a, b) {
				t.Errorf("of K %d were %v, are %v", x, a, b)
			}
		}
	}
}

func TestP2_3BetweenLowerAndUpper(t *testing.T) {
	for _, row := range both(slices.Concat(rows(), short())) {
		for _, x := range asked(row) {
			lower, upper := order.Lower(row, x), order.Upper(row, x)
			if (lower == -1) != (upper == -1) {
				t.Errorf("Lower, Upper of %v, %d are %d, %d", row, x, lower, upper)
			}
			if lower == -1 {
				continue
			}
			for i, number := range row {
				if (lower <= i && i < upper) != (number == x) {
					t.Errorf("Lower, Upper of %v, %d are %d, %d: place %d", row, x, lower, upper, i)
				}
			}
		}
	}
}

// roomy is l with spare room behind it, in which something stands.
func roomy[T any](l []T, mark T) []T {
	r := make([]T, len(l)+3)
	copy(r, l)
	for i := len(l); i < len(r); i++ {
		r[i] = mark
	}
	return r[:len(l)]
}

// scribble writes all over a row, its spare room too.
func scribble[T any](l []T, mark T) {
	l = l[:cap(l)]
	for i := range l {
		l[i] = mark
	}
}

// holdApart checks that a call neither changes what is handed in, nor keeps it, nor hands out its memory, or that of another answer.
func holdApart[T, U comparable](t *testing.T, name string, given []T, mark T, ink U, call func([]T) []U) {
	t.Helper()
	l := roomy(given, mark)
	whole := slices.Clone(l[:cap(l)])
	one, two := call(l), call(l)
	if !slices.Equal(l[:cap(l)], whole) {
		t.Errorf("%s changed %v to %v", name, whole, l[:cap(l)])
	}
	want := slices.Clone(one)
	scribble(two, ink)
	if !slices.Equal(one, want) {
		t.Errorf("%s: two answers of %v share memory", name, given)
	}
	if !slices.Equal(l[:cap(l)], whole) {
		t.Errorf("%s: the answer of %v shares its memory", name, given)
	}
	scribble(l, mark)
	if !slices.Equal(one, want) {
		t.Errorf("%s: the answer of %v changes with it", name, given)
	}
	if three := call(roomy(given, mark)); !slices.Equal(three, want) {
		t.Errorf("%s of %v is %v, and was %v", name, given, three, want)
	}
}

func TestNothingHandedInIsChangedOrShared(t *testing.T) {
	for _, row := range rows() {
		for _, mark := range []int64{least, most} {
			ink, l := k(mark, -1), keysOf(row, 100)
			holdApart(t, "Sorted", l, ink, ink, order.Sorted)
			holdApart(t, "Merge with a row", l, ink, ink, func(a []api.Key) []api.Key { return order.Merge(a, []api.Key{k(2, 7)}) })
			holdApart(t, "Merge with nothing", l, ink, ink, func(a []api.Key) []api.Key { return order.Merge(a, nil) })
			holdApart(t, "Merge of a row", l, ink, ink, func(b []api.Key) []api.Key { return order.Merge([]api.Key{k(2, 7)}, b) })
			holdApart(t, "Merge of nothing", l, ink, ink, func(b []api.Key) []api.Key { return order.Merge(nil, b) })
			holdApart(t, "Perm", row, mark, -1, order.Perm)
			holdApart(t, "Uniq", row, mark, mark, order.Uniq)
			holdApart(t, "Rising", row, mark, false, func(l []int64) []bool { return []bool{order.Rising(l)} })
			holdApart(t, "Lower", row, mark, -9, func(l []int64) []int { return []int{order.Lower(l, 2)} })
			holdApart(t, "Upper", row, mark, -9, func(l []int64) []int { return []int{order.Upper(l, 2)} })
		}
	}
}

func TestNilAndEmptyAreOne(t *testing.T) {
	for _, l := range [][]int64{nil, {}, make([]int64, 0, 4)} {
		keys := make([]api.Key, 0, cap(l))
		if n := len(order.Sorted(keys)) + len(order.Merge(keys, nil)) + len(order.Perm(l)) + len(order.Uniq(l)); n != 0 {
			t.Errorf("of nothing there came %d things", n)
		}
		if !order.Rising(l) || order.Lower(l, 1) != 0 || order.Upper(l, 1) != 0 {
			t.Error("a row of nothing rises, and each place is 0")
		}
	}
}
