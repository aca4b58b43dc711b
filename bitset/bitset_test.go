package bitset_test

import (
	"fmt"
	"math"
	"slices"
	"testing"

	"timetable/api"
	"timetable/bitset"
)

// widths are at and beside 64 and its multiples, and the least ones.
var widths = []int{0, 1, 2, 63, 64, 65, 70, 127, 128, 129, 191, 192, 193, 300}

// outside are numbers that no set of the width may have.
func outside(width int) []int {
	return []int{math.MinInt, -api.MaxBits, -65, -64, -63, -2, -1, width, width + 1, width + 63, width + 64, width + 128, api.MaxBits, api.MaxBits + 1, math.MaxInt - 63, math.MaxInt}
}

// asked are all numbers of the width, and what is beside and far beyond them.
func asked(width int) []int {
	l := outside(width)
	for i := range width {
		l = append(l, i)
	}
	return l
}

// of makes a set of the width with the numbers.
func of(t *testing.T, width int, numbers ...int) *bitset.Set {
	t.Helper()
	s, err := bitset.New(width)
	if err != api.OK || s == nil {
		t.Fatalf("New(%d) is %v, %d", width, s, err)
	}
	for _, i := range numbers {
		if _, err := s.Put(i); err != api.OK {
			t.Fatalf("width %d: Put(%d) is %d", width, i, err)
		}
	}
	return s
}

// holds checks by all that can be asked that a set has the width and just the numbers, which rise.
func holds(t *testing.T, name string, s *bitset.Set, width int, numbers []int) {
	t.Helper()
	if s.Width() != width || s.Count() != len(numbers) || !slices.Equal(s.List(), numbers) {
		t.Errorf("%s: width %d, count %d, %v; it should be %d, %d, %v", name, s.Width(), s.Count(), s.List(), width, len(numbers), numbers)
	}
	for _, i := range asked(width) {
		place, there := slices.BinarySearch(numbers, i)
		if s.Has(i) != there {
			t.Errorf("%s: Has(%d) is %v of %v", name, i, s.Has(i), numbers)
		}
		next := -1
		if place < len(numbers) {
			next = numbers[place]
		}
		if got := s.Next(i); got != next {
			t.Errorf("%s: Next(%d) is %d of %v; it should be %d", name, i, got, numbers, next)
		}
	}
}

// rows are rising rows of numbers below the width: none, each alone at the edges of words, all, every second one, all but one, and some in no order that could be told beforehand.
func rows(width int) [][]int {
	var alone, all, even, holed []int
	for i := range width {
		all = append(all, i)
		if i%2 == 0 {
			even = append(even, i)
		}
		if i != width/2 {
			holed = append(holed, i)
		}
		if i%64 < 2 || i%64 > 61 || i == width-1 {
			alone = append(alone, i)
		}
	}
	l := [][]int{nil, all, even, holed, alone}
	for _, i := range alone {
		l = append(l, []int{i})
	}
	seed := uint64(width + 1)
	for _, share := range []uint64{2, 9, 60} {
		var row []int
		for i := range width {
			if draw(&seed)%share == 0 {
				row = append(row, i)
			}
		}
		l = append(l, row)
	}
	return l
}

func draw(seed *uint64) uint64 {
	*seed = *seed*6364136223846793005 + 1442695040888963407
	return *seed >> 33
}

// nobodys are sets that nobody made, by name; one is the struct of one that was made, copied.
func nobodys(t *testing.T) map[string]*bitset.Set {
	t.Helper()
	refused, _ := bitset.New(-1)
	var nothing *bitset.Set
	return map[string]*bitset.Set{
		"nil":       nil,
		"refused":   refused,
		"its clone": nothing.Clone(),
		"zero":      {},
		"new":       new(bitset.Set),
		"copied":    copied(of(t, 70, 3, 69)),
	}
}

func copied(s *bitset.Set) *bitset.Set {
	c := *s
	return &c
}

func TestP3_1New(t *testing.T) {
	cases := []struct {
		n   int
		err api.Errno
	}{
		{math.MinInt, api.ErrArg},
		{-api.MaxBits, api.ErrArg},
		{-64, api.ErrArg},
		{-1, api.ErrArg},
		{0, api.OK},
		{1, api.OK},
		{63, api.OK},
		{64, api.OK},
		{65, api.OK},
		{api.MaxBits - 1, api.OK},
		{api.MaxBits, api.OK},
		{api.MaxBits + 1, api.ErrArg},
		{2 * api.MaxBits, api.ErrArg},
		{math.MaxInt - 62, api.ErrArg},
		{math.MaxInt, api.ErrArg},
	}
	for _, c := range cases {
		s, err := bitset.New(c.n)
		if err != c.err || (s == nil) != (err != api.OK) {
			t.Errorf("New(%d) is %v, %d; it should be %d", c.n, s, err, c.err)
		}
		if err == api.OK && (s.Width() != c.n || s.Count() != 0 || s.Next(0) != -1 || len(s.List()) != 0) {
			t.Errorf("New(%d): width %d, count %d, next %d", c.n, s.Width(), s.Count(), s.Next(0))
		}
	}
	for _, width := range widths {
		holds(t, fmt.Sprintf("New(%d)", width), of(t, width), width, nil)
	}
}

func TestP3_1NewSetsAreApart(t *testing.T) {
	a, b := of(t, 70), of(t, 70)
	a.Put(5)
	holds(t, "the one put into", a, 70, []int{5})
	holds(t, "the other one", b, 70, nil)
}

func TestP3_1PutAndTake(t *testing.T) {
	steps := []struct {
		put  bool
		i    int
		want bool
		then []int
	}{
		{false, 3, false, nil},
		{true, 3, true, []int{3}},
		{true, 69, true, []int{3, 69}},
		{true, 3, false, []int{3, 69}},
		{false, 4, false, []int{3, 69}},
		{true, 64, true, []int{3, 64, 69}},
		{true, 63, true, []int{3, 63, 64, 69}},
		{true, 0, true, []int{0, 3, 63, 64, 69}},
		{false, 64, true, []int{0, 3, 63, 69}},
		{false, 64, false, []int{0, 3, 63, 69}},
		{false, 0, true, []int{3, 63, 69}},
		{false, 69, true, []int{3, 63}},
		{true, 69, true, []int{3, 63, 69}},
		{false, 3, true, []int{63, 69}},
		{false, 63, true, []int{69}},
		{false, 69, true, nil},
		{false, 69, false, nil},
	}
	s := of(t, 70)
	for _, step := range steps {
		name, call := fmt.Sprintf("Take(%d)", step.i), s.Take
		if step.put {
			name, call = fmt.Sprintf("Put(%d)", step.i), s.Put
		}
		if got, err := call(step.i); got != step.want || err != api.OK {
			t.Errorf("%s is %v, %d; it should be %v", name, got, err, step.want)
		}
		holds(t, "after "+name, s, 70, step.then)
	}
}

func TestP3_1PutAndTakeEachNumber(t *testing.T) {
	for _, width := range widths {
		for i := range width {
			s := of(t, width)
			first, _ := s.Put(i)
			again, _ := s.Put(i)
			if !first || again || !slices.Equal(s.List(), []int{i}) {
				t.Errorf("width %d: Put(%d) is %v, then %v: %v", width, i, first, again, s.List())
			}
			first, _ = s.Take(i)
			again, _ = s.Take(i)
			if !first || again || s.Count() != 0 {
				t.Errorf("width %d: Take(%d) is %v, then %v: %v", width, i, first, again, s.List())
			}
		}
	}
}

func TestP3_1OutsideIsRefused(t *testing.T) {
	for _, width := range widths {
		for _, row := range rows(width)[:2] {
			s := of(t, width, row...)
			for _, i := range outside(width) {
				if got, err := s.Put(i); got || err != api.ErrArg {
					t.Errorf("width %d: Put(%d) is %v, %d", width, i, got, err)
				}
				if got, err := s.Take(i); got || err != api.ErrArg {
					t.Errorf("width %d: Take(%d) is %v, %d", width, i, got, err)
				}
			}
			holds(t, fmt.Sprintf("width %d, refused", width), s, width, row)
		}
	}
}

func TestP3_1WhatIsThere(t *testing.T) {
	for _, width := range widths {
		for _, row := range rows(width) {
			s := of(t, width, row...)
			holds(t, fmt.Sprintf("width %d", width), s, width, row)
			holds(t, fmt.Sprintf("width %d, asked again", width), s, width, row)
		}
	}
}

func TestP3_1Next(t *testing.T) {
	s := of(t, 200, 3, 63, 128)
	cases := []struct{ i, want int }{
		{math.MinInt, 3},
		{-64, 3},
		{-1, 3},
		{0, 3},
		{3, 3},
		{4, 63},
		{62, 63},
		{63, 63},
		{64, 128},
		{127, 128},
		{128, 128},
		{129, -1},
		{199, -1},
		{200, -1},
		{201, -1},
		{256, -1},
		{math.MaxInt, -1},
	}
	for _, c := range cases {
		if got := s.Next(c.i); got != c.want {
			t.Errorf("Next(%d) is %d; it should be %d", c.i, got, c.want)
		}
	}
}

func TestP3_1TheGreatestWidth(t *testing.T) {
	s := of(t, api.MaxBits, api.MaxBits-1, 0)
	if !slices.Equal(s.List(), []int{0, api.MaxBits - 1}) || s.Next(1) != api.MaxBits-1 || s.Next(api.MaxBits) != -1 {
		t.Errorf("%v, next %d", s.List(), s.Next(1))
	}
	for i := range api.MaxBits {
		s.Put(i)
	}
	l := s.List()
	if s.Count() != api.MaxBits || len(l) != api.MaxBits {
		t.Fatalf("count %d, %d in the list", s.Count(), len(l))
	}
	for i, number := range l {
		if number != i {
			t.Fatalf("at %d is %d", i, number)
		}
	}
	if s.Clear(); s.Count() != 0 || s.Next(0) != -1 {
		t.Errorf("after Clear: %d", s.Count())
	}
}

func TestP3_1Clear(t *testing.T) {
	for _, width := range widths {
		for _, row := range rows(width) {
			s := of(t, width, row...)
			clone, list := s.Clone(), s.List()
			s.Clear()
			holds(t, "after Clear", s, width, nil)
			holds(t, "the clone of what was cleared", clone, width, row)
			if !slices.Equal(list, row) {
				t.Errorf("the list is %v after Clear; it was %v", list, row)
			}
			for _, i := range row {
				if isNew, err := s.Put(i); !isNew || err != api.OK {
					t.Errorf("Put(%d) after Clear is %v, %d", i, isNew, err)
				}
			}
			holds(t, "put again after Clear", s, width, row)
		}
	}
}

// scribble writes all over a list, its spare room too.
func scribble(l []int) {
	l = l[:cap(l)]
	for i := range l {
		l[i] = -7
	}
}

func TestP3_1ListIsNewMemory(t *testing.T) {
	for _, width := range widths {
		for _, row := range rows(width) {
			s := of(t, width, row...)
			one, two := s.List(), s.List()
			scribble(two)
			if !slices.Equal(one, row) {
				t.Errorf("two lists of %v share memory", row)
			}
			holds(t, "whose list was written over", s, width, row)
			for _, i := range row {
				s.Take(i)
			}
			if !slices.Equal(one, row) {
				t.Errorf("the list of %v is %v when all are taken", row, one)
			}
		}
	}
}

// joins are the calls that join sets, and whether a number is there then.
func joins() map[string]struct {
	call  func(s, o *bitset.Set) api.Errno
	there func(mine, other bool) bool
} {
	return map[string]struct {
		call  func(s, o *bitset.Set) api.Errno
		there func(mine, other bool) bool
	}{
		"Or":    {(*bitset.Set).Or, func(mine, other bool) bool { return mine || other }},
		"And":   {(*bitset.Set).And, func(mine, other bool) bool { return mine && other }},
		"Minus": {(*bitset.Set).Minus, func(mine, other bool) bool { return mine && !other }},
	}
}

func TestP3_2OrAndMinus(t *testing.T) {
	cases := []struct {
		s, o, or, and, minus []int
	}{
		{nil, nil, nil, nil, nil},
		{[]int{3}, nil, []int{3}, nil, []int{3}},
		{nil, []int{3}, []int{3}, nil, nil},
		{[]int{3}, []int{3}, []int{3}, []int{3}, nil},
		{[]int{3, 69}, []int{3, 64}, []int{3, 64, 69}, []int{3}, []int{69}},
		{[]int{3, 64}, []int{3, 69}, []int{3, 64, 69}, []int{3}, []int{64}},
		{[]int{0, 63}, []int{64, 69}, []int{0, 63, 64, 69}, nil, []int{0, 63}},
		{[]int{64, 69}, []int{0, 63}, []int{0, 63, 64, 69}, nil, []int{64, 69}},
	}
	for _, c := range cases {
		for name, join := range joins() {
			want := map[string][]int{"Or": c.or, "And": c.and, "Minus": c.minus}[name]
			s, o := of(t, 70, c.s...), of(t, 70, c.o...)
			if err := join.call(s, o); err != api.OK {
				t.Errorf("%s of %v and %v is %d", name, c.s, c.o, err)
			}
			holds(t, fmt.Sprintf("%s of %v and %v", name, c.s, c.o), s, 70, want)
			holds(t, fmt.Sprintf("the other one, after %s of %v and %v", name, c.s, c.o), o, 70, c.o)
		}
	}
}

// eachNumber tells what a join of two rows of the width leaves, number by number.
func eachNumber(width int, a, b []int, there func(mine, other bool) bool) []int {
	var l []int
	for i := range width {
		if there(slices.Contains(a, i), slices.Contains(b, i)) {
			l = append(l, i)
		}
	}
	return l
}

func TestP3_2OrAndMinusByEachNumber(t *testing.T) {
	for _, width := range []int{0, 1, 2, 63, 64, 65, 128, 130} {
		for _, a := range rows(width) {
			for _, b := range rows(width) {
				for name, join := range joins() {
					s, o := of(t, width, a...), of(t, width, b...)
					want := eachNumber(width, a, b, join.there)
					if err := join.call(s, o); err != api.OK || s.Width() != width || s.Count() != len(want) || !slices.Equal(s.List(), want) {
						t.Errorf("%s of %v and %v is %v, %d; it should be %v", name, a, b, s.List(), err, want)
					}
					if o.Width() != width || !slices.Equal(o.List(), b) {
						t.Errorf("%s of %v and %v changed the other one to %v", name, a, b, o.List())
					}
				}
			}
		}
	}
}

func TestP3_2JoinedSetsStayApart(t *testing.T) {
	for name, join := range joins() {
		s, o := of(t, 70, 3, 69), of(t, 70, 3, 64)
		join.call(s, o)
		after := s.List()
		o.Put(1)
		o.Take(3)
		holds(t, name+": the other one is changed later", s, 70, after)
		o.Clear()
		s.Put(2)
		s.Put(64)
		holds(t, name+": the set is changed later", o, 70, nil)
	}
}

func TestP3_2JoinedWithItself(t *testing.T) {
	for _, width := range widths {
		for _, row := range rows(width) {
			for name, join := range joins() {
				s := of(t, width, row...)
				if err := join.call(s, s); err != api.OK {
					t.Errorf("%s of %v with itself is %d", name, row, err)
				}
				want := row
				if name == "Minus" {
					want = nil
				}
				holds(t, name+" of a set with itself", s, width, want)
			}
		}
	}
}

func TestP3_2AnotherWidthIsRefused(t *testing.T) {
	for _, a := range widths {
		for _, b := range append(slices.Clone(widths), api.MaxBits) {
			if a == b {
				continue
			}
			for name, join := range joins() {
				s, o := of(t, a, rows(a)[1]...), of(t, b)
				if b > 0 {
					o.Put(0)
				}
				numbers := o.List()
				if err := join.call(s, o); err != api.ErrArg {
					t.Errorf("%s of widths %d and %d is %d", name, a, b, err)
				}
				if s.Width() != a || !slices.Equal(s.List(), rows(a)[1]) || o.Width() != b || !slices.Equal(o.List(), numbers) {
					t.Errorf("%s of widths %d and %d changed a set: %v, %v", name, a, b, s.List(), o.List())
				}
			}
		}
	}
}

func TestP3_2Clone(t *testing.T) {
	for _, width := range widths {
		for _, row := range rows(width) {
			s := of(t, width, row...)
			c := s.Clone()
			holds(t, "a clone", c, width, row)
			if c == s || !c.Same(s) || !s.Same(c) {
				t.Errorf("a clone of %v is not the same", row)
			}
			if width == 0 {
				continue
			}
			c.Clear()
			c.Put(width - 1)
			holds(t, "whose clone was changed", s, width, row)
			holds(t, "the clone that was changed", c, width, []int{width - 1})
			again := c.Clone()
			c.Clear()
			holds(t, "a clone's clone", again, width, []int{width - 1})
		}
	}
}

func TestP3_2AClonesCloneOutlivesIt(t *testing.T) {
	s := of(t, 70, 3, 69)
	one := s.Clone()
	two := s.Clone()
	s.Or(of(t, 70, 1))
	one.And(of(t, 70, 3))
	two.Minus(of(t, 70, 3))
	holds(t, "the set", s, 70, []int{1, 3, 69})
	holds(t, "its clone", one, 70, []int{3})
	holds(t, "its other clone", two, 70, []int{69})
}

func TestP3_2Same(t *testing.T) {
	cases := []struct {
		a, b   int
		la, lb []int
		want   bool
	}{
		{0, 0, nil, nil, true},
		{1, 1, nil, nil, true},
		{0, 1, nil, nil, false},
		{63, 64, nil, nil, false},
		{64, 65, nil, nil, false},
		// As many words, but another width.
		{65, 70, nil, nil, false},
		{65, 70, []int{3, 64}, []int{3, 64}, false},
		{70, 70, []int{3, 69}, []int{69, 3}, true},
		{70, 70, []int{3, 69}, []int{3}, false},
		{70, 70, []int{3, 69}, []int{3, 68}, false},
		// As many numbers, the same bits in other words.
		{130, 130, []int{3}, []int{67}, false},
		{130, 130, []int{3, 129}, []int{2, 129}, false},
		{130, 130, []int{3, 129}, []int{3, 129}, true},
	}
	for _, c := range cases {
		a, b := of(t, c.a, c.la...), of(t, c.b, c.lb...)
		if a.Same(b) != c.want || b.Same(a) != c.want {
			t.Errorf("Same of %d %v and %d %v is %v, %v", c.a, c.la, c.b, c.lb, a.Same(b), b.Same(a))
		}
		if !a.Same(a) || !b.Same(b) {
			t.Errorf("%d %v or %d %v is not the same as itself", c.a, c.la, c.b, c.lb)
		}
		holds(t, "asked for Same", a, c.a, slices.Sorted(slices.Values(c.la)))
	}
}

func TestP3_2SameByNumbers(t *testing.T) {
	for _, width := range []int{1, 64, 65, 129} {
		for _, a := range rows(width) {
			for _, b := range rows(width) {
				if got := of(t, width, a...).Same(of(t, width, b...)); got != slices.Equal(a, b) {
					t.Errorf("Same of %v and %v is %v", a, b, got)
				}
			}
		}
	}
}

func TestP3_2WhatWasTakenLeavesNoTrace(t *testing.T) {
	a, b := of(t, 130, 3, 64, 129), of(t, 130, 64)
	if a.Same(b) {
		t.Error("unlike sets are the same")
	}
	a.Take(3)
	a.Take(129)
	if !a.Same(b) || !b.Same(a) {
		t.Error("sets of the same numbers are not the same")
	}
	a.Clear()
	b.Take(64)
	if !a.Same(b) || !a.Same(of(t, 130)) {
		t.Error("sets without numbers are not the same")
	}
}

func TestNobodyMadeIt(t *testing.T) {
	for name, s := range nobodys(t) {
		for range 2 { // asked again, as nothing that is told of it may make it a set
			for _, i := range []int{-1, 0, 3, 69, 70, math.MinInt, math.MaxInt} {
				if got, err := s.Put(i); got || err != api.ErrNil {
					t.Errorf("%s: Put(%d) is %v, %d", name, i, got, err)
				}
				if got, err := s.Take(i); got || err != api.ErrNil {
					t.Errorf("%s: Take(%d) is %v, %d", name, i, got, err)
				}
				if s.Has(i) || s.Next(i) != -1 {
					t.Errorf("%s: Has, Next(%d) are %v, %d", name, i, s.Has(i), s.Next(i))
				}
			}
			if s.Width() != 0 || s.Count() != 0 || len(s.List()) != 0 || s.Clone() != nil {
				t.Errorf("%s: width %d, count %d, %v, clone %v", name, s.Width(), s.Count(), s.List(), s.Clone())
			}
			s.Clear()
		}
	}
}

func TestNobodyMadeItOnEitherSide(t *testing.T) {
	for name, s := range nobodys(t) {
		for call, join := range joins() {
			for _, width := range []int{0, 1, 70} { // ErrNil comes ahead of another width
				o := of(t, width, rows(width)[1]...)
				if one, two := join.call(s, o), join.call(o, s); one != api.ErrNil || two != api.ErrNil {
					t.Errorf("%s: %s is %d, %d", name, call, one, two)
				}
				holds(t, call+" with one that nobody made", o, width, rows(width)[1])
				if s.Same(o) || o.Same(s) {
					t.Errorf("%s is the same as one of width %d", name, width)
				}
			}
			for other, o := range nobodys(t) {
				if err := join.call(s, o); err != api.ErrNil {
					t.Errorf("%s of %s and %s is %d", call, name, other, err)
				}
				if !s.Same(o) {
					t.Errorf("%s and %s are not the same", name, other)
				}
			}
			if err := join.call(s, s); err != api.ErrNil || !s.Same(s) {
				t.Errorf("%s of %s with itself is %d", call, name, err)
			}
		}
	}
}

func TestACopiedStructIsNoWayIn(t *testing.T) {
	s := of(t, 70, 3, 69)
	c := copied(s)
	c.Put(5)
	c.Take(3)
	c.Clear()
	c.Minus(s)
	holds(t, "whose struct was copied", s, 70, []int{3, 69})
	if s.Same(c) || c.Same(s) || c.Same(s.Clone()) {
		t.Error("a struct's copy is the same as the set")
	}
}

func TestP3_3WhatWasPutAndNotTakenSince(t *testing.T) {
	for _, width := range []int{1, 2, 64, 65, 130} {
		s, there, seed := of(t, width), map[int]bool{}, uint64(width)
		for step := range 3000 {
			i := int(draw(&seed)%uint64(width+2)) - 1 // now and then one that is refused
			inside := 0 <= i && i < width
			switch kind := draw(&seed) % 100; {
			case kind < 55:
				isNew, err := s.Put(i)
				if isNew != (inside && !there[i]) || (err == api.OK) != inside {
					t.Fatalf("width %d, step %d: Put(%d) is %v, %d", width, step, i, isNew, err)
				}
				there[i] = inside
			case kind < 99:
				was, err := s.Take(i)
				if was != there[i] || (err == api.OK) != inside {
					t.Fatalf("width %d, step %d: Take(%d) is %v, %d", width, step, i, was, err)
				}
				there[i] = false
			default:
				s.Clear()
				clear(there)
			}
			if step%50 == 0 {
				holds(t, fmt.Sprintf("width %d, step %d", width, step), s, width, risingOf(width, there))
			}
		}
	}
}

func risingOf(width int, there map[int]bool) []int {
	var l []int
	for i := range width {
		if there[i] {
			l = append(l, i)
		}
	}
	return l
}

func TestP3_3TheOrderOfPutsDoesNotMatter(t *testing.T) {
	for _, width := range widths {
		for _, row := range rows(width) {
			back := slices.Clone(row)
			slices.Reverse(back)
			a, b := of(t, width, row...), of(t, width, append(back, row...)...)
			if !a.Same(b) || !slices.Equal(a.List(), b.List()) {
				t.Errorf("%v put in another order is %v", row, b.List())
			}
		}
	}
}

func TestExamples(t *testing.T) {
	s := of(t, 70)
	for _, c := range []struct {
		i    int
		want bool
	}{{3, true}, {69, true}, {3, false}} {
		if got, err := s.Put(c.i); got != c.want || err != api.OK {
			t.Errorf("Put(%d) is %v, %d", c.i, got, err)
		}
	}
	if s.Next(4) != 69 || s.Count() != 2 {
		t.Errorf("Next(4) is %d, Count %d", s.Next(4), s.Count())
	}
}
