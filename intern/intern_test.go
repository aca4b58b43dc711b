package intern_test

import (
	"fmt"
	"math"
	"regexp"
	"slices"
	"strconv"
	"strings"
	"testing"
	"unsafe"

	"timetable/api"
	"timetable/intern"
	"timetable/lex"
)

const (
	most    = 4096
	longest = 24
)

var reserved = []string{"horizon", "stop", "path", "door", "route", "trip", "hazard", "from", "every", "open", "closed", "of", "on", "until", "stay"}

// notNames are texts of each kind that is no name.
var notNames = append([]string{
	"",
	" ", "\t", "\n", "\x00", "#",
	"7", "0", "1a", "-", "-a", "_", "_a",
	"A", "Aa", "aB", "a.b", "a/b", "a:b",
	" a", "a ", "a\t", "a\n", "\na", "a#", "#a", "a b", "a\x00",
	"é", "aé", "a\xff", "\xff", "ａ",
	strings.Repeat("a", longest+1),
	strings.Repeat("z9", longest),
	strings.Repeat("a", api.MaxText+1),
}, reserved...)

// oddNames are names at the edges of what a name is.
var oddNames = []string{
	"a", "z", "aa", "a0", "a9", "a-", "a_", "a--", "a__", "a-_9", "z9-_",
	"stops", "sto", "stop1", "stop-", "stop_", "opened", "offset", "stays", "xstop",
	strings.Repeat("a", longest), "z" + strings.Repeat("-", longest-1), "horizon" + strings.Repeat("9", longest-7),
}

// rows are names in orders of all kinds.
func rows() [][]string {
	fallen := slices.Sorted(slices.Values(oddNames))
	slices.Reverse(fallen)
	return [][]string{
		nil,
		{"a"},
		{"b", "a"},
		{"a", "b"},
		{"c", "a", "b"},
		{"b1", "b", "b-", "b_", "a9", "b0"},
		oddNames,
		fallen,
		many(300),
	}
}

// many are so many names, in no order by bytes.
func many(n int) []string {
	var l []string
	for i := range n {
		l = append(l, "n"+strconv.Itoa(i*7919%100003))
	}
	return l
}

func short(s string) string {
	if len(s) > 60 {
		return strconv.Quote(s[:30]) + ".. of " + strconv.Itoa(len(s))
	}
	return strconv.Quote(s)
}

func of(t *testing.T, l ...string) *intern.Table {
	t.Helper()
	x, err := intern.New(l)
	if err != api.OK || x == nil {
		t.Fatalf("New of %d names is %v, %d", len(l), x, err)
	}
	return x
}

// holds checks by all that can be asked that a table has just these names, in this order.
func holds(t *testing.T, title string, x *intern.Table, names []string) {
	t.Helper()
	if x.Len() != len(names) || !slices.Equal(x.All(), names) {
		t.Fatalf("%s: Len %d, All %v; it should be %v", title, x.Len(), x.All(), names)
	}
	if want := slices.Sorted(slices.Values(names)); !slices.Equal(x.Sorted(), want) {
		t.Fatalf("%s: Sorted %v; it should be %v", title, x.Sorted(), want)
	}
	for i, name := range names {
		if n, is := x.Num(name); n != i || !is {
			t.Fatalf("%s: Num(%q) is %d, %v; it should be %d", title, name, n, is, i)
		}
		if s, is := x.Name(i); s != name || !is {
			t.Fatalf("%s: Name(%d) is %q, %v; it should be %q", title, i, s, is, name)
		}
	}
	n := len(names)
	for _, i := range []int{math.MinInt, -1 << 32, -most, -n - 1, -n - 2, -2, -1, n, n + 1, 2*n + 2, most, most + 1, 1 << 32, math.MaxInt} {
		if s, is := x.Name(i); 0 <= i && i < n != is || s != "" && !is {
			t.Fatalf("%s: Name(%d) is %q, %v of %d", title, i, s, is, n)
		}
	}
	for _, text := range slices.Concat(notNames, oddNames, beside(names)) {
		if n, is := x.Num(text); !slices.Contains(names, text) && (n != 0 || is) {
			t.Fatalf("%s: Num(%s) is %d, %v", title, short(text), n, is)
		}
	}
}

// beside are texts that are nearly one of the names.
func beside(names []string) []string {
	l := []string{"absent"}
	for _, name := range names[:min(len(names), 20)] {
		l = append(l, name[:len(name)-1], name[1:], name+"0", " "+name, name+" ", strings.ToUpper(name))
	}
	return l
}

// adds checks what Add answers, and that the table is as it should be then.
func adds(t *testing.T, x *intern.Table, name string, want int, wantErr api.Errno, then []string) {
	t.Helper()
	if n, err := x.Add(name); n != want || err != wantErr {
		t.Errorf("Add(%s) is %d, %d; it should be %d, %d", short(name), n, err, want, wantErr)
	}
	holds(t, "after Add("+short(name)+")", x, then)
}

func TestP7_1NewOfNames(t *testing.T) {
	for _, row := range rows() {
		holds(t, fmt.Sprintf("New of %d", len(row)), of(t, row...), row)
	}
	holds(t, "New of an empty row", of(t, []string{}...), nil)
}

func TestP7_1NewOfAsManyAsThereMayBe(t *testing.T) {
	for _, n := range []int{most - 1, most} {
		holds(t, strconv.Itoa(n), of(t, many(n)...), many(n))
	}
}

func TestP7_1NewRefuses(t *testing.T) {
	full := many(most)
	cases := []struct {
		name string
		row  []string
		err  api.Errno
	}{
		{"a reserved word", []string{"stop"}, api.ErrText},
		{"no byte", []string{""}, api.ErrText},
		{"no name at the end", []string{"a", "b", "7"}, api.ErrText},
		{"no name at first", []string{"A", "a", "b"}, api.ErrText},
		{"no name, twice", []string{"A", "A"}, api.ErrText},
		{"twice at once", []string{"a", "a"}, api.ErrThere},
		{"twice", []string{"a", "b", "a"}, api.ErrThere},
		{"twice the last one", []string{"a", "b", "b"}, api.ErrThere},
		{"no name, then twice", []string{"a", "open", "a"}, api.ErrText},
		{"twice, then no name", []string{"a", "a", "open"}, api.ErrThere},
		{"one too many", many(most + 1), api.ErrLong},
		{"two too many", many(most + 2), api.ErrLong},
		{"full, then no name", append(slices.Clone(full), "open"), api.ErrText},
		{"full, then the first one", append(slices.Clone(full), full[0]), api.ErrThere},
		{"full, then the last one", append(slices.Clone(full), full[most-1]), api.ErrThere},
		{"one too many, then no name", append(many(most+1), "open"), api.ErrLong},
		{"one too many, then twice", append(many(most+1), full[0]), api.ErrLong},
		{"no name, then one too many", append([]string{"open"}, many(most+1)...), api.ErrText},
		{"twice, then one too many", append([]string{full[0]}, many(most+1)...), api.ErrThere},
	}
	for _, c := range cases {
		was := slices.Clone(c.row)
		if x, err := intern.New(c.row); x != nil || err != c.err {
			t.Errorf("%s: New is %v, %d; it should be %d", c.name, x, err, c.err)
		}
		if !slices.Equal(c.row, was) {
			t.Errorf("%s: New changed the row", c.name)
		}
	}
}

func TestP7_1NewRefusesEachThatIsNoName(t *testing.T) {
	for _, text := range notNames {
		for _, row := range [][]string{{text}, {"a", text}, {text, "a"}, {"a", text, "b", "b"}} {
			if x, err := intern.New(row); x != nil || err != api.ErrText {
				t.Errorf("New with %s is %v, %d", short(text), x, err)
			}
		}
	}
}

// TestP7_1NewIsAddOneBehindTheOther holds New of drawn rows against Add.
func TestP7_1NewIsAddOneBehindTheOther(t *testing.T) {
	words := []string{"a", "b", "c", "d", "e", "f", "g", "on", "A", "h", "i", "j", "k"}
	seed := uint64(7)
	for range 5000 {
		var row []string
		for range draw(&seed) % 7 {
			row = append(row, words[draw(&seed)%uint64(len(words))])
		}
		one, want := of(t), api.OK
		for _, name := range row {
			if _, want = one.Add(name); want != api.OK {
				break
			}
		}
		x, err := intern.New(row)
		if err != want || (x == nil) != (want != api.OK) {
			t.Fatalf("New of %v is %v, %d; Add's first error is %d", row, x, err, want)
		}
		if want == api.OK && !slices.Equal(x.All(), one.All()) {
			t.Fatalf("New of %v has %v", row, x.All())
		}
	}
}

func draw(seed *uint64) uint64 {
	*seed = *seed*6364136223846793005 + 1442695040888963407
	return *seed >> 33
}

func TestP7_1Add(t *testing.T) {
	x := of(t)
	steps := []struct {
		name string
		want int
		err  api.Errno
		then []string
	}{
		{"open", 0, api.ErrText, nil},
		{"b", 0, api.OK, []string{"b"}},
		{"b", 0, api.ErrThere, []string{"b"}},
		{"a", 1, api.OK, []string{"b", "a"}},
		{"", 0, api.ErrText, []string{"b", "a"}},
		{"a", 0, api.ErrThere, []string{"b", "a"}},
		{"c", 2, api.OK, []string{"b", "a", "c"}},
		{"ab", 3, api.OK, []string{"b", "a", "c", "ab"}},
		{"b", 0, api.ErrThere, []string{"b", "a", "c", "ab"}},
		{"a b", 0, api.ErrText, []string{"b", "a", "c", "ab"}},
		{"a-b", 4, api.OK, []string{"b", "a", "c", "ab", "a-b"}},
		{"ab", 0, api.ErrThere, []string{"b", "a", "c", "ab", "a-b"}},
	}
	for _, s := range steps {
		adds(t, x, s.name, s.want, s.err, s.then)
	}
}

func TestP7_1AddOfNames(t *testing.T) {
	for _, row := range rows() {
		x := of(t)
		for i, name := range row {
			if n, err := x.Add(name); n != i || err != api.OK {
				t.Errorf("Add(%q) is %d, %d; it should be %d", name, n, err, i)
			}
		}
		holds(t, fmt.Sprintf("%d added", len(row)), x, row)
		for _, name := range row {
			if n, err := x.Add(name); n != 0 || err != api.ErrThere {
				t.Errorf("Add(%q) again is %d, %d", name, n, err)
			}
		}
		holds(t, fmt.Sprintf("%d added again", len(row)), x, row)
	}
}

func TestP7_1AddOfWhatIsNoName(t *testing.T) {
	for _, row := range [][]string{nil, {"a"}, {"b", "a", "c"}, many(most)} {
		x := of(t, row...)
		for _, text := range notNames {
			if n, err := x.Add(text); n != 0 || err != api.ErrText {
				t.Errorf("Add(%s) to %d is %d, %d", short(text), len(row), n, err)
			}
		}
		holds(t, fmt.Sprintf("%d, after what is no name", len(row)), x, row)
	}
}

// TestP7_1AddOfAllShortTexts holds Add against a pattern of what a name is.
func TestP7_1AddOfAllShortTexts(t *testing.T) {
	pattern := regexp.MustCompile(`\A[a-z][a-z0-9_-]*\z`)
	for i := range 1 << 16 {
		two := string([]byte{byte(i >> 8), byte(i)})
		for _, text := range []string{two, two[1:], "a" + two} {
			isName := pattern.MatchString(text) && !slices.Contains(reserved, text)
			x, err := intern.New([]string{text})
			if isName != (err == api.OK) || !isName && err != api.ErrText || isName != lex.Name(text) {
				t.Fatalf("New of %q is %d", text, err)
			}
			if isName && x.Len() != 1 {
				t.Fatalf("New of %q has %d", text, x.Len())
			}
		}
	}
}

func TestP7_1AddOfOneTooMany(t *testing.T) {
	all := many(most + 3)
	x := of(t, all[:most-2]...)
	adds(t, x, all[most-2], most-2, api.OK, all[:most-1])
	adds(t, x, all[most-1], most-1, api.OK, all[:most])
	for _, name := range all[most:] {
		adds(t, x, name, 0, api.ErrLong, all[:most])
	}
}

func TestP7_1WhichErrorComesFirst(t *testing.T) {
	all := many(most + 1)
	x := of(t, all[:most]...)
	// What is no name can't be there; it is refused as such of a full table, too.
	adds(t, x, "stop", 0, api.ErrText, all[:most])
	adds(t, x, "", 0, api.ErrText, all[:most])
	for _, i := range []int{0, 1, most / 2, most - 1} {
		adds(t, x, all[i], 0, api.ErrThere, all[:most])
	}
	adds(t, x, all[most], 0, api.ErrLong, all[:most])
}

func TestP7_1SortedIsByteByByte(t *testing.T) {
	rising := []string{"a", "a-", "a--", "a-0", "a-_", "a-a", "a0", "a00", "a10", "a2", "a9", "a_", "a_-", "aa", "ab", "b", "b-a", "b1", "ba", "z", "z9", "zz"}
	fallen := slices.Clone(rising)
	slices.Reverse(fallen)
	mixed := append(slices.Clone(rising[11:]), rising[:11]...)
	for _, row := range [][]string{rising, fallen, mixed} {
		x := of(t, row...)
		for range 20 { // however the map is gone through
			if got := x.Sorted(); !slices.Equal(got, rising) {
				t.Fatalf("Sorted of %v is %v", row, got)
			}
		}
		if !slices.Equal(x.All(), row) {
			t.Errorf("All is %v; it should be %v", x.All(), row)
		}
	}
}

func TestP7_1Clone(t *testing.T) {
	for _, row := range rows() {
		x := of(t, row...)
		c := x.Clone()
		if c == x {
			t.Fatal("a clone is the table itself")
		}
		holds(t, "a clone", c, row)
		holds(t, "whose clone was made", x, row)
		mine, other := append(slices.Clone(row), "mine"), append(slices.Clone(row), "other", "more")
		adds(t, c, "other", len(row), api.OK, other[:len(row)+1])
		holds(t, "whose clone was added to", x, row)
		adds(t, x, "mine", len(row), api.OK, mine)
		holds(t, "whose table was added to", c, other[:len(row)+1])
		adds(t, c, "more", len(row)+1, api.OK, other)
		holds(t, "whose clone was added to again", x, mine)
	}
}

func TestP7_1ClonesOfClones(t *testing.T) {
	x := of(t, "b", "a")
	one := x.Clone()
	two, three := one.Clone(), x.Clone()
	adds(t, one, "c", 2, api.OK, []string{"b", "a", "c"})
	adds(t, two, "d", 2, api.OK, []string{"b", "a", "d"})
	adds(t, three, "e", 2, api.OK, []string{"b", "a", "e"})
	adds(t, two, "c", 3, api.OK, []string{"b", "a", "d", "c"})
	adds(t, one, "c", 0, api.ErrThere, []string{"b", "a", "c"})
	adds(t, one.Clone(), "d", 3, api.OK, []string{"b", "a", "c", "d"})
	holds(t, "the first one", x, []string{"b", "a"})
	holds(t, "its clone", one, []string{"b", "a", "c"})
}

func TestP7_1CloneOfAFullTable(t *testing.T) {
	all := many(most + 1)
	c := of(t, all[:most]...).Clone()
	adds(t, c, all[most], 0, api.ErrLong, all[:most])
	adds(t, c, all[7], 0, api.ErrThere, all[:most])
	last := of(t, all[:most-1]...).Clone()
	adds(t, last, all[most], most-1, api.OK, append(slices.Clone(all[:most-1]), all[most]))
	adds(t, last, all[most-1], 0, api.ErrLong, append(slices.Clone(all[:most-1]), all[most]))
}

// scribble writes all over a list, its spare room too.
func scribble(l []string) {
	l = l[:cap(l)]
	for i := range l {
		l[i] = "scribbled"
	}
}

func TestWhatIsHandedInStays(t *testing.T) {
	for _, row := range rows() {
		room := append(slices.Clone(row), "spare", "room", "behind")
		was := slices.Clone(room)
		handed := room[:len(row)]
		x := of(t, handed...)
		x.Add("more")
		x.Clone().Add("other")
		if !slices.Equal(room, was) {
			t.Errorf("the row was %v and is %v", was, room)
		}
		scribble(room)
		holds(t, "whose row was written over", x, append(slices.Clone(row), "more"))
	}
}

func TestARowsSpareRoomIsNotRead(t *testing.T) {
	room := []string{"a", "b", "a", "open"}
	holds(t, "a row with spare room", of(t, room[:2]...), []string{"a", "b"})
}

// asText tells the bytes as a text that changes with them, so that it is seen whether they are looked at later.
func asText(b []byte) string {
	return unsafe.String(&b[0], len(b))
}

func TestATextThatIsHandedInIsNotKept(t *testing.T) {
	one, two := []byte("one"), []byte("two")
	x := of(t, asText(one))
	c := x.Clone()
	if n, err := x.Add(asText(two)); n != 1 || err != api.OK {
		t.Fatalf("Add is %d, %d", n, err)
	}
	copy(one, "xyz")
	copy(two, "xyz")
	holds(t, "whose texts were written over", x, []string{"one", "two"})
	holds(t, "the clone of one whose text was written over", c, []string{"one"})
}

func TestWhatIsAnsweredIsNewMemory(t *testing.T) {
	calls := map[string]func(*intern.Table) []string{"All": (*intern.Table).All, "Sorted": (*intern.Table).Sorted}
	for _, row := range append(rows(), many(33), many(65)) {
		for name, call := range calls {
			x := of(t, row...)
			c := x.Clone()
			one := call(x)
			was := slices.Clone(one)
			for _, other := range calls {
				scribble(other(x))
				scribble(other(c))
			}
			if !slices.Equal(one, was) {
				t.Errorf("%s of %v shares memory with another list: %v", name, row, one)
			}
			holds(t, "whose lists were written over", x, row)
			holds(t, "whose clone's lists were written over", c, row)
			x.Add("more")
			if !slices.Equal(one, was) {
				t.Errorf("%s of %v is %v after Add", name, row, one)
			}
			scribble(one)
			x.Add("most")
			holds(t, "whose list was written over, and added to", x, append(slices.Clone(row), "more", "most"))
		}
	}
}

func TestTablesAreApart(t *testing.T) {
	row := []string{"b", "a"}
	one, two := of(t, row...), of(t, row...)
	adds(t, one, "c", 2, api.OK, []string{"b", "a", "c"})
	adds(t, two, "d", 2, api.OK, []string{"b", "a", "d"})
	holds(t, "another one", one, []string{"b", "a", "c"})
	empty, other := of(t), of(t)
	adds(t, empty, "a", 0, api.OK, []string{"a"})
	holds(t, "another empty one", other, nil)
}

// TestP7_2NumAndNameAreEachOthers adds what is drawn, and holds all numbers against the order in which the names came.
func TestP7_2NumAndNameAreEachOthers(t *testing.T) {
	for run := range uint64(20) {
		x, seed := of(t), run
		var came []string
		for range 600 {
			name := "n" + strconv.Itoa(int(draw(&seed)%400))
			switch draw(&seed) % 8 {
			case 0:
				name = notNames[draw(&seed)%uint64(len(notNames))]
			case 1:
				scribble(x.All())
				scribble(x.Sorted())
			case 2:
				x.Clone().Add("n400")
			case 3:
				x = x.Clone()
			}
			want, wantErr := len(came), api.OK
			switch {
			case name[:min(len(name), 1)] != "n":
				want, wantErr = 0, api.ErrText
			case slices.Contains(came, name):
				want, wantErr = 0, api.ErrThere
			default:
				came = append(came, name)
			}
			if n, err := x.Add(name); n != want || err != wantErr {
				t.Fatalf("Add(%s) is %d, %d; it should be %d, %d", short(name), n, err, want, wantErr)
			}
			eachOthers(t, x, came)
		}
		holds(t, "drawn", x, came)
	}
}

// eachOthers checks that the number of each name's number is it, and has not changed.
func eachOthers(t *testing.T, x *intern.Table, came []string) {
	t.Helper()
	if x.Len() != len(came) {
		t.Fatalf("Len is %d; it should be %d", x.Len(), len(came))
	}
	for i := range x.Len() {
		name, is := x.Name(i)
		n, there := x.Num(name)
		if !is || !there || n != i || name != came[i] {
			t.Fatalf("Name(%d) is %q, %v, its Num %d, %v; it should be %q", i, name, is, n, there, came[i])
		}
	}
}

func TestP7_2ANumberStays(t *testing.T) {
	all := many(most + 1)
	x := of(t)
	for i, name := range all[:most] {
		if n, err := x.Add(name); n != i || err != api.OK {
			t.Fatalf("Add(%q) is %d, %d", name, n, err)
		}
		x.Add(name)
		x.Add("open")
		if i%64 == 0 {
			eachOthers(t, x, all[:i+1])
		}
	}
	x.Add(all[most])
	eachOthers(t, x, all[:most])
	eachOthers(t, x.Clone(), all[:most])
}

// nobodys are tables that nobody made, by name; one is the struct of one that was made, copied.
func nobodys(t *testing.T) map[string]*intern.Table {
	t.Helper()
	refused, _ := intern.New([]string{"a", "a"})
	var nothing *intern.Table
	over := of(t, "a")
	*over = *of(t, "a", "b")
	emptied := of(t, "a")
	*emptied = intern.Table{}
	return map[string]*intern.Table{
		"nil":          nil,
		"refused":      refused,
		"its clone":    nothing.Clone(),
		"zero":         {},
		"new":          new(intern.Table),
		"copied":       copied(of(t, "a", "b")),
		"copied over":  over,
		"written over": emptied,
	}
}

func copied(x *intern.Table) *intern.Table {
	c := *x
	return &c
}

func TestNobodyMadeIt(t *testing.T) {
	for title, x := range nobodys(t) {
		for range 2 { // asked again, as nothing that is told of it may make it a table
			for _, text := range slices.Concat([]string{"c", "a", "b"}, notNames) { // ErrNil comes ahead of all
				if n, err := x.Add(text); n != 0 || err != api.ErrNil {
					t.Errorf("%s: Add(%s) is %d, %d", title, short(text), n, err)
				}
				if n, is := x.Num(text); n != 0 || is {
					t.Errorf("%s: Num(%s) is %d, %v", title, short(text), n, is)
				}
			}
			for _, i := range []int{math.MinInt, -1, 0, 1, 2, math.MaxInt} {
				if s, is := x.Name(i); s != "" || is {
					t.Errorf("%s: Name(%d) is %q, %v", title, i, s, is)
				}
			}
			if x.Len() != 0 || len(x.All()) != 0 || len(x.Sorted()) != 0 || x.Clone() != nil {
				t.Errorf("%s: Len %d, All %v, Sorted %v, Clone %v", title, x.Len(), x.All(), x.Sorted(), x.Clone())
			}
		}
	}
}

func TestACopiedStructIsNoWayIn(t *testing.T) {
	x := of(t, "b", "a")
	c := copied(x)
	c.Add("c")
	scribble(c.All())
	holds(t, "whose struct was copied", x, []string{"b", "a"})
	adds(t, x, "d", 2, api.OK, []string{"b", "a", "d"})
}

func TestExamples(t *testing.T) {
	x := of(t, "b", "a")
	if n, is := x.Num("a"); n != 1 || !is {
		t.Errorf("Num(a) is %d, %v", n, is)
	}
	if got := x.Sorted(); !slices.Equal(got, []string{"a", "b"}) {
		t.Errorf("Sorted is %v", got)
	}
}
