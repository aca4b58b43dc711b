package lex_test

import (
	"math"
	"math/big"
	"regexp"
	"slices"
	"strconv"
	"strings"
	"testing"

	"timetable/api"
	"timetable/lex"
)

const (
	top       = int64(1) << 40
	longest   = 24
	textBytes = 1 << 16
)

var reserved = []string{"horizon", "stop", "path", "door", "route", "trip", "hazard", "from", "every", "open", "closed", "of", "on", "until", "stay"}

func word(text string, line, col int) api.Tok {
	return api.Tok{Kind: 1, Text: text, Line: line, Col: col}
}

func key(text string, line, col int) api.Tok {
	return api.Tok{Kind: 2, Text: text, Line: line, Col: col}
}

func number(num int64, line, col int) api.Tok {
	return api.Tok{Kind: 3, Text: strconv.FormatInt(num, 10), Num: num, Line: line, Col: col}
}

func end(line, col int) api.Tok {
	return api.Tok{Kind: 4, Line: line, Col: col}
}

func text(line, col int) api.Fault {
	return api.Fault{Err: api.ErrText, Line: line, Col: col}
}

func long(line, col int) api.Fault {
	return api.Fault{Err: api.ErrLong, Line: line, Col: col}
}

// short tells a text that may be long.
func short(s string) string {
	if len(s) > 80 {
		return strconv.Quote(s[:40]) + ".." + strconv.Quote(s[len(s)-40:]) + " of " + strconv.Itoa(len(s))
	}
	return strconv.Quote(s)
}

// tells checks that All tells just these tokens and no fault.
func tells(t *testing.T, s string, want ...api.Tok) {
	t.Helper()
	if l, f := lex.All(s); f != (api.Fault{}) || !slices.Equal(l, want) {
		t.Errorf("All of %s is %v, %v; it should be %v", short(s), l, f, want)
	}
}

// refuses checks that All tells just this fault and no token.
func refuses(t *testing.T, s string, want api.Fault) {
	t.Helper()
	if l, f := lex.All(s); f != want || len(l) != 0 {
		t.Errorf("All of %s is %v, %v; it should be %v", short(s), l, f, want)
	}
}

// plain tells what All should tell, line by line and by patterns.
func plain(s string) ([]api.Tok, api.Fault) {
	if len(s) > textBytes {
		return nil, long(1, 1)
	}
	var all []api.Tok
	for i, line := range strings.Split(s, "\n") {
		l, f := plainLine(line, i+1)
		if f.Err != api.OK {
			return nil, f
		}
		if len(l) > 0 {
			all = append(append(all, l...), end(i+1, len(line)+1))
		}
	}
	return all, api.Fault{}
}

var (
	blanksAhead = regexp.MustCompile(`^[ \t]+`)
	wordAhead   = regexp.MustCompile(`^[a-z][a-z0-9_-]*`)
	digitsAhead = regexp.MustCompile(`^[0-9]+`)
	badBehind   = regexp.MustCompile(`^[a-z_-]`)
)

func plainLine(line string, no int) ([]api.Tok, api.Fault) {
	told, _, _ := strings.Cut(line, "#")
	var l []api.Tok
	for rest := told; rest != ""; {
		col := len(told) - len(rest) + 1
		if b := blanksAhead.FindString(rest); b != "" {
			rest = rest[len(b):]
			continue
		}
		w, d := wordAhead.FindString(rest), digitsAhead.FindString(rest)
		switch {
		case len(w) > longest:
			return nil, long(no, col)
		case slices.Contains(reserved, w):
			l = append(l, key(w, no, col))
		case w != "":
			l = append(l, word(w, no, col))
		case d == "", len(d) > 1 && d[0] == '0':
			return nil, text(no, col)
		default:
			n, _ := new(big.Int).SetString(d, 10)
			if n.Cmp(big.NewInt(top)) > 0 {
				return nil, long(no, col)
			}
			if badBehind.MatchString(rest[len(d):]) {
				return nil, text(no, col+len(d))
			}
			l = append(l, number(n.Int64(), no, col))
		}
		rest = rest[len(w)+len(d):]
	}
	return l, api.Fault{}
}

// agrees checks All against the plain one, and tells the tokens.
func agrees(t *testing.T, s string) []api.Tok {
	t.Helper()
	l, f := lex.All(s)
	want, fault := plain(s)
	if f != fault || !slices.Equal(l, want) {
		t.Fatalf("All of %s is %v, %v; it should be %v, %v", short(s), l, f, want, fault)
	}
	return l
}

// draw tells one number after the other, always the same ones.
func draw(seed *uint64) uint64 {
	*seed ^= *seed << 13
	*seed ^= *seed >> 7
	*seed ^= *seed << 17
	return *seed
}

// good are pieces of texts, none of which is a fault when there is a blank behind it.
var good = []string{
	" ", "\t", "\n", " ", "\n", " # x", "#", "##\n", " \t ", "# A!\xff\x00 007\n",
	"a", "z", "stop", "stops", "sto", "on", "on-", "a-b_2", "a1", "x--", "y__9", "of", "until", "horizon", "stay",
	strings.Repeat("b", longest), "c" + strings.Repeat("9", longest-1),
	"0", "7", "10", "1099511627775", "1099511627776", "12345678901",
}

// bad are pieces that are faults, but in a remark or behind a word.
var bad = []string{
	"1099511627777", "007", "00", "99999999999999999999", "-", "_", "A", "é", "\r", ".", "\x00", "3x", "0-",
	strings.Repeat("d", longest+1), "007" + strings.Repeat("0", 30),
}

// drawn puts n pieces together, many of them with a blank behind.
func drawn(seed *uint64, n int, pieces []string) string {
	var s strings.Builder
	for range n {
		s.WriteString(pieces[draw(seed)%uint64(len(pieces))])
		if draw(seed)%5 > 0 {
			s.WriteByte(' ')
		}
	}
	return s.String()
}

func TestP4_1Tokens(t *testing.T) {
	tells(t, "stop a1 # x\n", key("stop", 1, 1), word("a1", 1, 6), end(1, 12))
	tells(t, "stop a1 # x", key("stop", 1, 1), word("a1", 1, 6), end(1, 12))
	tells(t, "horizon 30\nstop a\nroute r a 5 b stay 2 3 c\n",
		key("horizon", 1, 1), number(30, 1, 9), end(1, 11),
		key("stop", 2, 1), word("a", 2, 6), end(2, 7),
		key("route", 3, 1), word("r", 3, 7), word("a", 3, 9), number(5, 3, 11), word("b", 3, 13), key("stay", 3, 15), number(2, 3, 20), number(3, 3, 22), word("c", 3, 24), end(3, 25))
	tells(t, "delay t1 3 from 2 by 5", word("delay", 1, 1), word("t1", 1, 7), number(3, 1, 10), key("from", 1, 12), number(2, 1, 17), word("by", 1, 19), number(5, 1, 22), end(1, 23))
}

func TestP4_1TextsWithoutTokens(t *testing.T) {
	for _, s := range []string{"", " ", "\t", " \t \t", "\n", "\n\n\n", " \n\t\n", "#", "# x", "#\n", "# stop 007 A\n#\n", "  # x\n\n", "##", "\n#", strings.Repeat("\n", 1000)} {
		tells(t, s)
	}
}

func TestP4_1Places(t *testing.T) {
	tells(t, " a", word("a", 1, 2), end(1, 3))
	tells(t, "\ta", word("a", 1, 2), end(1, 3))
	tells(t, "\t \ta\t", word("a", 1, 4), end(1, 6))
	tells(t, "a \t b", word("a", 1, 1), word("b", 1, 5), end(1, 6))
	tells(t, "\na", word("a", 2, 1), end(2, 2))
	tells(t, "\n \n# x\n\n  a\n", word("a", 5, 3), end(5, 4))
	tells(t, "# x\na # y\n# z\nb\n", word("a", 2, 1), end(2, 6), word("b", 4, 1), end(4, 2))
	tells(t, "a\nb", word("a", 1, 1), end(1, 2), word("b", 2, 1), end(2, 2))
	tells(t, "a\n\n", word("a", 1, 1), end(1, 2))
	tells(t, "a\n  ", word("a", 1, 1), end(1, 2))
	tells(t, "a \n", word("a", 1, 1), end(1, 3))
	tells(t, "a \t", word("a", 1, 1), end(1, 4))
	// Places are in bytes, in a remark too.
	tells(t, "a # é\n", word("a", 1, 1), end(1, 7))
	tells(t, "a # é", word("a", 1, 1), end(1, 7))
	refuses(t, "# é\n\n  A", text(3, 3))
	refuses(t, "a # A\n a\t!", text(2, 4))
}

func TestP4_1EndsOfLines(t *testing.T) {
	tells(t, "7", number(7, 1, 1), end(1, 2))
	tells(t, "7\n", number(7, 1, 1), end(1, 2))
	tells(t, "a\n7", word("a", 1, 1), end(1, 2), number(7, 2, 1), end(2, 2))
	tells(t, "a\n7#", word("a", 1, 1), end(1, 2), number(7, 2, 1), end(2, 3))
	tells(t, "a\n#7", word("a", 1, 1), end(1, 2))
}

func TestP4_1Remarks(t *testing.T) {
	tells(t, "a#b", word("a", 1, 1), end(1, 4))
	tells(t, "a#b\n", word("a", 1, 1), end(1, 4))
	tells(t, "stop#stop\nstop", key("stop", 1, 1), end(1, 10), key("stop", 2, 1), end(2, 5))
	tells(t, "7#x", number(7, 1, 1), end(1, 4))
	tells(t, "0#-\n", number(0, 1, 1), end(1, 4))
	tells(t, "a # b # c\nd", word("a", 1, 1), end(1, 10), word("d", 2, 1), end(2, 2))
	tells(t, "#\na", word("a", 2, 1), end(2, 2))
	tells(t, "a #", word("a", 1, 1), end(1, 4))
	for b := range 256 {
		if b == '\n' {
			continue
		}
		in := string([]byte{'#', byte(b)})
		tells(t, in)
		tells(t, "a "+in+"\nb", word("a", 1, 1), end(1, 5), word("b", 2, 1), end(2, 2))
	}
}

func TestP4_1EachByte(t *testing.T) {
	for b := range 256 {
		c := byte(b)
		s := string([]byte{c})
		agrees(t, s)
		for _, ahead := range []string{"a", "stop", "7", "0", " ", "\n", "a ", "7 ", "a\n", strings.Repeat("a", longest), "1099511627776"} {
			for _, behind := range []string{"", "a", "7", " ", "\n", "#", "-", "\n!"} {
				agrees(t, ahead+s+behind)
			}
		}
		begins := 'a' <= c && c <= 'z' || '0' <= c && c <= '9' || strings.ContainsRune(" \t\n#", rune(c))
		if !begins {
			refuses(t, s, text(1, 1))
			refuses(t, "a "+s, text(1, 3))
			refuses(t, "a\n7\n "+s, text(3, 2))
		}
	}
}

func TestP4_1BytesThatNoTokenBeginsWith(t *testing.T) {
	for _, s := range []string{"A", "Z", "-", "_", "-1", "_a", "+1", "\r", "\v", "\f", "\x00", "\x7f", "\x80", "\xff", "é", "`", "{", "@", "[", "/", ":", "!", "\"", ";", ",", ".", "\u00a0", "٣", "\ufeffa"} {
		refuses(t, s, text(1, 1))
		refuses(t, "\n "+s, text(2, 2))
	}
	refuses(t, "aB", text(1, 2))
	refuses(t, "stopZ", text(1, 5))
	refuses(t, "a.b", text(1, 2))
	refuses(t, "é", text(1, 1))
	refuses(t, "caf\xc3\xa9 ", text(1, 4))
	refuses(t, "a\r\n", text(1, 2))
	refuses(t, "a 1,2", text(1, 4))
	refuses(t, "7A", text(1, 2))
	refuses(t, "7.5", text(1, 2))
	refuses(t, "7é", text(1, 2))
}

func TestP4_1Words(t *testing.T) {
	for _, s := range []string{"a", "z", "m", "a-", "a_", "a--", "a-_-_", "a0", "a007", "z9-9_9z", "a-b_2", "by", "delay", "inf", "e5", "x0f", "stop-", "on_", "on1", "abcdefghijklmnopqrstuvwx", "a23456789-123456789_1234"} {
		tells(t, s, word(s, 1, 1), end(1, len(s)+1))
		tells(t, s+" "+s+"\n", word(s, 1, 1), word(s, 1, len(s)+2), end(1, 2*len(s)+2))
	}
	for _, s := range []string{"abcdefghijklmnopqrstuvwxy", "a23456789-123456789_12345", strings.Repeat("a", 100), "a" + strings.Repeat("-", 24), "a" + strings.Repeat("0", 24)} {
		refuses(t, s, long(1, 1))
		refuses(t, "a\n  "+s+"\n", long(2, 3))
	}
	// No word goes on behind a blank, an end, a remark.
	half := strings.Repeat("a", 20)
	tells(t, half+" "+half, word(half, 1, 1), word(half, 1, 22), end(1, 42))
	tells(t, half+"\n"+half, word(half, 1, 1), end(1, 21), word(half, 2, 1), end(2, 21))
	tells(t, half+"#"+half, word(half, 1, 1), end(1, 42))
}

func TestP4_1ReservedWords(t *testing.T) {
	for _, s := range reserved {
		tells(t, s, key(s, 1, 1), end(1, len(s)+1))
		tells(t, "7 "+s+"#", number(7, 1, 1), key(s, 1, 3), end(1, len(s)+4))
		for _, w := range []string{s + "s", s + "-", s + "_", s + "0", s[:len(s)-1], "a" + s, s + s, s + "-" + s} {
			tells(t, w, word(w, 1, 1), end(1, len(w)+1))
		}
		refuses(t, strings.ToUpper(s), text(1, 1))
		refuses(t, s+"A", text(1, len(s)+1))
	}
}

func TestP4_1Numbers(t *testing.T) {
	for _, n := range []int64{0, 1, 7, 9, 10, 99, 100, 1000000, 4294967296, top - 1, top} {
		s := strconv.FormatInt(n, 10)
		tells(t, s, number(n, 1, 1), end(1, len(s)+1))
		tells(t, "\n a "+s+"\t"+s+"\n", word("a", 2, 2), number(n, 2, 4), number(n, 2, 5+len(s)), end(2, 5+2*len(s)))
	}
	for _, s := range []string{"1099511627777", "1099511627780", "9999999999999", "10995116277760", "4611686018427387904", "9223372036854775807", "9223372036854775808", "18446744073709551616", "18446744073709551617", strings.Repeat("9", 100), "1" + strings.Repeat("0", 60000)} {
		refuses(t, s, long(1, 1))
		refuses(t, "a "+s+" b", long(1, 3))
		refuses(t, "\n\t"+s+"\n", long(2, 2))
	}
}

func TestP4_1NeedlessNoughts(t *testing.T) {
	for _, s := range []string{"00", "01", "007", "000", "01099511627776", "0" + strings.Repeat("9", 100), strings.Repeat("0", 60000)} {
		refuses(t, s, text(1, 1))
		refuses(t, "a "+s+"\n", text(1, 3))
		refuses(t, "0\n0 "+s, text(2, 3))
	}
}

func TestP4_1BehindANumber(t *testing.T) {
	for _, ahead := range []string{"0", "3", "10", "1099511627776"} {
		for _, behind := range []string{"x", "a", "z", "-", "_", "-1", "_1", "e5", "stop", "xA", "--"} {
			refuses(t, ahead+behind, text(1, len(ahead)+1))
			refuses(t, "a\n "+ahead+behind+" ", text(2, len(ahead)+2))
		}
		for _, blank := range []string{" ", "\t"} {
			tells(t, ahead+blank+"x", number(value(t, ahead), 1, 1), word("x", 1, len(ahead)+2), end(1, len(ahead)+3))
			refuses(t, ahead+blank+"-", text(1, len(ahead)+2))
		}
		tells(t, ahead+"\nx", number(value(t, ahead), 1, 1), end(1, len(ahead)+1), word("x", 2, 1), end(2, 2))
		tells(t, ahead+"#x", number(value(t, ahead), 1, 1), end(1, len(ahead)+3))
	}
}

func value(t *testing.T, s string) int64 {
	t.Helper()
	n, err := strconv.ParseInt(s, 10, 64)
	if err != nil {
		t.Fatal(err)
	}
	return n
}

func TestP4_1TheFirstFaultIsTold(t *testing.T) {
	tooLong := strings.Repeat("a", longest+1)
	refuses(t, "A!", text(1, 1))
	refuses(t, "a !\nB", text(1, 3))
	refuses(t, "a\nB !", text(2, 1))
	refuses(t, "007 "+tooLong, text(1, 1))
	refuses(t, tooLong+" 007", long(1, 1))
	refuses(t, tooLong+"!", long(1, 1))
	refuses(t, "! "+tooLong, text(1, 1))
	refuses(t, "3x "+tooLong, text(1, 2))
	refuses(t, "1099511627777 3x", long(1, 1))
	refuses(t, "3x 1099511627777", text(1, 2))
	refuses(t, "a # !\n# 3x\n\n b 00 3x", text(4, 4))
	// Wrong at its first byte, and behind it, too.
	refuses(t, "007x", text(1, 1))
	refuses(t, "00-", text(1, 1))
	refuses(t, "1099511627777x", long(1, 1))
	refuses(t, "1099511627777_", long(1, 1))
	// Wrong in two ways at one place: a needless 0 comes ahead of what is too great.
	refuses(t, "01099511627777", text(1, 1))
	refuses(t, "099999999999999999999999", text(1, 1))
}

func TestP4_1LongTexts(t *testing.T) {
	texts := map[string]string{
		"blanks":     " ",
		"tabs":       "\t",
		"ends":       "\n",
		"remark":     "#",
		"remarks":    "#\n",
		"words":      "a ",
		"lines":      "a\n",
		"numbers":    "7 ",
		"long words": strings.Repeat("a", longest) + " ",
	}
	for name, s := range texts {
		most := strings.Repeat(s, textBytes)[:textBytes]
		if l := agrees(t, most); strings.TrimLeft(s, " \t\n#") != "" && len(l) == 0 {
			t.Errorf("%s: there are no tokens", name)
		}
		refuses(t, most+s[:1], long(1, 1))
		refuses(t, most+"\n", long(1, 1))
		refuses(t, strings.Repeat(s, 2*textBytes), long(1, 1))
		agrees(t, most[:textBytes-1])
	}
	blanks := strings.Repeat(" ", textBytes)
	tells(t, blanks[1:]+"a", word("a", 1, textBytes), end(1, textBytes+1))
	refuses(t, blanks[1:]+"!", text(1, textBytes))
	refuses(t, blanks+"a", long(1, 1))
	// How long a text is comes ahead of all else in it.
	refuses(t, "!"+blanks, long(1, 1))
	refuses(t, "!"+blanks[1:], text(1, 1))
	ends := strings.Repeat("\n", textBytes)
	tells(t, ends[1:]+"a", word("a", textBytes, 1), end(textBytes, 2))
	refuses(t, ends[1:]+"!", text(textBytes, 1))
}

func TestP4_1AllShortTexts(t *testing.T) {
	const bytes = "aZ07-# \n"
	level := []string{""}
	for range 6 {
		var longer []string
		for _, s := range level {
			agrees(t, s)
			for i := range len(bytes) {
				longer = append(longer, s+bytes[i:i+1])
			}
		}
		level = longer
	}
}

func TestP4_1DrawnTexts(t *testing.T) {
	seed := uint64(4)
	for i := range 30000 {
		agrees(t, drawn(&seed, i%12, slices.Concat(good, bad)))
		agrees(t, drawn(&seed, i%40, good))
	}
	for range 30000 {
		raw := make([]byte, draw(&seed)%12)
		for i := range raw {
			raw[i] = byte(draw(&seed) >> 20)
		}
		agrees(t, string(raw))
	}
}

func TestP4_1ATextIsAskedAgain(t *testing.T) {
	const s = "stop a # x\n7"
	one, _ := lex.All(s)
	two, _ := lex.All(s)
	if !slices.Equal(one, two) {
		t.Errorf("%v, then %v", one, two)
	}
	scribble(two)
	tells(t, s, key("stop", 1, 1), word("a", 1, 6), end(1, 11), number(7, 2, 1), end(2, 2))
	if one[0] != key("stop", 1, 1) {
		t.Error("two answers share memory")
	}
}

// scribble writes all over a list, its spare room too.
func scribble(l []api.Tok) {
	l = l[:cap(l)]
	for i := range l {
		l[i] = api.Tok{Kind: -7, Text: "scribble", Num: -7, Line: -7, Col: -7}
	}
}

func sameLines(a, b [][]api.Tok) bool {
	return slices.EqualFunc(a, b, func(x, y []api.Tok) bool { return slices.Equal(x, y) })
}

// odd are tokens that All would never tell.
var odd = []api.Tok{
	{},
	{Kind: 0, Text: "x"},
	{Kind: 1},
	{Kind: 1, Text: "A b\n#", Num: 3, Line: -1, Col: 9},
	{Kind: 2, Text: "none", Num: math.MinInt64},
	{Kind: 3},
	{Kind: 3, Text: "seven", Num: 8},
	{Kind: 3, Num: -1},
	{Kind: 3, Num: math.MinInt64},
	{Kind: 3, Text: "7", Num: math.MaxInt64},
	{Kind: 4, Text: "end", Num: 7},
	{Kind: 5, Text: "five", Num: 5},
	{Kind: -1, Text: "minus"},
	{Kind: math.MaxInt, Text: "most", Num: 1},
}

func TestP4_2Lines(t *testing.T) {
	a, b, c := word("a", 1, 1), number(2, 5, 5), key("stop", 9, 9)
	stop := end(1, 1)
	cases := []struct {
		l    []api.Tok
		want [][]api.Tok
	}{
		{nil, nil},
		{[]api.Tok{}, nil},
		{[]api.Tok{stop}, nil},
		{[]api.Tok{stop, stop, stop}, nil},
		{[]api.Tok{a}, [][]api.Tok{{a}}},
		{[]api.Tok{a, stop}, [][]api.Tok{{a}}},
		{[]api.Tok{stop, a}, [][]api.Tok{{a}}},
		{[]api.Tok{a, b, stop, c, stop}, [][]api.Tok{{a, b}, {c}}},
		{[]api.Tok{a, b, stop, c}, [][]api.Tok{{a, b}, {c}}},
		{[]api.Tok{a, stop, b, c, a}, [][]api.Tok{{a}, {b, c, a}}},
		{[]api.Tok{stop, stop, a, stop, stop, b, stop, stop}, [][]api.Tok{{a}, {b}}},
		{[]api.Tok{a, a, stop, a, a}, [][]api.Tok{{a, a}, {a, a}}},
		{odd, [][]api.Tok{odd[:10], odd[11:]}},
		// What has no token's place, or another line's, is of a line still.
		{[]api.Tok{{Kind: 1, Line: 1}, {Kind: 1, Line: 2}, {Kind: 4, Line: 3}, {Kind: 1, Line: 1}}, [][]api.Tok{{{Kind: 1, Line: 1}, {Kind: 1, Line: 2}}, {{Kind: 1, Line: 1}}}},
	}
	for _, x := range cases {
		if got := lex.Lines(x.l); !sameLines(got, x.want) {
			t.Errorf("Lines of %v is %v; it should be %v", x.l, got, x.want)
		}
	}
}

func TestP4_2LinesOfATextAreItsLines(t *testing.T) {
	seed := uint64(42)
	for i := range 2000 {
		s := drawn(&seed, i%30, good)
		l, f := lex.All(s)
		if f.Err != api.OK {
			continue
		}
		var want [][]api.Tok
		for no, line := range strings.Split(s, "\n") {
			if toks, _ := plainLine(line, no+1); len(toks) > 0 {
				want = append(want, toks)
			}
		}
		if got := lex.Lines(l); !sameLines(got, want) {
			t.Fatalf("Lines of %q is %v; it should be %v", s, got, want)
		}
	}
}

func TestP4_2LinesShareNothing(t *testing.T) {
	l, _ := lex.All("a b\nstop 7 c\n\nd")
	kept := slices.Clone(l)
	one, two := lex.Lines(l), lex.Lines(l)
	for i := range two {
		scribble(two[i])
		for j := i + 1; j < len(two); j++ {
			if !slices.Equal(two[j], one[j]) {
				t.Errorf("line %d was written over with line %d: %v", j, i, two[j])
			}
		}
	}
	if !slices.Equal(l, kept) {
		t.Errorf("what was handed in became %v", l)
	}
	scribble(l)
	if want := [][]api.Tok{kept[:2], kept[3:6], kept[7:8]}; !sameLines(one, want) {
		t.Errorf("Lines became %v", one)
	}
}

func TestP4_2Text(t *testing.T) {
	cases := []struct {
		l    []api.Tok
		want string
	}{
		{nil, ""},
		{[]api.Tok{}, ""},
		{[]api.Tok{{Kind: 1, Text: "a"}}, "a"},
		{[]api.Tok{{Kind: 1, Text: "a"}, {Kind: 4}}, "a\n"},
		{[]api.Tok{{Kind: 2, Text: "stop"}, {Kind: 1, Text: "a"}, {Kind: 3, Num: 7}, {Kind: 4}}, "stop a 7\n"},
		{[]api.Tok{{Kind: 1, Text: "a"}, {Kind: 4}, {Kind: 1, Text: "b"}}, "a\nb"},
		{[]api.Tok{{Kind: 4}}, "\n"},
		{[]api.Tok{{Kind: 4}, {Kind: 4}, {Kind: 1, Text: "b"}, {Kind: 4}, {Kind: 4}}, "\n\nb\n\n"},
		{[]api.Tok{{Kind: 4, Text: "end", Num: 7}, {Kind: 1, Text: "b"}}, "\nb"},
		{[]api.Tok{{Kind: 3}}, "0"},
		{[]api.Tok{{Kind: 3, Num: -1}}, "-1"},
		{[]api.Tok{{Kind: 3, Num: math.MinInt64}, {Kind: 3, Num: math.MaxInt64}}, "-9223372036854775808 9223372036854775807"},
		{[]api.Tok{{Kind: 3, Text: "007", Num: 7}, {Kind: 3, Text: "x", Num: api.Inf}}, "7 4611686018427387904"},
		{[]api.Tok{{Kind: 1, Text: "a", Num: 7}, {Kind: 2, Text: "b", Num: 8}}, "a b"},
		// Two without a text are two, still.
		{[]api.Tok{{Kind: 1}, {Kind: 1}}, " "},
		{[]api.Tok{{}, {Kind: 2}, {Kind: 4}, {Kind: 1}}, " \n"},
		{[]api.Tok{{Kind: 1}, {Kind: 1, Text: "a"}, {Kind: 1}}, " a "},
		{[]api.Tok{{Kind: 0, Text: "x"}, {Kind: 5, Text: "y", Num: 3}, {Kind: -1, Text: "z"}}, "x y z"},
		{[]api.Tok{{Kind: 1, Text: "A b\n#"}, {Kind: 1, Text: "\xff"}}, "A b\n# \xff"},
		{[]api.Tok{{Kind: 1, Text: "\n"}, {Kind: 1, Text: "a"}}, "\n a"},
		// Lines are what stands between ends, whatever the places say.
		{[]api.Tok{{Kind: 1, Text: "a", Line: 1}, {Kind: 1, Text: "b", Line: 2}}, "a b"},
		{odd, " x  A b\n# none 0 8 -1 -9223372036854775808 9223372036854775807\nfive minus most"},
	}
	for _, c := range cases {
		kept := slices.Clone(c.l)
		if got := lex.Text(c.l); got != c.want {
			t.Errorf("Text of %v is %q; it should be %q", c.l, got, c.want)
		}
		if !slices.Equal(c.l, kept) {
			t.Errorf("Text changed %v to %v", kept, c.l)
		}
	}
}

func TestP4_2TextOfMany(t *testing.T) {
	l := slices.Repeat([]api.Tok{{Kind: 1, Text: "ab"}, {Kind: 3, Num: 12}, {Kind: 4}}, 30000)
	if got := lex.Text(l); got != strings.Repeat("ab 12\n", 30000) {
		t.Errorf("Text is %s", short(got))
	}
}

func TestP4_2Like(t *testing.T) {
	l := []api.Tok{key("stop", 1, 1), number(7, 1, 6), end(1, 7), word("a", 2, 1)}
	changes := map[string]struct {
		change func(x *api.Tok)
		like   bool
	}{
		"nothing": {func(x *api.Tok) {}, true},
		"line":    {func(x *api.Tok) { x.Line += 3 }, true},
		"column":  {func(x *api.Tok) { x.Col = -4 }, true},
		"place":   {func(x *api.Tok) { x.Line, x.Col = 0, 0 }, true},
		"kind":    {func(x *api.Tok) { x.Kind += 10 }, false},
		"text":    {func(x *api.Tok) { x.Text += "x" }, false},
		"number":  {func(x *api.Tok) { x.Num++ }, false},
	}
	for name, c := range changes {
		for i := range l {
			other := slices.Clone(l)
			c.change(&other[i])
			kept := slices.Clone(other)
			if lex.Like(l, other) != c.like || lex.Like(other, l) != c.like {
				t.Errorf("another %s at %d: Like is %v", name, i, !c.like)
			}
			if !slices.Equal(other, kept) || l[0] != key("stop", 1, 1) || l[3] != word("a", 2, 1) {
				t.Errorf("another %s at %d: Like changed what was handed in", name, i)
			}
		}
	}
	for i := range l {
		without := slices.Delete(slices.Clone(l), i, i+1)
		if lex.Like(l, without) || lex.Like(without, l) || lex.Like(l, l[:i]) || lex.Like(l[:i], l) {
			t.Errorf("it is like one without the token %d", i)
		}
	}
	if lex.Like(l, []api.Tok{l[1], l[0], l[2], l[3]}) {
		t.Error("it is like one in another order")
	}
	if !lex.Like(l, l) || !lex.Like(nil, nil) || !lex.Like(nil, []api.Tok{}) || !lex.Like([]api.Tok{}, nil) || lex.Like(nil, l[2:3]) || lex.Like(l[2:3], nil) || lex.Like(nil, []api.Tok{{}}) {
		t.Error("none")
	}
	for i, x := range odd {
		for j, y := range odd {
			if got := lex.Like([]api.Tok{x}, []api.Tok{y}); got != (i == j) {
				t.Errorf("Like of %v and %v is %v", x, y, got)
			}
		}
	}
}

func TestP4_2SpareRoomIsLeftAlone(t *testing.T) {
	room := make([]api.Tok, 0, 9)
	room = append(room, word("a", 1, 1), end(1, 2), number(7, 2, 1))
	behind := room[:cap(room)]
	for i := len(room); i < len(behind); i++ {
		behind[i] = word("spare", i, i)
	}
	kept := slices.Clone(behind)
	lines := lex.Lines(room)
	if !sameLines(lines, [][]api.Tok{{word("a", 1, 1)}, {number(7, 2, 1)}}) || lex.Text(room) != "a\n7" || !lex.Like(room, kept[:3]) || lex.Like(room, kept) {
		t.Errorf("%v, %q", lines, lex.Text(room))
	}
	for _, line := range lines {
		scribble(line)
	}
	if !slices.Equal(behind, kept) {
		t.Errorf("it became %v", behind)
	}
}

func TestP4_2NameAndReserved(t *testing.T) {
	for _, s := range reserved {
		if lex.Name(s) || !lex.Reserved(s) {
			t.Errorf("%q is a name, or not reserved", s)
		}
		for _, w := range []string{s + "s", s + "-", s + "_", s + "1", s[:len(s)-1], "a" + s} {
			if !lex.Name(w) || lex.Reserved(w) {
				t.Errorf("%q is no name, or reserved", w)
			}
		}
		for _, w := range []string{strings.ToUpper(s), strings.ToUpper(s[:1]) + s[1:], s + " ", " " + s, s + "\n", s + " " + s, s + "#"} {
			if lex.Name(w) || lex.Reserved(w) {
				t.Errorf("%q is a name, or reserved", w)
			}
		}
	}
	for _, s := range []string{"a", "z", "a-b_2", "a1", "inf", "by", "delay", "cancel", "restore", "x----", strings.Repeat("a", longest), "a" + strings.Repeat("-", longest-1)} {
		if !lex.Name(s) || lex.Reserved(s) {
			t.Errorf("%q is no name, or reserved", s)
		}
	}
	for _, s := range []string{"", " ", "\n", "#", "7", "0", "007", "7a", "-", "-a", "_", "_a", "A", "aB", "a b", "a ", " a", "a\n", "a\t", "a#", "a.", "é", "aé", "a\x00", "\x00", "a\xff", "\xff", "a!b", strings.Repeat("a", longest+1), strings.Repeat("a", longest) + " ", strings.Repeat("a", longest) + "!", strings.Repeat("a", 1<<20)} {
		if lex.Name(s) || lex.Reserved(s) {
			t.Errorf("%s is a name, or reserved", short(s))
		}
	}
}

func TestP4_2ANameIsAWordThatAllTells(t *testing.T) {
	hold := func(s string) {
		l, f := lex.All(s)
		alone := f.Err == api.OK && len(l) == 2 && l[0].Text == s
		if got, want := lex.Name(s), alone && l[0].Kind == api.TokWord; got != want {
			t.Errorf("Name of %q is %v", s, got)
		}
		if got, want := lex.Reserved(s), alone && l[0].Kind == api.TokKey; got != want {
			t.Errorf("Reserved of %q is %v", s, got)
		}
	}
	for b := range 256 {
		one := string([]byte{byte(b)})
		for c := range 256 {
			hold(one + string([]byte{byte(c)}))
		}
		for _, s := range []string{one, "stop" + one, one + "stop", "a" + one + "b", strings.Repeat("a", longest-1) + one, strings.Repeat("a", longest) + one} {
			hold(s)
		}
	}
	for _, s := range slices.Concat(good, bad) {
		hold(s)
	}
}

// textAgain checks that All of Text of tokens that All told is like them.
func textAgain(t *testing.T, l []api.Tok) {
	t.Helper()
	s := lex.Text(l)
	again, f := lex.All(s)
	if f != (api.Fault{}) || !lex.Like(again, l) || lex.Text(again) != s {
		t.Fatalf("%s is read as %v, %v; it was made of %v", short(s), again, f, l)
	}
}

func TestP4_3TextIsReadAsItWas(t *testing.T) {
	for _, s := range []string{"", "\n\n", "# x", "a", "stop a1 # x\n\n  7\n", "a\tb  c\n\n0 # 1\nopen", strings.Repeat("a", longest) + " 1099511627776", strings.Repeat("a 7\n", 1<<14)} {
		l := agrees(t, s)
		textAgain(t, l)
	}
	seed := uint64(43)
	told := 0
	for i := range 20000 {
		if l, f := lex.All(drawn(&seed, i%25, good)); f.Err == api.OK {
			told += len(l)
			textAgain(t, l)
		}
	}
	if told < 1000 {
		t.Errorf("no more than %d tokens were told", told)
	}
}

// TestP4_3TheLastEndAtTheLimit: a last line without a line's end gets one in Text, whatever that makes of the text's length.
func TestP4_3TheLastEndAtTheLimit(t *testing.T) {
	most := strings.Repeat("a ", textBytes/2-1)
	for _, s := range []string{most + "b\n", most + "b", most + "b "} {
		textAgain(t, agrees(t, s))
	}
	l := agrees(t, most+"bc")
	if s := lex.Text(l); s != most+"bc\n" {
		t.Errorf("Text is %s", short(s))
	}
	refuses(t, lex.Text(l), long(1, 1))
}

func TestP4_3BlanksAndRemarksChangePlacesAlone(t *testing.T) {
	const s = "stop a1\nroute r a 5 b stay 2 3 c\n7\n"
	want := agrees(t, s)
	for name, other := range map[string]string{
		"more blanks":    strings.ReplaceAll(s, " ", " \t  "),
		"tabs":           strings.ReplaceAll(s, " ", "\t"),
		"blanks ahead":   " " + strings.ReplaceAll(s, "\n", "\n\t "),
		"blanks behind":  strings.ReplaceAll(s, "\n", " \t\n"),
		"remarks":        strings.ReplaceAll(s, "\n", "# x 007 A stop #\n"),
		"remarks apart":  strings.ReplaceAll(s, "\n", " #\n"),
		"lines of none":  strings.ReplaceAll(s, "\n", "\n\n\t\n"),
		"lines ahead":    "\n \n# stop\n" + s,
		"lines of words": strings.ReplaceAll(s, "\n", "\n# stop a 7\n"),
		"no end":         strings.TrimSuffix(s, "\n"),
		"a remark's end": strings.TrimSuffix(s, "\n") + " # x",
	} {
		got := agrees(t, other)
		if !lex.Like(got, want) {
			t.Errorf("%s: %v", name, got)
		}
		if lex.Text(got) != s {
			t.Errorf("%s: %q", name, lex.Text(got))
		}
	}
}

func TestP4_3BlanksAndRemarksAreDrawn(t *testing.T) {
	seed := uint64(44)
	for i := range 3000 {
		l, f := lex.All(drawn(&seed, i%20, good))
		if f.Err != api.OK {
			continue
		}
		var s strings.Builder
		for _, x := range l {
			if x.Kind == api.TokEnd {
				s.WriteString([]string{"\n", " \n", "# x\n", "\t#\n\n", " # A 007\n \n#\n"}[draw(&seed)%5])
			} else {
				s.WriteString(lex.Text([]api.Tok{x}) + []string{" ", "\t", "  ", " \t "}[draw(&seed)%4])
			}
		}
		if got := agrees(t, s.String()); !lex.Like(got, l) {
			t.Fatalf("%q is read as %v; it was made of %v", s.String(), got, l)
		}
	}
}

func TestExamples(t *testing.T) {
	tells(t, "stop a1 # x\n", key("stop", 1, 1), word("a1", 1, 6), end(1, 12))
	refuses(t, "007", text(1, 1))
	refuses(t, "3x", text(1, 2))
}
