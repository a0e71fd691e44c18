package tabl

import (
	"bytes"
	"math"
	"slices"
	"strconv"
	"strings"
	"testing"

	"waybill/api"
)

// same is whether two tables are the same; a table without fields may be nil or empty (rule 1).
func same(a, b []api.Field) bool {
	return slices.EqualFunc(a, b, func(f, g api.Field) bool {
		return f.Name == g.Name && f.Kind == g.Kind && f.N == g.N && f.S == g.S && same(f.T, g.T)
	})
}

// copied is a table of its own memory.
func copied(l []api.Field) []api.Field {
	l = slices.Clone(l)
	for i := range l {
		l[i].T = copied(l[i].T)
	}
	return l
}

// table is what a test writes and reads.
type table struct {
	name string
	l    []api.Field
	b    string
}

// tables are all kinds of fields, with their octets.
func tables() []table {
	return []table{
		{"none", nil, ""},
		{"t 0", []api.Field{{Name: "a", Kind: 't'}}, "\x01at\x00"},
		{"t 1", []api.Field{{Name: "a", Kind: 't', N: 1}}, "\x01at\x01"},
		{"I 0", []api.Field{{Name: "a", Kind: 'I'}}, "\x01aI\x00\x00\x00\x00"},
		{"I each octet", []api.Field{{Name: "a", Kind: 'I', N: 0x01020304}}, "\x01aI\x01\x02\x03\x04"},
		{"I -1", []api.Field{{Name: "a", Kind: 'I', N: -1}}, "\x01aI\xff\xff\xff\xff"},
		{"I greatest", []api.Field{{Name: "a", Kind: 'I', N: math.MaxInt32}}, "\x01aI\x7f\xff\xff\xff"},
		{"I least", []api.Field{{Name: "a", Kind: 'I', N: math.MinInt32}}, "\x01aI\x80\x00\x00\x00"},
		{"l 0", []api.Field{{Name: "a", Kind: 'l'}}, "\x01al\x00\x00\x00\x00\x00\x00\x00\x00"},
		{"l each octet", []api.Field{{Name: "a", Kind: 'l', N: 0x0102030405060708}}, "\x01al\x01\x02\x03\x04\x05\x06\x07\x08"},
		{"l 2^31", []api.Field{{Name: "a", Kind: 'l', N: 1 << 31}}, "\x01al\x00\x00\x00\x00\x80\x00\x00\x00"},
		{"l -1", []api.Field{{Name: "a", Kind: 'l', N: -1}}, "\x01al\xff\xff\xff\xff\xff\xff\xff\xff"},
		{"l greatest", []api.Field{{Name: "a", Kind: 'l', N: math.MaxInt64}}, "\x01al\x7f\xff\xff\xff\xff\xff\xff\xff"},
		{"l least", []api.Field{{Name: "a", Kind: 'l', N: math.MinInt64}}, "\x01al\x80\x00\x00\x00\x00\x00\x00\x00"},
		{"S empty", []api.Field{{Name: "a", Kind: 'S'}}, "\x01aS\x00\x00\x00\x00"},
		{"S", []api.Field{{Name: "a", Kind: 'S', S: "x\xff\x00"}}, "\x01aS\x00\x00\x00\x03x\xff\x00"},
		{"S 258", []api.Field{{Name: "a", Kind: 'S', S: strings.Repeat("x", 258)}}, "\x01aS\x00\x00\x01\x02" + strings.Repeat("x", 258)},
		{"F empty", []api.Field{{Name: "a", Kind: 'F'}}, "\x01aF\x00\x00\x00\x00"},
		{"F", []api.Field{{Name: "a", Kind: 'F', T: []api.Field{{Name: "bc", Kind: 't', N: 1}, {Name: "d", Kind: 'V'}}}}, "\x01aF\x00\x00\x00\x08\x02bct\x01\x01dV"},
		{"V", []api.Field{{Name: "a", Kind: 'V'}}, "\x01aV"},
		{"V with an empty list", []api.Field{{Name: "a", Kind: 'V', T: []api.Field{}}}, "\x01aV"},
		{"a name of any bytes", []api.Field{{Name: "\xff\x00\n", Kind: 'V'}}, "\x03\xff\x00\nV"},
		{"a name of 127", []api.Field{{Name: strings.Repeat("n", 127), Kind: 'V'}}, "\x7f" + strings.Repeat("n", 127) + "V"},
		{"a name of 128", []api.Field{{Name: strings.Repeat("n", 128), Kind: 'V'}}, "\x80" + strings.Repeat("n", 128) + "V"},
		{"order is kept", []api.Field{{Name: "b", Kind: 'V'}, {Name: "a", Kind: 'I', N: 1}, {Name: "c", Kind: 't'}}, "\x01bV\x01aI\x00\x00\x00\x01\x01ct\x00"},
		{"names that are alike", []api.Field{{Name: "a", Kind: 'V'}, {Name: "A", Kind: 'V'}, {Name: "aa", Kind: 'V'}, {Name: "a\x00", Kind: 'V'}}, "\x01aV\x01AV\x02aaV\x02a\x00V"},
		{"a name in several tables", []api.Field{{Name: "a", Kind: 'F', T: []api.Field{{Name: "a", Kind: 'V'}}}, {Name: "b", Kind: 'F', T: []api.Field{{Name: "a", Kind: 'F'}}}}, "\x01aF\x00\x00\x00\x03\x01aV\x01bF\x00\x00\x00\x07\x01aF\x00\x00\x00\x00"},
		{"a row behind a table", []api.Field{{Name: "a", Kind: 'F', T: []api.Field{{Name: "b", Kind: 'S', S: "x"}}}, {Name: "c", Kind: 'V'}}, "\x01aF\x00\x00\x00\x08\x01bS\x00\x00\x00\x01x\x01cV"},
	}
}

// 2.1 and 2.2: each kind of field, written, read and found to be a table.
func TestTables(t *testing.T) {
	for _, c := range tables() {
		if !Ok(c.l) {
			t.Errorf("%s: not Ok", c.name)
		}
		if b, ok := Append(nil, c.l); string(b) != c.b || !ok {
			t.Errorf("%s: %q, %v", c.name, b, ok)
		}
		if b, ok := Append([]byte("ahead"), c.l); string(b) != "ahead"+c.b || !ok {
			t.Errorf("%s: %q, %v", c.name, b, ok)
		}
		if l, ok := Parse([]byte(c.b)); !same(l, c.l) || !ok {
			t.Errorf("%s: %v, %v", c.name, l, ok)
		}
	}
}

// 2.1: what no table is: a row of its own, one among others, and one in a table within.
func TestNoTables(t *testing.T) {
	for i, l := range [][]api.Field{
		{{Kind: 'V'}},
		{{Name: strings.Repeat("n", 129), Kind: 'V'}},
		{{Name: strings.Repeat("n", 256), Kind: 'V'}},
		{{Name: strings.Repeat("n", 257), Kind: 'V'}},
		{{Name: "a", Kind: 't', N: 2}},
		{{Name: "a", Kind: 't', N: -1}},
		{{Name: "a", Kind: 't', N: 256}},
		{{Name: "a", Kind: 't', N: 257}},
		{{Name: "a", Kind: 'I', N: math.MaxInt32 + 1}},
		{{Name: "a", Kind: 'I', N: math.MinInt32 - 1}},
		{{Name: "a", Kind: 'I', N: 1 << 32}},
		{{Name: "a", Kind: 'I', N: math.MaxInt64}},
		{{Name: "a", Kind: 'I', N: math.MinInt64}},
		{{Name: "a", Kind: 'V'}, {Name: "a", Kind: 'V'}},
		{{Name: "a", Kind: 'V'}, {Name: "b", Kind: 'V'}, {Name: "a", Kind: 't', N: 1}},
		{{Name: "a", Kind: 'F', T: []api.Field{{Name: "b", Kind: 'V'}}}, {Name: "a", Kind: 'V'}},
	} {
		for _, l := range [][]api.Field{
			l,
			append([]api.Field{{Name: "y", Kind: 'V'}}, l...),
			append(slices.Clone(l), api.Field{Name: "y", Kind: 'V'}),
			{{Name: "y", Kind: 'F', T: l}},
			{{Name: "y", Kind: 'F', T: l}, {Name: "z", Kind: 'V'}},
			{{Name: "z", Kind: 'V'}, {Name: "y", Kind: 'F', T: []api.Field{{Name: "y", Kind: 'F', T: l}}}},
		} {
			refused(t, i, l)
		}
	}
}

// refused tells if l is taken for a table.
func refused(t *testing.T, i int, l []api.Field) {
	t.Helper()
	if Ok(l) {
		t.Errorf("%d: Ok", i)
	}
	for _, ahead := range []string{"", "ahead"} {
		if b, ok := Append([]byte(ahead), l); string(b) != ahead || ok {
			t.Errorf("%d: %q, %v", i, b, ok)
		}
	}
}

// 2.1: fields that a Kind does not name are zero.
func TestFieldsOfOtherKinds(t *testing.T) {
	inner := []api.Field{{Name: "b", Kind: 'V'}}
	for i, c := range []struct {
		kind    byte
		n, s, t bool
	}{{'t', true, false, false}, {'I', true, false, false}, {'l', true, false, false}, {'S', false, true, false}, {'F', false, false, true}, {'V', false, false, false}} {
		for _, x := range []struct {
			f   api.Field
			may bool
		}{
			{api.Field{Name: "a", Kind: c.kind, N: 1}, c.n},
			{api.Field{Name: "a", Kind: c.kind, S: "x"}, c.s},
			{api.Field{Name: "a", Kind: c.kind, T: inner}, c.t},
		} {
			if Ok([]api.Field{x.f}) != x.may {
				t.Errorf("%c: %v", c.kind, x.f)
			}
			if !x.may {
				refused(t, i, []api.Field{x.f})
			}
		}
		refused(t, i, []api.Field{{Name: "a", Kind: c.kind, N: 1, S: "x", T: inner}})
	}
}

// 2.1: no octet but the six is a Kind.
func TestKinds(t *testing.T) {
	for k := range 256 {
		is := strings.IndexByte("tIlSFV", byte(k)) >= 0
		l := []api.Field{{Name: "a", Kind: byte(k)}}
		if Ok(l) != is {
			t.Errorf("%q: %v", rune(k), !is)
		}
		if !is {
			refused(t, k, l)
		}
		for n := range 10 {
			if l, ok := Parse(append([]byte{1, 'a', byte(k)}, make([]byte, n)...)); ok && !is || !ok && len(l) != 0 {
				t.Errorf("%q and %d noughts: %v, %v", rune(k), n, l, ok)
			}
		}
	}
}

// nested is a table n deep, itself one of them, with last in the deepest.
func nested(n int, last ...api.Field) []api.Field {
	l := last
	for range n - 1 {
		l = []api.Field{{Name: "n", Kind: 'F', T: l}}
	}
	return l
}

// deep is the octets of nested.
func deep(n int, last string) string {
	for range n - 1 {
		last = "\x01nF\x00\x00" + string([]byte{byte(len(last) >> 8), byte(len(last))}) + last
	}
	return last
}

// 2.1: tables within tables are at most 8 deep, empty ones too.
func TestDeep(t *testing.T) {
	for _, last := range []struct {
		l []api.Field
		b string
	}{{nil, ""}, {[]api.Field{{Name: "x", Kind: 'V'}}, "\x01xV"}} {
		for n := 1; n <= 20; n++ {
			l, b := nested(n, last.l...), deep(n, last.b)
			if Ok(l) != (n <= api.MaxDeep) {
				t.Errorf("Ok of %d deep", n)
			}
			back, ok := Parse([]byte(b))
			if n > api.MaxDeep {
				refused(t, n, l)
				if len(back) != 0 || ok {
					t.Errorf("Parse of %d deep: %v, %v", n, back, ok)
				}
				continue
			}
			if out, is := Append(nil, l); string(out) != b || !is || !same(back, l) || !ok {
				t.Errorf("%d deep: %q, %v, %v, %v", n, out, is, back, ok)
			}
		}
	}
	// A deep one beside others, and several as deep as may be.
	if l := append(nested(8), api.Field{Name: "o", Kind: 'F', T: nested(7)}, api.Field{Name: "p", Kind: 'F', T: nested(7)}); !Ok(l) {
		t.Error("three of 8")
	}
	refused(t, 0, append(nested(3), api.Field{Name: "o", Kind: 'F', T: nested(8)}))
}

// numbered is a table of n rows of one Kind, each with a name of three bytes.
func numbered(kind byte, n int) []api.Field {
	var l []api.Field
	for i := range n {
		l = append(l, api.Field{Name: strconv.Itoa(100 + i), Kind: kind})
	}
	return l
}

// 2.1: all of a table is at most 2,000 octets, whatever makes them so many: ahead is how many the rows have, and a text fills up the rest.
func TestSize(t *testing.T) {
	long := func(c string) api.Field { return api.Field{Name: strings.Repeat(c, 128), Kind: 'V'} }
	for _, c := range []struct {
		name  string
		l     []api.Field
		ahead int
	}{
		{"a text", nil, 0},
		{"rows of t", numbered('t', 300), 300 * 6},
		{"rows of I", numbered('I', 200), 200 * 9},
		{"rows of l", numbered('l', 150), 150 * 13},
		{"rows of S", numbered('S', 200), 200 * 9},
		{"rows of F", numbered('F', 200), 200 * 9},
		{"rows of V", numbered('V', 380), 380 * 5},
		{"names", []api.Field{long("a"), long("b"), long("c")}, 3 * 130},
		{"a table", nested(2, numbered('V', 300)...), 7 + 1500},
		{"deep ones", nested(8, numbered('t', 200)...), 7*7 + 1200},
		{"two tables", []api.Field{{Name: "m", Kind: 'F', T: numbered('V', 150)}, {Name: "n", Kind: 'F', T: numbered('V', 150)}}, 2 * (7 + 750)},
	} {
		fill := func(n int) []api.Field {
			return append(slices.Clone(c.l), api.Field{Name: "a", Kind: 'S', S: strings.Repeat("x", n-c.ahead-7)})
		}
		for _, n := range []int{1999, 2000} {
			b, ok := Append(nil, fill(n))
			if len(b) != n || !ok || !Ok(fill(n)) {
				t.Errorf("%s, %d: %d, %v", c.name, n, len(b), ok)
			}
			if l, ok := Parse(b); !same(l, fill(n)) || !ok {
				t.Errorf("%s, %d: %v", c.name, n, ok)
			}
			// What is ahead of the table doesn't count.
			if out, ok := Append(make([]byte, 5000), fill(n)); len(out) != 5000+n || !ok || !bytes.Equal(out[5000:], b) {
				t.Errorf("%s, %d: %d, %v", c.name, n, len(out), ok)
			}
		}
		refused(t, 2001, fill(2001))
		refused(t, 3000, fill(3000))
		refused(t, 2001, nested(2, fill(1994)...))
	}
	for n, may := range map[int]bool{400: true, 401: false, 667: false, 5000: false} {
		if Ok(numbered('V', n)) != may {
			t.Errorf("%d rows: %v", n, !may)
		}
	}
}

// 2.1: octets that are rows of more than 2,000 octets are none, nor is a table within that is.
func TestParseSize(t *testing.T) {
	text := func(n int) string {
		return "\x01aS\x00\x00" + string([]byte{byte(n >> 8), byte(n)}) + strings.Repeat("x", n)
	}
	if l, ok := Parse([]byte(text(1993))); len(l) != 1 || len(l[0].S) != 1993 || !ok {
		t.Error("2,000")
	}
	for n, b := range map[int]string{
		2001: text(1994), 2003: text(1993) + "\x01bV", 2007: deep(2, text(1993)), 70000: text(4465) + strings.Repeat("\x01bV", 21845),
	} {
		if l, ok := Parse([]byte(b)); len(l) != 0 || ok {
			t.Errorf("%d: %v", n, ok)
		}
	}
}

// 2.1: octets that are no rows.
func TestNoRows(t *testing.T) {
	for _, b := range []string{
		"\x00", "\x00V", "\x01", "\x01a", "\x02aV", "\x00\x00\x00", "\x01aV\x00", "\x01aV\x01", "\x01aVx",
		"\x81" + strings.Repeat("n", 129) + "V", "\xff" + strings.Repeat("n", 255) + "V",
		"\x01at", "\x01at\x02", "\x01at\x80", "\x01at\xff", "\x01at\x01\x00",
		"\x01aI", "\x01aI\x00\x00\x00", "\x01aI\x00\x00\x00\x00\x00",
		"\x01al\x00\x00\x00\x00\x00\x00\x00", "\x01al\x00\x00\x00\x00\x00\x00\x00\x00\x00",
		"\x01aS", "\x01aS\x00\x00\x00", "\x01aS\x00\x00\x00\x01", "\x01aS\x00\x00\x00\x03xy", "\x01aS\x00\x00\x00\x01xy", "\x01aS\xff\xff\xff\xffxy", "\x01aS\x80\x00\x00\x01x",
		"\x01aF", "\x01aF\x00\x00\x00", "\x01aF\x00\x00\x00\x01", "\x01aF\x00\x00\x00\x01x", "\x01aF\x00\x00\x00\x04\x01bV", "\x01aF\x00\x00\x00\x02\x01bV", "\x01aF\x00\x00\x00\x03\x00bV",
		"\x01aF\x00\x00\x00\x04\x01bt\x02", "\x01aF\x00\x00\x00\x03\x01bx", "\x01aF\x00\x00\x00\x03\x01bt\x01cV", "\x01aF\xff\xff\xff\xff\x01bV",
		"\x01aV\x01aV", "\x01at\x00\x01bV\x01aV", "\x01aF\x00\x00\x00\x06\x01bV\x01bV", "\x01ax", "\x01aT", "\x01af\x00\x00\x00\x00",
	} {
		if l, ok := Parse([]byte(b)); len(l) != 0 || ok {
			t.Errorf("%q: %v, %v", b, l, ok)
		}
		if l, ok := Parse([]byte("\x01yV" + b)); len(l) != 0 || ok {
			t.Errorf("a row, then %q: %v, %v", b, l, ok)
		}
	}
}

// 2.2 and W5: octets that are cut anywhere but between rows are no table, and those that are cut there are just those ahead.
func TestCut(t *testing.T) {
	var l []api.Field
	ends := map[int]int{0: 0}
	for i, c := range tables() {
		if len(c.b) > 100 {
			continue
		}
		l = append(l, api.Field{Name: strconv.Itoa(i), Kind: 'F', T: c.l})
		b, ok := Append(nil, l)
		if !ok {
			t.Fatal(i)
		}
		ends[len(b)] = len(l)
	}
	whole, _ := Append(nil, l)
	for n := range len(whole) + 1 {
		rows, is := ends[n]
		back, ok := Parse(whole[:n])
		if ok != is || !same(back, l[:rows]) {
			t.Fatalf("%d of %d: %v, %v", n, len(whole), back, ok)
		}
	}
}

// Rule 3: what is handed in, its spare room too, is neither changed nor kept.
func TestHandedIn(t *testing.T) {
	room := []byte("a...............................")
	l := []api.Field{{Name: "b", Kind: 'F', T: []api.Field{{Name: "c", Kind: 'S', S: "x"}}}}
	was := copied(l)
	for _, l := range [][]api.Field{nil, l, {{Name: "b"}}, nested(9)} {
		Append(room[:1], l)
	}
	if string(room) != "a..............................." {
		t.Errorf("changed: %q", room)
	}
	Ok(l)
	if !same(l, was) {
		t.Errorf("changed: %v", l)
	}
	in := []byte("\x01bF\x00\x00\x00\x08\x01cS\x00\x00\x00\x01x")
	kept := bytes.Clone(in)
	back, ok := Parse(in)
	if !bytes.Equal(in, kept) {
		t.Errorf("changed: %q", in)
	}
	clear(in)
	if !same(back, was) || !ok {
		t.Errorf("kept: %v", back)
	}
}

// Rule 3: what is answered is new memory, its spare room too.
func TestAnswered(t *testing.T) {
	b := []byte("abc")
	for _, l := range [][]api.Field{nil, {{Name: "b", Kind: 'V'}}, {{Name: "b"}}} {
		one, _ := Append(b, l)
		two, _ := Append(b, l)
		clear(one[:cap(one)])
		if string(b) != "abc" || string(two[:3]) != "abc" {
			t.Errorf("lent: %q, %q", b, two)
		}
	}
	in := []byte("\x01aF\x00\x00\x00\x03\x01xV\x01bF\x00\x00\x00\x03\x01yV")
	l, _ := Parse(in)
	was := copied(l)
	other, _ := Parse(in)
	_ = append(l[0].T, api.Field{Name: "z"})
	l[0].T[0].Name = "z"
	if l[1].T[0].Name != "y" || !same(other, was) {
		t.Errorf("shared: %v, %v", l, other)
	}
}

// 2.3: what makes each call go on and on, or deep, if it is let: lists that hold themselves, wide ones, long texts.
func TestEnds(t *testing.T) {
	self := numbered('F', 300)
	for i := range self {
		self[i].T = self
	}
	one := []api.Field{{Name: "a", Kind: 'F'}}
	one[0].T = one
	hidden := []api.Field{{Name: "a", Kind: 'V'}}
	hidden[0].T = hidden
	wide := make([]api.Field, 1<<20)
	for i := range wide {
		wide[i] = api.Field{Name: strconv.Itoa(i), Kind: 'F', T: self}
	}
	for i, l := range [][]api.Field{
		self, one, hidden, wide, make([]api.Field, 1<<20), nested(100000),
		{{Name: strings.Repeat("n", 1<<24), Kind: 'V'}}, {{Name: "a", Kind: 'S', S: strings.Repeat("x", 1<<24)}},
	} {
		refused(t, i, l)
	}
	for i, b := range [][]byte{
		make([]byte, 1<<20), bytes.Repeat([]byte{255}, 1<<20), bytes.Repeat([]byte("\x01aV"), 1<<20), bytes.Repeat([]byte("\x01aF\x00\x00\x07\xc9"), 285), bytes.Repeat([]byte("\x01aF\xff\xff\xff\xff"), 285), []byte(deep(280, "")), make([]byte, 2000),
	} {
		if l, ok := Parse(b); len(l) != 0 || ok {
			t.Errorf("%d: %v", i, ok)
		}
	}
}

// plain tells whether b is the rows of a table that is so many tables down, by a count of its own.
func plain(b []byte, down int) bool {
	names := map[string]bool{}
	for len(b) > 0 {
		n := int(b[0])
		if n == 0 || n > 128 || len(b) < n+2 || names[string(b[1:n+1])] {
			return false
		}
		names[string(b[1:n+1])] = true
		kind := b[n+1]
		b = b[n+2:]
		size, is := map[byte]int{'t': 1, 'I': 4, 'l': 8, 'S': 4, 'F': 4, 'V': 0}[kind]
		if !is || len(b) < size || kind == 't' && b[0] > 1 {
			return false
		}
		if kind == 'S' || kind == 'F' {
			size += int(b[0])<<24 + int(b[1])<<16 + int(b[2])<<8 + int(b[3])
			if len(b) < size || kind == 'F' && (down == 8 || !plain(b[4:size], down+1)) {
				return false
			}
		}
		b = b[size:]
	}
	return true
}

// 2.1 to 2.3: any octets are a table just when a plain count says so; it is written as it was read, octet for octet.
func FuzzParse(f *testing.F) {
	for _, c := range tables() {
		f.Add([]byte(c.b))
		f.Add([]byte(deep(7, c.b)))
	}
	for _, b := range []string{"\x00V", "\x01aV\x01aV", "\x01at\x02", "\x01aS\x00\x00\x00\x03xy", "\x01aF\x00\x00\x00\x02\x01b", deep(9, ""), "\x01aS\x00\x00\x07\xca" + strings.Repeat("x", 1994)} {
		f.Add([]byte(b))
	}
	f.Fuzz(func(t *testing.T, b []byte) {
		l, ok := Parse(b)
		if want := len(b) <= 2000 && plain(b, 1); ok != want {
			t.Fatalf("%q: %v", b, ok)
		}
		if !ok && len(l) != 0 {
			t.Fatalf("%q: %v", b, l)
		}
		if !ok {
			return
		}
		if out, is := Append([]byte("ahead"), l); string(out) != "ahead"+string(b) || !is || !Ok(l) {
			t.Fatalf("%q: %q, %v", b, out, is)
		}
	})
}
