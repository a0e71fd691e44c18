package meth

import (
	"bytes"
	"encoding/binary"
	"math"
	"slices"
	"strconv"
	"strings"
	"testing"

	"waybill/api"
	"waybill/octs"
	"waybill/tabl"
)

// known is a method of the chapter's table.
type known struct {
	name      string
	class, id int
	form      string
}

// table is the chapter's, row by row.
func table() []known {
	return []known{
		{"connection.start", 10, 10, "11tll"},
		{"connection.start-ok", 10, 11, "tsls"},
		{"connection.tune", 10, 30, "242"},
		{"connection.tune-ok", 10, 31, "242"},
		{"connection.open", 10, 40, "ssf"},
		{"connection.open-ok", 10, 41, "s"},
		{"connection.close", 10, 50, "2s22"},
		{"connection.close-ok", 10, 51, ""},
		{"channel.open", 20, 10, "s"},
		{"channel.open-ok", 20, 11, "l"},
		{"channel.close", 20, 40, "2s22"},
		{"channel.close-ok", 20, 41, ""},
		{"exchange.declare", 40, 10, "2ssffffft"},
		{"exchange.declare-ok", 40, 11, ""},
		{"exchange.delete", 40, 20, "2sff"},
		{"exchange.delete-ok", 40, 21, ""},
		{"queue.declare", 50, 10, "2sffffft"},
		{"queue.declare-ok", 50, 11, "s44"},
		{"queue.bind", 50, 20, "2sssft"},
		{"queue.bind-ok", 50, 21, ""},
		{"queue.purge", 50, 30, "2sf"},
		{"queue.purge-ok", 50, 31, "4"},
		{"queue.delete", 50, 40, "2sfff"},
		{"queue.delete-ok", 50, 41, "4"},
		{"queue.unbind", 50, 50, "2ssst"},
		{"queue.unbind-ok", 50, 51, ""},
		{"basic.qos", 60, 10, "42f"},
		{"basic.qos-ok", 60, 11, ""},
		{"basic.consume", 60, 20, "2ssfffft"},
		{"basic.consume-ok", 60, 21, "s"},
		{"basic.cancel", 60, 30, "sf"},
		{"basic.cancel-ok", 60, 31, "s"},
		{"basic.publish", 60, 40, "2ssff"},
		{"basic.return", 60, 50, "2sss"},
		{"basic.deliver", 60, 60, "s8fss"},
		{"basic.get", 60, 70, "2sf"},
		{"basic.get-ok", 60, 71, "8fss4"},
		{"basic.get-empty", 60, 72, "s"},
		{"basic.ack", 60, 80, "8f"},
		{"basic.reject", 60, 90, "8f"},
		{"basic.recover", 60, 110, "f"},
		{"basic.recover-ok", 60, 111, ""},
		{"basic.nack", 60, 120, "8ff"},
		{"tx.select", 90, 10, ""},
		{"tx.select-ok", 90, 11, ""},
		{"tx.commit", 90, 20, ""},
		{"tx.commit-ok", 90, 21, ""},
		{"tx.rollback", 90, 30, ""},
		{"tx.rollback-ok", 90, 31, ""},
	}
}

// sameFields is whether two tables are the same; a table without fields may be nil or empty (rule 1).
func sameFields(a, b []api.Field) bool {
	return slices.EqualFunc(a, b, func(f, g api.Field) bool {
		return f.Name == g.Name && f.Kind == g.Kind && f.N == g.N && f.S == g.S && sameFields(f.T, g.T)
	})
}

// same is whether two methods are the same.
func same(m, o api.Method) bool {
	return m.Class == o.Class && m.ID == o.ID && slices.Equal(m.N, o.N) && slices.Equal(m.S, o.S) && slices.Equal(m.F, o.F) && sameFields(m.T, o.T)
}

// copied is a method of its own memory.
func copied(m api.Method) api.Method {
	m.N, m.S, m.F, m.T = slices.Clone(m.N), slices.Clone(m.S), slices.Clone(m.F), slices.Clone(m.T)
	return m
}

// method is what a test writes and reads.
type method struct {
	name string
	m    api.Method
	b    string
}

// ids are the octets of a class and an id.
func ids(class, id int) string {
	return string(binary.BigEndian.AppendUint16(binary.BigEndian.AppendUint16(nil, uint16(class)), uint16(id)))
}

// most is the highest number of so many octets.
func most(octets int) uint64 {
	return map[int]uint64{1: math.MaxUint8, 2: math.MaxUint16, 4: math.MaxUint32, 8: math.MaxUint64}[octets]
}

// number is the octets of n.
func number(n uint64, octets int) string {
	return string(binary.BigEndian.AppendUint64(nil, n)[8-octets:])
}

// long is the octets of a Long.
func long(s string) string {
	return number(uint64(len(s)), 4) + s
}

// flags is the octets that flags beside each other share.
func flags(l []bool) string {
	b := make([]byte, (len(l)+7)/8)
	for i, f := range l {
		if f {
			b[i/8] += []byte{1, 2, 4, 8, 16, 32, 64, 128}[i%8]
		}
	}
	return string(b)
}

// made is a method of k whose parts differ from each other, and its octets, put together by hand; each number is told by its place and its octets, and each flag by its place.
func made(k known, n func(at, octets int) uint64, f func(at int) bool) (api.Method, string) {
	m, b := api.Method{Class: k.class, ID: k.id}, ids(k.class, k.id)
	for rest := k.form; rest != ""; {
		text := strings.Repeat("x", len(m.S)) + strconv.Itoa(len(b))
		run := len(rest) - len(strings.TrimLeft(rest, "f"))
		switch rest[0] {
		case 's':
			m.S, b = append(m.S, text), b+number(uint64(len(text)), 1)+text
		case 'l':
			m.S, b = append(m.S, text), b+long(text)
		case 't':
			m.T, b = []api.Field{{Name: "a", Kind: 't', N: 1}, {Name: "b", Kind: 'V'}}, b+long("\x01at\x01\x01bV")
		case 'f':
			first := len(m.F)
			for range run {
				m.F = append(m.F, f(len(m.F)))
			}
			b += flags(m.F[first:])
			rest = rest[run-1:]
		default:
			octets := int(rest[0] - '0')
			m.N = append(m.N, n(len(m.N), octets))
			b += number(m.N[len(m.N)-1], octets)
		}
		rest = rest[1:]
	}
	return m, b
}

// methods are all methods, each with least, greatest and other parts.
func methods() []method {
	var l []method
	add := func(k known, what string, n func(at, octets int) uint64, f func(at int) bool) {
		m, b := made(k, n, f)
		l = append(l, method{k.name + ", " + what, m, b})
	}
	for _, k := range table() {
		add(k, "least", func(at, octets int) uint64 { return 0 }, func(int) bool { return false })
		add(k, "greatest", func(at, octets int) uint64 { return most(octets) }, func(int) bool { return true })
		add(k, "each octet", func(at, octets int) uint64 { return (0x0102030405060708 + uint64(at)) & most(octets) }, func(at int) bool { return at%2 == 0 })
		add(k, "highest bits", func(at, octets int) uint64 { return most(octets)/2 + 1 }, func(at int) bool { return at%2 == 1 })
	}
	return l
}

// some are methods whose octets are written out.
func some() []method {
	return []method{
		{"channel.close-ok", api.Method{Class: 20, ID: 41}, "\x00\x14\x00\x29"},
		{"empty lists", api.Method{Class: 20, ID: 41, N: []uint64{}, S: []string{}, F: []bool{}, T: []api.Field{}}, "\x00\x14\x00\x29"},
		{"start", api.Method{Class: 10, ID: 10, N: []uint64{0, 9}, S: []string{"PLAIN", "en_US"}}, "\x00\x0a\x00\x0a\x00\x09\x00\x00\x00\x00\x00\x00\x00\x05PLAIN\x00\x00\x00\x05en_US"},
		{"start-ok", api.Method{Class: 10, ID: 11, S: []string{"PLAIN", "\x00a\xff", "en"}, T: []api.Field{{Name: "a", Kind: 'S', S: "x"}}}, "\x00\x0a\x00\x0b\x00\x00\x00\x08\x01aS\x00\x00\x00\x01x\x05PLAIN\x00\x00\x00\x03\x00a\xff\x02en"},
		{"tune", api.Method{Class: 10, ID: 30, N: []uint64{16, 4096, 0}}, "\x00\x0a\x00\x1e\x00\x10\x00\x00\x10\x00\x00\x00"},
		{"close", api.Method{Class: 10, ID: 50, N: []uint64{404, 50, 10}, S: []string{"NOT_FOUND"}}, "\x00\x0a\x00\x32\x01\x94\x09NOT_FOUND\x00\x32\x00\x0a"},
		{"exchange.declare", api.Method{Class: 40, ID: 10, N: []uint64{1}, S: []string{"x", "topic"}, F: []bool{false, true, false, false, true}}, "\x00\x28\x00\x0a\x00\x01\x01x\x05topic\x12\x00\x00\x00\x00"},
		{"queue.declare-ok", api.Method{Class: 50, ID: 11, N: []uint64{1, 2}, S: []string{"q"}}, "\x00\x32\x00\x0b\x01q\x00\x00\x00\x01\x00\x00\x00\x02"},
		{"deliver", api.Method{Class: 60, ID: 60, N: []uint64{1 << 63}, S: []string{"tag", "", "k"}, F: []bool{true}}, "\x00\x3c\x00\x3c\x03tag\x80\x00\x00\x00\x00\x00\x00\x00\x01\x00\x01k"},
		{"get-ok", api.Method{Class: 60, ID: 71, N: []uint64{7, 9}, S: []string{"x", ""}, F: []bool{false}}, "\x00\x3c\x00\x47\x00\x00\x00\x00\x00\x00\x00\x07\x00\x01x\x00\x00\x00\x00\x09"},
		{"nack", api.Method{Class: 60, ID: 120, N: []uint64{258}, F: []bool{false, true}}, "\x00\x3c\x00\x78\x00\x00\x00\x00\x00\x00\x01\x02\x02"},
		{"ids above 63", api.Method{Class: 60, ID: 111}, "\x00\x3c\x00\x6f"},
		{"a table in a table", api.Method{Class: 50, ID: 50, N: []uint64{0}, S: []string{"", "", ""}, T: []api.Field{{Name: "a", Kind: 'F', T: []api.Field{{Name: "a", Kind: 'I', N: -1}}}}}, "\x00\x32\x00\x32\x00\x00\x00\x00\x00\x00\x00\x00\x0e\x01aF\x00\x00\x00\x07\x01aI\xff\xff\xff\xff"},
		{"a long of 65,538", api.Method{Class: 20, ID: 11, S: []string{strings.Repeat("l", 65538)}}, "\x00\x14\x00\x0b\x00\x01\x00\x02" + strings.Repeat("l", 65538)},
		{"a short of 255", api.Method{Class: 20, ID: 10, S: []string{strings.Repeat("s", 255)}}, "\x00\x14\x00\x0a\xff" + strings.Repeat("s", 255)},
	}
}

// gives holds Parse of b against what it should tell; beside an error all else is zero (rule 4).
func gives(t *testing.T, name, b string, m api.Method, e api.Errno) {
	t.Helper()
	if got, err := Parse([]byte(b)); !same(got, m) || err != e {
		t.Errorf("%s: Parse of %d octets: %v, %d", name, len(b), got, err)
	}
}

// refused tells if m is written, or anything but b is answered.
func refused(t *testing.T, name string, m api.Method) {
	t.Helper()
	for _, ahead := range []string{"", "ahead"} {
		if b, ok := Append([]byte(ahead), m); string(b) != ahead || ok {
			t.Errorf("%s: %d octets, %v", name, len(b), ok)
		}
	}
}

// 4.1: just those of the table have a form, an empty one too.
func TestForm(t *testing.T) {
	forms := map[[2]int]string{}
	for _, k := range table() {
		forms[[2]int{k.class, k.id}] = k.form
		if f, ok := Form(k.class, k.id); f != k.form || !ok {
			t.Errorf("%s: %q, %v", k.name, f, ok)
		}
		for _, o := range [][2]int{{k.class + 1<<16, k.id}, {k.class, k.id + 1<<16}, {k.class + 1<<32, k.id}, {k.class, k.id + 1<<32}, {k.class - 1<<16, k.id}, {-k.class, k.id}, {k.class, -k.id}, {k.class + 256, k.id}, {k.class, k.id + 256}} {
			if f, ok := Form(o[0], o[1]); f != "" || ok {
				t.Errorf("%v: %q, %v", o, f, ok)
			}
		}
	}
	if len(forms) != 49 {
		t.Error(len(forms))
	}
	for class := -2; class < 130; class++ {
		for id := -2; id < 260; id++ {
			want, is := forms[[2]int{class, id}]
			if f, ok := Form(class, id); f != want || ok != is {
				t.Errorf("%d, %d: %q, %v", class, id, f, ok)
			}
		}
	}
	for _, n := range []int{math.MinInt, math.MinInt + 10, math.MaxInt} {
		for _, o := range [][2]int{{n, 10}, {10, n}, {n, n}} {
			if f, ok := Form(o[0], o[1]); f != "" || ok {
				t.Errorf("%v: %q, %v", o, f, ok)
			}
		}
	}
}

// 4.2 and 4.3: each method, written and read, whatever is ahead of it.
func TestMethods(t *testing.T) {
	for _, c := range append(some(), methods()...) {
		for _, ahead := range []string{"", "ahead"} {
			if b, ok := Append([]byte(ahead), c.m); string(b) != ahead+c.b || !ok {
				t.Errorf("%s: %q, %v", c.name, b, ok)
			}
		}
		gives(t, c.name, c.b, c.m, api.OK)
	}
	if b, ok := Append(nil, api.Method{Class: 20, ID: 41}); string(b) != "\x00\x14\x00\x29" || !ok {
		t.Errorf("%q, %v", b, ok)
	}
}

// 4.2 and W5: octets of which one is wanting at the end, or one is too many, are no method.
func TestCut(t *testing.T) {
	for _, c := range append(some(), methods()...) {
		for n := range min(len(c.b), 400) {
			gives(t, c.name, c.b[:n], api.Method{}, api.ErrSyntax)
		}
		gives(t, c.name, c.b[:len(c.b)-1], api.Method{}, api.ErrSyntax)
		for _, behind := range []string{"\x00", "\x01", "\xff", "\x00\x00\x00\x00", c.b} {
			gives(t, c.name, c.b+behind, api.Method{}, api.ErrSyntax)
		}
	}
	if m, e := Parse(nil); !same(m, api.Method{}) || e != api.ErrSyntax {
		t.Error(m, e)
	}
}

// 4.2: class and id are asked ahead of all that is behind them.
func TestNone(t *testing.T) {
	forms := map[[2]int]bool{}
	for _, k := range table() {
		forms[[2]int{k.class, k.id}] = true
	}
	for class := range 300 {
		for id := range 300 {
			if !forms[[2]int{class, id}] {
				gives(t, "none", ids(class, id), api.Method{}, api.ErrNone)
			}
		}
	}
	for _, head := range []string{"\x00\x00\x00\x00", "\x00\x14\x00\x14", "\x00\x3c\x00\x64", "\x00\x1e\x00\x0a", "\x01\x0a\x00\x0a", "\x00\x0a\x01\x0a", "\x0a\x00\x0a\x00", "\xff\xff\xff\xff", "\x80\x0a\x00\x0a"} {
		for n := range 4 {
			gives(t, "no four octets", head[:n], api.Method{}, api.ErrSyntax)
		}
		for _, behind := range []string{"", "\x00", "\xff\xff\xff\xff\xff", strings.Repeat("x", 5000)} {
			gives(t, "none", head+behind, api.Method{}, api.ErrNone)
		}
	}
}

// 4.1 and 4.2: each choice of flags of each form is an octet, lowest bit first; its other bits are 0 when written, and not asked when read.
func TestFlags(t *testing.T) {
	for _, k := range table() {
		n := strings.Count(k.form, "f")
		if n == 0 {
			continue
		}
		zero := func(int, int) uint64 { return 0 }
		_, none := made(k, zero, func(int) bool { return false })
		_, all := made(k, zero, func(int) bool { return true })
		at := 0
		for none[at] == all[at] {
			at++
		}
		for c := range 256 {
			m, b := made(k, zero, func(i int) bool { return c>>i&1 == 1 })
			low := c & (1<<n - 1)
			if want := none[:at] + string([]byte{byte(low)}) + none[at+1:]; b != want {
				t.Fatalf("%s, %d: %q", k.name, c, b)
			}
			if out, ok := Append(nil, m); string(out) != b || !ok {
				t.Errorf("%s, %d: %q, %v", k.name, c, out, ok)
			}
			gives(t, k.name, none[:at]+string([]byte{byte(c)})+none[at+1:], m, api.OK)
		}
	}
}

// 4.1: eight flags share an octet, the ninth is in the next; flags that another part is between share none. No form of the table has such, but the rule is the form's.
func TestFlagsBeside(t *testing.T) {
	on := func(n int, l ...int) []bool {
		f := make([]bool, n)
		for _, i := range l {
			f[i] = true
		}
		return f
	}
	for i, c := range []struct {
		form, b string
		m       api.Method
	}{
		{"ffffffff", "\x81", api.Method{F: on(8, 0, 7)}},
		{"fffffffff", "\x80\x01", api.Method{F: on(9, 7, 8)}},
		{"fffffffff", "\x01\x00", api.Method{F: on(9, 0)}},
		{"ffffffffffffffff", "\x00\x80", api.Method{F: on(16, 15)}},
		{"fffffffffffffffff", "\x02\x01\x01", api.Method{F: on(17, 1, 8, 16)}},
		{"fsf", "\x01\x01x\x01", api.Method{S: []string{"x"}, F: on(2, 0, 1)}},
		{"ff1ff", "\x02\x07\x01", api.Method{N: []uint64{7}, F: on(4, 1, 2)}},
		{"ftf", "\x00\x00\x00\x00\x00\x01", api.Method{F: on(2, 1)}},
		{"flf", "\x01\x00\x00\x00\x01\xff\x00", api.Method{S: []string{"\xff"}, F: on(2, 0)}},
		{"fffffffff2f", "\x00\x01\x00\x02\x01", api.Method{N: []uint64{2}, F: on(10, 8, 9)}},
	} {
		if b, ok := writeParts(c.form, c.m); string(b) != c.b || !ok {
			t.Errorf("%d: %q, %v", i, b, ok)
		}
		var m api.Method
		if ok := readParts(octs.From([]byte(c.b)), c.form, &m); !same(m, c.m) || !ok {
			t.Errorf("%d: %v, %v", i, m, ok)
		}
	}
}

// 4.2: a method that has one number, text or flag too many or too few, or a table without a place for it, isn't written.
func TestCounts(t *testing.T) {
	for _, c := range methods() {
		m := copied(c.m)
		m.N = append(m.N, 0)
		refused(t, c.name+", a number more", m)
		m = copied(c.m)
		m.S = append(m.S, "")
		refused(t, c.name+", a text more", m)
		m = copied(c.m)
		m.F = append(m.F, false)
		refused(t, c.name+", a flag more", m)
		m = copied(c.m)
		if len(m.T) == 0 {
			m.T = []api.Field{{Name: "a", Kind: 'V'}}
			refused(t, c.name+", a table", m)
		}
		m = copied(c.m)
		if n := len(m.N); n > 0 {
			m.N = m.N[:n-1]
			refused(t, c.name+", a number less", m)
		}
		m = copied(c.m)
		if n := len(m.S); n > 0 {
			m.S = m.S[:n-1]
			refused(t, c.name+", a text less", m)
		}
		m = copied(c.m)
		if n := len(m.F); n > 0 {
			m.F = m.F[:n-1]
			refused(t, c.name+", a flag less", m)
		}
	}
	refused(t, "a text for a number", api.Method{Class: 50, ID: 31, S: []string{"1"}})
	refused(t, "a number for a flag", api.Method{Class: 60, ID: 110, N: []uint64{1}})
	refused(t, "a flag for a text", api.Method{Class: 10, ID: 41, F: []bool{true}})
}

// 4.2: a method without a form isn't written, whatever it has.
func TestNoForm(t *testing.T) {
	for _, o := range [][2]int{{0, 0}, {0, 41}, {20, 0}, {20, 20}, {-20, 41}, {20, -41}, {20 + 1<<16, 41}, {20, 41 + 1<<16}, {20 + 1<<32, 41}, {20 - 1<<16, 41}, {41, 20}, {math.MaxInt, 41}, {20, math.MinInt}, {255, 255}, {65535, 65535}} {
		for _, m := range []api.Method{{}, {N: []uint64{1}}, {S: []string{"x"}}, {F: []bool{true}}, {T: []api.Field{{Name: "a", Kind: 'V'}}}} {
			m.Class, m.ID = o[0], o[1]
			refused(t, "no form", m)
		}
	}
}

// 4.2: of each number of each form the greatest goes in, and the next one doesn't.
func TestNumbers(t *testing.T) {
	for _, k := range table() {
		m, _ := made(k, func(_, octets int) uint64 { return most(octets) }, func(int) bool { return true })
		for i, c := range strings.NewReplacer("s", "", "l", "", "f", "", "t", "").Replace(k.form) {
			n := int(c - '0')
			if n == 8 {
				continue
			}
			for _, v := range []uint64{most(n) + 1, most(n) + 2, most(n) * 2, 1 << 63, math.MaxUint64} {
				o := copied(m)
				o.N[i] = v
				refused(t, k.name, o)
			}
		}
	}
}

// 4.2: a Short has at most 255 bytes; a Long's length has all its four octets.
func TestTexts(t *testing.T) {
	for _, k := range table() {
		m, _ := made(k, func(int, int) uint64 { return 0 }, func(int) bool { return false })
		for i, c := range strings.NewReplacer("1", "", "2", "", "4", "", "8", "", "f", "", "t", "").Replace(k.form) {
			for _, n := range []int{0, 1, 254, 255, 256, 257, 511, 512, 65535, 65536, 1 << 20} {
				o := copied(m)
				o.S[i] = strings.Repeat("x", n)
				if c == 's' && n > 255 {
					refused(t, k.name, o)
					continue
				}
				b, ok := Append(nil, o)
				if back, e := Parse(b); !ok || !same(back, o) || e != api.OK {
					t.Errorf("%s, %d of %d: %v, %d", k.name, i, n, ok, e)
				}
			}
		}
	}
	gives(t, "any bytes", "\x00\x0a\x00\x29\x03\xff\x00\xce", api.Method{Class: 10, ID: 41, S: []string{"\xff\x00\xce"}}, api.OK)
	for _, b := range []string{"\x00\x0a\x00\x29\x02a", "\x00\x0a\x00\x29\xff", "\x00\x14\x00\x0b\xff\xff\xff\xffabc", "\x00\x14\x00\x0b\x80\x00\x00\x00", "\x00\x14\x00\x0b\x00\x00\x00\x02abc"} {
		gives(t, "a text", b, api.Method{}, api.ErrSyntax)
	}
}

// 4.2: a table is just what tabl.Parse and tabl.Ok take for one.
func TestTables(t *testing.T) {
	for _, k := range table() {
		if !strings.Contains(k.form, "t") {
			continue
		}
		m, b := made(k, func(int, int) uint64 { return 1 }, func(int) bool { return true })
		had := long("\x01at\x01\x01bV")
		for _, l := range [][]api.Field{{{Name: "a", Kind: 'x'}}, {{Kind: 'V'}}, {{Name: "a", Kind: 'V', N: 1}}, {{Name: "a", Kind: 'V'}, {Name: "a", Kind: 'V'}}, {{Name: "a", Kind: 't', N: 2}}, {{Name: "a", Kind: 'S', S: strings.Repeat("x", 1994)}}} {
			o := copied(m)
			o.T = l
			refused(t, k.name, o)
		}
		for _, rows := range []string{"x", "\x01a", "\x01ax", "\x00V", "\x01at\x02", "\x01aV\x01aV", "\x01aS\x00\x00\x07\xca" + strings.Repeat("x", 1994)} {
			gives(t, k.name, strings.Replace(b, had, long(rows), 1), api.Method{}, api.ErrSyntax)
		}
		for _, size := range []string{"\x00\x00\x00\x06", "\x00\x00\x00\x08", "\x00\x00\x00\x04", "\xff\xff\xff\xff", "\x80\x00\x00\x07"} {
			gives(t, k.name, strings.Replace(b, had, size+had[4:], 1), api.Method{}, api.ErrSyntax)
		}
		for rows, l := range map[string][]api.Field{"": nil, "\x01aS\x00\x00\x07\xc9" + strings.Repeat("x", 1993): {{Name: "a", Kind: 'S', S: strings.Repeat("x", 1993)}}} {
			o := copied(m)
			o.T = l
			whole := strings.Replace(b, had, long(rows), 1)
			if out, ok := Append(nil, o); string(out) != whole || !ok {
				t.Errorf("%s: %d octets, %v", k.name, len(out), ok)
			}
			gives(t, k.name, whole, o, api.OK)
		}
	}
}

// 4.2: a table that is none is not made good by one that is behind it. No form of the table has two, but the rule is the form's.
func TestTwoTables(t *testing.T) {
	for b, want := range map[string]bool{long("\x01aV") + long(""): true, long("x") + long(""): false, long("") + long("x"): false} {
		var m api.Method
		if ok := readParts(octs.From([]byte(b)), "tt", &m); ok != want {
			t.Errorf("%q: %v", b, ok)
		}
	}
}

// Rule 3: what is handed in, its spare room too, is neither changed nor kept.
func TestHandedIn(t *testing.T) {
	for _, c := range methods() {
		room := []byte("a" + strings.Repeat(".", 200))
		m, was := copied(c.m), copied(c.m)
		Append(room[:1], m)
		m.N = append(m.N, 1)
		Append(room[:1], m)
		if m.N = m.N[:len(m.N)-1]; !same(m, was) || string(room) != "a"+strings.Repeat(".", 200) {
			t.Errorf("%s: changed: %v, %q", c.name, m, room)
		}
		in := []byte(c.b)
		got, _ := Parse(in)
		if string(in) != c.b {
			t.Errorf("%s: changed: %q", c.name, in)
		}
		clear(in)
		if !same(got, was) {
			t.Errorf("%s: kept: %v", c.name, got)
		}
	}
}

// Rule 3: what is answered is new memory, its spare room too.
func TestAnswered(t *testing.T) {
	for _, c := range methods() {
		b := []byte("abc")
		bad := copied(c.m)
		bad.S = append(bad.S, "x")
		for _, m := range []api.Method{copied(c.m), {}, bad} {
			one, ok := Append(b, m)
			two, _ := Append(b, m)
			clear(one[:cap(one)])
			if string(b) != "abc" || string(two[:3]) != "abc" || ok && string(two[3:]) != c.b {
				t.Errorf("%s: lent: %q, %q", c.name, b, two)
			}
		}
		one, _ := Parse([]byte(c.b))
		two, _ := Parse([]byte(c.b))
		clear(one.N[:cap(one.N)])
		clear(one.S[:cap(one.S)])
		clear(one.F[:cap(one.F)])
		clear(one.T[:cap(one.T)])
		if !same(two, c.m) {
			t.Errorf("%s: lent: %v", c.name, two)
		}
	}
}

// 4.4 and W6: no octets, however many, and no method make a call panic or go on and on.
func TestEnds(t *testing.T) {
	for _, k := range table() {
		for _, c := range []byte{0, 1, 0x7f, 0x80, 0xff} {
			for n := range 64 {
				Parse(append([]byte(ids(k.class, k.id)), bytes.Repeat([]byte{c}, n)...))
			}
		}
		gives(t, k.name, ids(k.class, k.id)+strings.Repeat("\xff", 1<<20), api.Method{}, api.ErrSyntax)
	}
	for _, c := range []byte{0, 10, 0xff} {
		if m, e := Parse(bytes.Repeat([]byte{c}, 1<<24)); !same(m, api.Method{}) || e != api.ErrNone {
			t.Error(c, e)
		}
	}
	self := []api.Field{{Name: "a", Kind: 'F'}}
	self[0].T = self
	for _, k := range table() {
		for _, m := range []api.Method{{T: self}, {N: make([]uint64, 1<<20)}, {S: make([]string, 1<<20)}, {F: make([]bool, 1<<20)}} {
			m.Class, m.ID = k.class, k.id
			refused(t, k.name, m)
		}
		if m, _ := made(k, func(int, int) uint64 { return 0 }, func(int) bool { return false }); len(m.T) > 0 {
			m.T = self
			refused(t, k.name, m)
		}
	}
}

// cut takes n octets off b; false, if they are not there.
func cut(b *string, n uint64) (string, bool) {
	if n > uint64(len(*b)) {
		return "", false
	}
	s := (*b)[:n]
	*b = (*b)[n:]
	return s, true
}

// count is octets as a number.
func count(s string) uint64 {
	n := uint64(0)
	for _, c := range []byte(s) {
		n = n*256 + uint64(c)
	}
	return n
}

// plain tells what is wrong with b, by a count of its own; or its octets, other bits of flags 0. What is in its table is told by isTable.
func plain(b string, isTable func(rows string) bool) (string, api.Errno) {
	head, ok := cut(&b, 4)
	if !ok {
		return "", api.ErrSyntax
	}
	i := slices.IndexFunc(table(), func(k known) bool { return ids(k.class, k.id) == head })
	if i < 0 {
		return "", api.ErrNone
	}
	out, form := head, table()[i].form
	for form != "" {
		size := map[byte]uint64{'1': 1, '2': 2, '4': 4, '8': 8, 's': 1, 'l': 4, 't': 4, 'f': 1}[form[0]]
		s, ok := cut(&b, size)
		if !ok {
			return "", api.ErrSyntax
		}
		rest := strings.TrimLeft(form, "f")
		switch form[0] {
		case 'f':
			out += string([]byte{s[0] % (1 << (len(form) - len(rest)))})
			form = "f" + rest
		case 's', 'l', 't':
			text, ok := cut(&b, count(s))
			if !ok || form[0] == 't' && !isTable(text) {
				return "", api.ErrSyntax
			}
			out += s + text
		default:
			out += s
		}
		form = form[1:]
	}
	if b != "" {
		return "", api.ErrSyntax
	}
	return out, api.OK
}

// 4.2 to 4.4: any octets are a method just when a plain count says so; it is written as it was read, octet for octet, but for bits that no flag has.
func FuzzParse(f *testing.F) {
	for _, c := range append(some(), methods()...) {
		if len(c.b) < 1000 {
			f.Add([]byte(c.b))
			f.Add([]byte(c.b + "\x00"))
			f.Add([]byte(c.b[:len(c.b)-1]))
		}
	}
	for _, b := range []string{"", "\x00", "\x00\x14\x00\x14", "\x00\x3c\x00\x6e\xfe", "\x00\x32\x00\x32\x00\x00\x00\x00\x00\x00\x00\x00\x03\x01ax"} {
		f.Add([]byte(b))
	}
	isTable := func(rows string) bool {
		_, ok := tabl.Parse([]byte(rows))
		return ok
	}
	f.Fuzz(func(t *testing.T, b []byte) {
		m, e := Parse(b)
		want, err := plain(string(b), isTable)
		if e != err {
			t.Fatalf("%q: %d", b, e)
		}
		if e != api.OK {
			if !same(m, api.Method{}) {
				t.Fatalf("%q: %v", b, m)
			}
			return
		}
		out, ok := Append([]byte("ahead"), m)
		if string(out) != "ahead"+want || !ok {
			t.Fatalf("%q: %q, %v", b, out, ok)
		}
		if back, e := Parse(out[5:]); !same(back, m) || e != api.OK {
			t.Fatalf("%q: %v, %d", b, back, e)
		}
	})
}
