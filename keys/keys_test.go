package keys

import (
	"encoding/binary"
	"math"
	"math/rand"
	"strings"
	"testing"

	"waybill/api"
)

// keyText is a key, and the text that it has.
type keyText struct {
	k api.Key
	s string
}

// msgText is a message, and the octets that it has.
type msgText struct {
	m api.Msg
	b string
}

// x tells a text of n bytes.
func x(n int) string {
	return strings.Repeat("x", n)
}

// octet tells the text of one octet.
func octet(n int) string {
	return string([]byte{byte(n)})
}

// keyTexts are keys of each kind, with the least, the greatest and ordinary parts.
func keyTexts() []keyText {
	return []keyText{
		{api.Key{Kind: 2, A: "q"}, "\x02\x01q"}, // the document's example
		{api.Key{Kind: 1, A: "x"}, "\x01\x01x"},
		{api.Key{Kind: 1, A: "\x00"}, "\x01\x01\x00"},
		{api.Key{Kind: 1, A: "amq.topic"}, "\x01\x09amq.topic"},
		{api.Key{Kind: 1, A: x(29)}, "\x01\x1d" + x(29)},
		{api.Key{Kind: 1, A: x(30)}, "\x01\x1e" + x(30)},
		{api.Key{Kind: 2, A: "\xff\xfe\x00"}, "\x02\x03\xff\xfe\x00"},
		{api.Key{Kind: 2, A: x(30)}, "\x02\x1e" + x(30)},
		{api.Key{Kind: 3, A: "e", B: "q"}, "\x03\x01e\x01q\x00"},
		{api.Key{Kind: 3, A: "e", B: "q", C: "a.*.#"}, "\x03\x01e\x01q\x05a.*.#"},
		{api.Key{Kind: 3, A: "q", B: "e", C: "\x00"}, "\x03\x01q\x01e\x01\x00"},
		{api.Key{Kind: 3, A: x(30), B: "q", C: x(59)}, "\x03\x1e" + x(30) + "\x01q\x3b" + x(59)},
		{api.Key{Kind: 3, A: "e", B: x(30), C: x(60)}, "\x03\x01e\x1e" + x(30) + "\x3c" + x(60)},
		{api.Key{Kind: 3, A: x(30), B: x(30), C: x(60)}, "\x03\x1e" + x(30) + "\x1e" + x(30) + "\x3c" + x(60)},
		{api.Key{Kind: 4, ID: 1}, "\x04\x00\x00\x00\x00\x00\x00\x00\x01"},
		{api.Key{Kind: 4, ID: 0x0102030405060708}, "\x04\x01\x02\x03\x04\x05\x06\x07\x08"},
		{api.Key{Kind: 4, ID: 1 << 63}, "\x04\x80\x00\x00\x00\x00\x00\x00\x00"},
		{api.Key{Kind: 4, ID: math.MaxUint64}, "\x04\xff\xff\xff\xff\xff\xff\xff\xff"},
		{api.Key{Kind: 5, A: "q", ID: 1}, "\x05\x01q\x00\x00\x00\x00\x00\x00\x00\x01"},
		{api.Key{Kind: 5, A: x(30), ID: 1 << 56}, "\x05\x1e" + x(30) + "\x01\x00\x00\x00\x00\x00\x00\x00"},
		{api.Key{Kind: 5, A: "qq", ID: math.MaxUint64}, "\x05\x02qq\xff\xff\xff\xff\xff\xff\xff\xff"},
	}
}

// msgTexts are messages with the least, the greatest and ordinary parts.
func msgTexts() []msgText {
	return []msgText{
		{api.Msg{}, "\x00\x00\x00\x00"},
		{api.Msg{Body: []byte{}}, "\x00\x00\x00\x00"},
		{api.Msg{Exch: "e", Key: "k.l", Type: "t", Mode: 2, Body: []byte("body")}, "\x01e\x03k.l\x01t\x02body"},
		{api.Msg{Exch: "e"}, "\x01e\x00\x00\x00"},
		{api.Msg{Key: "k"}, "\x00\x01k\x00\x00"},
		{api.Msg{Type: "t"}, "\x00\x00\x01t\x00"},
		{api.Msg{Mode: 1}, "\x00\x00\x00\x01"},
		{api.Msg{Mode: 2}, "\x00\x00\x00\x02"},
		{api.Msg{Body: []byte{0}}, "\x00\x00\x00\x00\x00"},
		{api.Msg{Exch: "\x00", Key: "\xff\xfe", Type: "\x80", Body: []byte("\x00\xff\x00")}, "\x01\x00\x02\xff\xfe\x01\x80\x00\x00\xff\x00"},
		{api.Msg{Exch: x(30)}, "\x1e" + x(30) + "\x00\x00\x00"},
		{api.Msg{Key: x(60)}, "\x00\x3c" + x(60) + "\x00\x00"},
		{api.Msg{Type: x(60)}, "\x00\x00\x3c" + x(60) + "\x00"},
		{api.Msg{Body: []byte(x(9999))}, "\x00\x00\x00\x00" + x(9999)},
		{api.Msg{Exch: x(30), Key: x(60), Type: x(60), Mode: 2, Body: []byte(x(10000))}, "\x1e" + x(30) + "\x3c" + x(60) + "\x3c" + x(60) + "\x02" + x(10000)},
	}
}

// plainShort tells the octets of a text behind its length, also of one that is too long: its length's lowest octet is ahead of it then.
func plainShort(s string) string {
	return octet(len(s)) + s
}

// eight tells the octets of a number of eight.
func eight(v uint64) string {
	return string(binary.BigEndian.AppendUint64(nil, v))
}

// plainText writes what a key of that kind would have, whether it may be or not; nothing of its other fields.
func plainText(k api.Key) string {
	switch k.Kind {
	case 1, 2:
		return octet(k.Kind) + plainShort(k.A)
	case 3:
		return octet(k.Kind) + plainShort(k.A) + plainShort(k.B) + plainShort(k.C)
	case 4:
		return octet(k.Kind) + eight(k.ID)
	}
	return octet(k.Kind) + plainShort(k.A) + eight(k.ID)
}

// plainKey tells whether k is a key, kind by kind.
func plainKey(k api.Key) bool {
	a, b := len(k.A) >= 1 && len(k.A) <= 30, len(k.B) >= 1 && len(k.B) <= 30
	switch k {
	case api.Key{Kind: 1, A: k.A}, api.Key{Kind: 2, A: k.A}:
		return a
	case api.Key{Kind: 3, A: k.A, B: k.B, C: k.C}:
		return a && b && len(k.C) <= 60
	case api.Key{Kind: 4, ID: k.ID}:
		return k.ID > 0
	case api.Key{Kind: 5, A: k.A, ID: k.ID}:
		return a && k.ID > 0
	}
	return false
}

// cut takes a text behind its length off s.
func cut(s string) (string, string, bool) {
	if s == "" || len(s) < 1+int(s[0]) {
		return "", "", false
	}
	return s[1 : 1+int(s[0])], s[1+int(s[0]):], true
}

// plainParse tells what Parse should, by a count of its own.
func plainParse(s string) (api.Key, bool) {
	if s == "" {
		return api.Key{}, false
	}
	k, rest, ok := api.Key{Kind: int(s[0])}, s[1:], true
	if k.Kind != 4 {
		if k.A, rest, ok = cut(rest); !ok {
			return api.Key{}, false
		}
	}
	if k.Kind == 3 {
		if k.B, rest, ok = cut(rest); !ok {
			return api.Key{}, false
		}
		if k.C, rest, ok = cut(rest); !ok {
			return api.Key{}, false
		}
	}
	if k.Kind >= 4 {
		if len(rest) < 8 {
			return api.Key{}, false
		}
		k.ID, rest = binary.BigEndian.Uint64([]byte(rest)), rest[8:]
	}
	if rest != "" || !plainKey(k) {
		return api.Key{}, false
	}
	return k, true
}

// plainOctets writes what a message would have, whether it may be or not.
func plainOctets(m api.Msg) string {
	return plainShort(m.Exch) + plainShort(m.Key) + plainShort(m.Type) + octet(m.Mode) + string(m.Body)
}

// plainMsg tells whether m is a message.
func plainMsg(m api.Msg) bool {
	if m.Mode != 0 && m.Mode != 1 && m.Mode != 2 {
		return false
	}
	return len(m.Exch) < 31 && len(m.Key) < 61 && len(m.Type) < 61 && len(m.Body) < 10001
}

// plainParseMsg tells what ParseMsg should, by a count of its own.
func plainParseMsg(b string) (api.Msg, bool) {
	var m api.Msg
	var ok bool
	for _, part := range []*string{&m.Exch, &m.Key, &m.Type} {
		if *part, b, ok = cut(b); !ok {
			return api.Msg{}, false
		}
	}
	if b == "" {
		return api.Msg{}, false
	}
	m.Mode, m.Body = int(b[0]), []byte(b[1:])
	if !plainMsg(m) {
		return api.Msg{}, false
	}
	return m, true
}

// same tells whether two messages are the same; nil and an empty Body are (rule 1).
func same(a, b api.Msg) bool {
	return a.Exch == b.Exch && a.Key == b.Key && a.Type == b.Type && a.Mode == b.Mode && string(a.Body) == string(b.Body)
}

// agrees holds Parse of s against a plain count; what is a key is written as it was read, octet for octet.
func agrees(t *testing.T, s string) {
	t.Helper()
	want, is := plainParse(s)
	k, ok := Parse(s)
	if ok != is || k != want {
		t.Fatalf("%q: %v, %v", s, k, ok)
	}
	if !is {
		return
	}
	if out, ok := Text(k); out != s || !ok {
		t.Fatalf("%q: %q, %v", s, out, ok)
	}
}

// agreesMsg holds ParseMsg of b likewise.
func agreesMsg(t *testing.T, b string) {
	t.Helper()
	want, is := plainParseMsg(b)
	m, ok := ParseMsg([]byte(b))
	if ok != is || !same(m, want) {
		t.Fatalf("%q: %v, %v", b, m, ok)
	}
	if !is {
		return
	}
	if out, ok := Msg(m); string(out) != b || !ok {
		t.Fatalf("%q: %q, %v", b, out, ok)
	}
}

// holds holds Text of k against plain counts, and Parse of what it would have.
func holds(t *testing.T, k api.Key) {
	t.Helper()
	want, is := "", plainKey(k)
	if is {
		want = plainText(k)
	}
	if s, ok := Text(k); s != want || ok != is {
		t.Fatalf("%v: %q, %v", k, s, ok)
	}
	if is {
		if got, ok := Parse(want); got != k || !ok {
			t.Fatalf("%v: %v, %v", k, got, ok)
		}
	}
	agrees(t, plainText(k))
}

// holdsMsg holds Msg of m likewise.
func holdsMsg(t *testing.T, m api.Msg) {
	t.Helper()
	want, is := "", plainMsg(m)
	if is {
		want = plainOctets(m)
	}
	if b, ok := Msg(m); string(b) != want || ok != is {
		t.Fatalf("%v: %q, %v", m, b, ok)
	}
	if is {
		if got, ok := ParseMsg([]byte(want)); !same(got, m) || !ok {
			t.Fatalf("%v: %v, %v", m, got, ok)
		}
	}
	agreesMsg(t, plainOctets(m))
}

// 12.1, 12.2: keys, written and read, octet for octet.
func TestKeys(t *testing.T) {
	for _, c := range keyTexts() {
		if s, ok := Text(c.k); s != c.s || !ok {
			t.Errorf("%v: %q, %v", c.k, s, ok)
		}
		if k, ok := Parse(c.s); k != c.k || !ok {
			t.Errorf("%q: %v, %v", c.s, k, ok)
		}
	}
}

// 12.1, 12.2: messages, written and read, octet for octet.
func TestMsgs(t *testing.T) {
	for _, c := range msgTexts() {
		if b, ok := Msg(c.m); string(b) != c.b || !ok {
			t.Errorf("%v: %q, %v", c.m, b, ok)
		}
		if m, ok := ParseMsg([]byte(c.b)); !same(m, c.m) || !ok {
			t.Errorf("%q: %v, %v", c.b, m, ok)
		}
	}
}

// 12.1: what is no key has no text, and nothing is told beside that.
func TestNoKeys(t *testing.T) {
	for i, k := range []api.Key{
		{}, {A: "q"}, {ID: 1}, {Kind: 6, A: "q"}, {Kind: 6, A: "q", ID: 1}, {Kind: -1, A: "q"}, {Kind: math.MinInt, ID: 1}, {Kind: 257, A: "q"}, {Kind: 1<<32 + 2, A: "q"}, {Kind: math.MaxInt},
		{Kind: 1}, {Kind: 1, B: "q"}, {Kind: 1, C: "q"}, {Kind: 1, ID: 1}, {Kind: 1, A: x(31)}, {Kind: 1, A: x(255)}, {Kind: 1, A: x(256)}, {Kind: 1, A: x(257)}, {Kind: 1, A: "q", B: "q"}, {Kind: 1, A: "q", C: "q"}, {Kind: 1, A: "q", ID: 1},
		{Kind: 2}, {Kind: 2, A: x(31)}, {Kind: 2, A: x(257)}, {Kind: 2, A: "q", B: "q"}, {Kind: 2, A: "q", C: "q"}, {Kind: 2, A: "q", ID: 1},
		{Kind: 3}, {Kind: 3, A: "e"}, {Kind: 3, B: "q"}, {Kind: 3, A: "e", C: "k"}, {Kind: 3, B: "q", C: "k"}, {Kind: 3, A: x(31), B: "q"}, {Kind: 3, A: "e", B: x(31)}, {Kind: 3, A: x(257), B: "q"}, {Kind: 3, A: "e", B: x(257)}, {Kind: 3, A: "e", B: "q", C: x(61)}, {Kind: 3, A: "e", B: "q", C: x(256)}, {Kind: 3, A: "e", B: "q", ID: 1},
		{Kind: 4}, {Kind: 4, A: "q"}, {Kind: 4, A: "q", ID: 1}, {Kind: 4, B: "q", ID: 1}, {Kind: 4, C: "q", ID: 1},
		{Kind: 5}, {Kind: 5, A: "q"}, {Kind: 5, ID: 1}, {Kind: 5, A: x(31), ID: 1}, {Kind: 5, A: x(257), ID: 1}, {Kind: 5, A: "q", B: "q", ID: 1}, {Kind: 5, A: "q", C: "q", ID: 1},
	} {
		if s, ok := Text(k); s != "" || ok {
			t.Errorf("%d: %q, %v", i, s, ok)
		}
	}
}

// 12.1: texts of no key are none, and nothing is told beside that.
func TestNoTexts(t *testing.T) {
	one := eight(1)
	for i, s := range []string{
		"", "\x00", "\x00\x01q", "\x00" + one, "\x06\x01q", "\x06" + one, "\x06\x01q" + one, "\xff\x01q", "1\x01q", "\x81\x01q",
		"\x01", "\x01\x00", "\x01\x02q", "\x01\x01qq", "\x01\x01q\x00", "\x01\x01q" + one, "\x01\x1f" + x(31), "\x01\xff" + x(255),
		"\x02", "\x02\x00", "\x02\x01q\x01q", "\x02\x1f" + x(31),
		"\x03\x01e", "\x03\x01e\x01q", "\x03\x00\x01q\x00", "\x03\x01e\x00\x00", "\x03\x00\x00\x00", "\x03\x01e\x01q\x01", "\x03\x01e\x01q\x00\x00", "\x03\x1f" + x(31) + "\x01q\x00", "\x03\x01e\x1f" + x(31) + "\x00", "\x03\x01e\x01q\x3d" + x(61), "\x03\x01e\x01q\xff" + x(255), "\x03\x01e\x01q\x01k" + one,
		"\x04", "\x04" + eight(0), "\x04" + one[1:], "\x04" + one + "\x00", "\x04\x00" + one, "\x04\x01q" + one,
		"\x05" + one, "\x05\x01q", "\x05\x01q" + eight(0), "\x05\x01q" + one[:7], "\x05\x01q" + one + "\x00", "\x05\x00" + one, "\x05\x1f" + x(31) + one,
	} {
		if k, ok := Parse(s); k != (api.Key{}) || ok {
			t.Errorf("%d: %v, %v", i, k, ok)
		}
	}
}

// 12.1: what is no message has no octets; octets of none are none; nothing is told beside that.
func TestNoMsgs(t *testing.T) {
	for i, m := range []api.Msg{
		{Exch: x(31)}, {Exch: x(255)}, {Exch: x(256)}, {Exch: x(257)}, {Key: x(61)}, {Key: x(255)}, {Key: x(256)}, {Type: x(61)}, {Type: x(255)}, {Type: x(256)},
		{Mode: -1}, {Mode: 3}, {Mode: 255}, {Mode: 256}, {Mode: 258}, {Mode: 1<<32 + 1}, {Mode: math.MinInt}, {Mode: math.MaxInt},
		{Body: []byte(x(10001))}, {Body: []byte(x(1 << 20))}, {Exch: "e", Key: "k", Type: "t", Mode: 3, Body: []byte("b")},
	} {
		if b, ok := Msg(m); len(b) != 0 || ok {
			t.Errorf("%d: %d octets, %v", i, len(b), ok)
		}
	}
	for i, b := range []string{
		"", "\x00", "\x00\x00", "\x00\x00\x00", "\x01", "\x01e", "\x01e\x01k", "\x01e\x01k\x01t", "\x00\x00\x00\x03", "\x00\x00\x00\xff", "\x00\x00\x00\x03body", "\x05e\x00\x00\x00",
		"\x1f" + x(31) + "\x00\x00\x00", "\xff" + x(255) + "\x00\x00\x00", "\x00\x3d" + x(61) + "\x00\x00", "\x00\xff" + x(255) + "\x00\x00", "\x00\x00\x3d" + x(61) + "\x00", "\x00\x00\xff" + x(255) + "\x00", "\x00\x00\x00\x00" + x(10001), "\x01e\x01k\x01t\x02" + x(10001),
	} {
		m, ok := ParseMsg([]byte(b))
		if !same(m, api.Msg{}) || ok {
			t.Errorf("%d: %v, %v", i, m, ok)
		}
	}
}

// 12.1: kinds, lengths and IDs around each bound, each beside each.
func TestBounds(t *testing.T) {
	names := []string{"", "a", x(30), x(31), x(255), x(256), x(257)}
	kinds := []int{math.MinInt, -1, 0, 1, 2, 3, 4, 5, 6, 255, 256, 257, 259, 1<<32 + 3, math.MaxInt}
	for _, kind := range kinds {
		for _, a := range names {
			for _, b := range names {
				for _, c := range []string{"", "b", x(59), x(60), x(61), x(255), x(256), x(257)} {
					for _, id := range []uint64{0, 1, 255, 256, 1 << 63, math.MaxUint64} {
						holds(t, api.Key{Kind: kind, A: a, B: b, C: c, ID: id})
					}
				}
			}
		}
	}
}

// 12.1: parts of messages around each bound, each beside each.
func TestBoundsOfMsgs(t *testing.T) {
	types := []string{"", "b", x(60), x(61), x(256)}
	for _, e := range []string{"", "a", x(29), x(30), x(31), x(60), x(256)} {
		for _, k := range types {
			for _, y := range types {
				for _, mode := range []int{-1, 0, 1, 2, 3, 256, 257} {
					for _, n := range []int{0, 1, 9999, 10000, 10001} {
						holdsMsg(t, api.Msg{Exch: e, Key: k, Type: y, Mode: mode, Body: []byte(x(n))})
					}
				}
			}
		}
	}
}

// 12.1, 12.2: texts cut at each octet, with one octet more, and with each octet made each other one, are read as plain counts say.
func TestSpoilt(t *testing.T) {
	each := func(s string, agrees func(t *testing.T, s string)) {
		for n := range min(len(s), 200) {
			agrees(t, s[:n])
			for v := range 256 {
				agrees(t, s[:n]+octet(v)+s[n+1:])
			}
		}
		for v := range 256 {
			agrees(t, s+octet(v))
		}
		agrees(t, s+s)
	}
	for _, c := range keyTexts() {
		each(c.s, agrees)
	}
	for _, c := range msgTexts() {
		if len(c.b) < 1000 {
			each(c.b, agreesMsg)
		}
	}
	// Ahead of a body of the greatest length only the lengths and the Mode are tried.
	long := "\x01e\x01k\x01t\x02" + x(10000)
	for n := range 7 {
		for v := range 256 {
			agreesMsg(t, long[:n]+octet(v)+long[n+1:])
		}
	}
}

// 12.1: all short texts of few octets are read as plain counts say.
func TestAllShort(t *testing.T) {
	var all func(s string, n int)
	all = func(s string, n int) {
		agrees(t, s)
		agreesMsg(t, s)
		if n == 0 {
			return
		}
		for _, c := range "\x00\x01\x02\x03\x04\x05\x06" {
			all(s+string(c), n-1)
		}
	}
	all("", 6)
	// An ID is behind these.
	for n := range 1 << 8 {
		id := make([]byte, 8)
		for i := range id {
			id[i] = byte(n >> i & 1)
		}
		agrees(t, "\x04"+string(id))
		agrees(t, "\x05\x01q"+string(id))
	}
}

// 12.2: no two keys have the same text, whatever their parts have in common; and none is the beginning of another.
func TestApart(t *testing.T) {
	var found []keyText
	names := []string{"a", "b", "ab", "\x01", "\x01a", "a\x01b", "\x00", "\x02", "\x00\x00\x00\x00\x00\x00\x00\x01"}
	ids := []uint64{1, 2, 0x0161, 1 << 56, 0x0161 << 48, math.MaxUint64}
	for kind := 1; kind <= 5; kind++ {
		for _, a := range append(names, "") {
			for _, b := range append(names, "") {
				for _, c := range []string{"", "a", "\x01a"} {
					for _, id := range append(ids, 0) {
						k := api.Key{Kind: kind, A: a, B: b, C: c, ID: id}
						if s, ok := Text(k); ok {
							found = append(found, keyText{k, s})
						}
					}
				}
			}
		}
	}
	if len(found) != 9+9+9*9*3+6+9*6 {
		t.Fatal(len(found))
	}
	for i, one := range found {
		for _, other := range found[:i] {
			if strings.HasPrefix(one.s, other.s) || strings.HasPrefix(other.s, one.s) {
				t.Fatalf("%v and %v: %q, %q", one.k, other.k, one.s, other.s)
			}
		}
	}
}

// 12.2, and what W1 needs of this layer: the texts of entries of a queue, and of messages, are in the order of their IDs.
func TestOrder(t *testing.T) {
	ids := []uint64{1, 2, 127, 128, 255, 256, 257, 65535, 65536, 1<<32 - 1, 1 << 32, 1<<63 - 1, 1 << 63, math.MaxUint64 - 1, math.MaxUint64}
	for _, k := range []api.Key{{Kind: 4}, {Kind: 5, A: "q"}, {Kind: 5, A: x(30)}} {
		last := ""
		for _, k.ID = range ids {
			s, ok := Text(k)
			if !ok || s <= last {
				t.Errorf("%v: %q behind %q", k, s, last)
			}
			last = s
		}
	}
}

// some tells a text of up to n bytes, now and then of one too many.
func some(r *rand.Rand, n int) string {
	b := make([]byte, r.Intn(n+1)+r.Intn(20)/19)
	for i := range b {
		b[i] = byte(r.Intn(256))
	}
	return string(b)
}

// 12.1, 12.2: many keys and messages of any kind, held against plain counts.
func TestSome(t *testing.T) {
	r := rand.New(rand.NewSource(12))
	good, goodMsgs := 0, 0
	for range 30000 {
		k := api.Key{Kind: r.Intn(7)}
		if k.Kind != api.KMsg || r.Intn(9) == 0 {
			k.A = some(r, 30)
		}
		if k.Kind == api.KBind || r.Intn(20) == 0 {
			k.B, k.C = some(r, 30), some(r, 60)
		}
		if k.Kind >= api.KMsg || r.Intn(20) == 0 {
			k.ID = r.Uint64() >> r.Intn(65)
		}
		holds(t, k)
		if plainKey(k) {
			good++
		}
		m := api.Msg{Exch: some(r, 30), Key: some(r, 60), Type: some(r, 60), Mode: r.Intn(3) + r.Intn(20)/19, Body: []byte(some(r, 100))}
		holdsMsg(t, m)
		if plainMsg(m) {
			goodMsgs++
		}
	}
	if good < 10000 || good > 29000 || goodMsgs < 10000 || goodMsgs > 29900 {
		t.Error("keys and messages:", good, goodMsgs)
	}
}

// Rule 3: what is handed in, its spare room too, is neither changed nor kept; what is answered is new memory.
func TestMemory(t *testing.T) {
	room := []byte("body............")
	m := api.Msg{Exch: "e", Mode: 1, Body: room[:4]}
	one, _ := Msg(m)
	other, _ := Msg(m)
	clear(one[:cap(one)])
	if string(room) != "body............" || string(other) != "\x01e\x00\x00\x01body" {
		t.Errorf("Msg lent: %q, %q", room, other)
	}
	clear(room)
	if string(other) != "\x01e\x00\x00\x01body" {
		t.Errorf("Msg kept: %q", other)
	}
	none, _ := Msg(api.Msg{Body: room[:0]})
	none = append(none, "zzzz"...)
	if clear(none); string(room) != strings.Repeat("\x00", 16) {
		t.Errorf("Msg of an empty Body lent: %q", room)
	}
	in := []byte("\x01e\x01k\x01t\x02body............")
	p, _ := ParseMsg(in[:11])
	q, _ := ParseMsg(in[:11])
	clear(p.Body[:cap(p.Body)])
	if string(in) != "\x01e\x01k\x01t\x02body............" || string(q.Body) != "body" {
		t.Errorf("ParseMsg lent: %q, %q", in, q.Body)
	}
	clear(in)
	if !same(q, api.Msg{Exch: "e", Key: "k", Type: "t", Mode: 2, Body: []byte("body")}) {
		t.Errorf("ParseMsg kept: %v", q)
	}
}

// 12.3 and W6: no text, no key and no message, however long, makes a call panic or go on and on.
func TestEnds(t *testing.T) {
	huge := x(1 << 24)
	for _, k := range []api.Key{{Kind: 1, A: huge}, {Kind: 2, A: huge}, {Kind: 3, A: huge, B: huge, C: huge}, {Kind: 3, A: "e", B: "q", C: huge}, {Kind: 4, A: huge, ID: 1}, {Kind: 5, A: huge, ID: 1}, {Kind: 9, A: huge}} {
		if s, ok := Text(k); s != "" || ok {
			t.Error(k.Kind, len(s))
		}
	}
	for _, m := range []api.Msg{{Exch: huge}, {Key: huge}, {Type: huge}, {Body: []byte(huge)}} {
		if b, ok := Msg(m); len(b) != 0 || ok {
			t.Error(len(b))
		}
	}
	for c := range 256 {
		long := strings.Repeat(octet(c), 1<<16)
		for n := range 300 {
			agrees(t, long[:n])
			agreesMsg(t, long[:n])
		}
		agrees(t, long)
		agreesMsg(t, long)
	}
	for kind := range 7 {
		agrees(t, octet(kind)+huge)
	}
	agreesMsg(t, "\x00\x00\x00\x00"+huge)
	agreesMsg(t, huge)
	if m, ok := ParseMsg(nil); !same(m, api.Msg{}) || ok {
		t.Error(m)
	}
}

// 12.1, 12.2 and 12.3: any text is a key's just when a plain count says so.
func FuzzParse(f *testing.F) {
	for _, c := range keyTexts() {
		f.Add(c.s)
		f.Add(c.s + "\x00")
		f.Add(c.s[:len(c.s)-1])
	}
	for _, s := range []string{"", "\x00", "\x06\x01q", "\x01\x00", "\x01\x1f" + x(31), "\x03\x01e\x01q\x3d" + x(61), "\x04" + eight(0)} {
		f.Add(s)
	}
	f.Fuzz(func(t *testing.T, s string) {
		agrees(t, s)
	})
}

// 12.1, 12.2 and 12.3: any octets are a message's just when a plain count says so.
func FuzzParseMsg(f *testing.F) {
	for _, c := range msgTexts() {
		f.Add([]byte(c.b))
		f.Add([]byte(c.b + "\x00"))
		f.Add([]byte(c.b[:len(c.b)-1]))
	}
	for _, s := range []string{"", "\x00\x00\x00\x03", "\x1f" + x(31) + "\x00\x00\x00", "\x00\x3d" + x(61) + "\x00\x00", "\x00\x00\x3d" + x(61) + "\x00"} {
		f.Add([]byte(s))
	}
	f.Fuzz(func(t *testing.T, b []byte) {
		was := string(b)
		agreesMsg(t, was)
		ParseMsg(b)
		if string(b) != was {
			t.Fatalf("%q: changed", was)
		}
	})
}
