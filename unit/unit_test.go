package unit

import (
	"encoding/binary"
	"maps"
	"math/rand"
	"slices"
	"strings"
	"testing"

	"waybill/api"
	"waybill/jour"
	"waybill/sect"
)

// unitText is a unit: its ops, its octets, and where its values lie in them.
type unitText struct {
	l      []api.Op
	s      string
	places []api.Place
}

// x tells a text of n bytes.
func x(n int) string {
	return strings.Repeat("x", n)
}

// octet tells the text of one octet.
func octet(n int) string {
	return string([]byte{byte(n)})
}

// val tells a put.
func val(key, v string) api.Op {
	return api.Op{Key: key, Val: []byte(v)}
}

// gone tells a Del.
func gone(key string) api.Op {
	return api.Op{Key: key, Del: true}
}

// unitTexts are units with the least, the greatest and ordinary ops.
func unitTexts() []unitText {
	return []unitText{
		{nil, "", nil}, // the document's example
		{[]api.Op{}, "", nil},
		{[]api.Op{{Key: "a"}}, "\x01\x01a\x00\x00\x00\x00", []api.Place{{Key: "a", At: 7}}},
		{[]api.Op{{Key: "a", Val: []byte{}}}, "\x01\x01a\x00\x00\x00\x00", []api.Place{{Key: "a", At: 7}}},
		{[]api.Op{val("a", "v")}, "\x01\x01a\x00\x00\x00\x01v", []api.Place{{Key: "a", At: 7, N: 1}}},
		{[]api.Op{gone("a")}, "\x02\x01a", []api.Place{{Key: "a", Del: true}}},
		{[]api.Op{{Key: "a", Del: true, Val: []byte{}}}, "\x02\x01a", []api.Place{{Key: "a", Del: true}}},
		{[]api.Op{val("\x00", "\x00"), val("\xff\x01", "\xff\x02\x01")}, "\x01\x01\x00\x00\x00\x00\x01\x00\x01\x02\xff\x01\x00\x00\x00\x03\xff\x02\x01", []api.Place{{Key: "\x00", At: 7, N: 1}, {Key: "\xff\x01", At: 16, N: 3}}},
		{[]api.Op{gone("bc"), val("a", "xyz"), val("a", ""), gone("a")}, "\x02\x02bc\x01\x01a\x00\x00\x00\x03xyz\x01\x01a\x00\x00\x00\x00\x02\x01a", []api.Place{{Key: "bc", Del: true}, {Key: "a", At: 11, N: 3}, {Key: "a", At: 21}, {Key: "a", Del: true}}},
		{[]api.Op{val(x(129), "v"), val(x(130), x(300)), gone(x(130))}, "\x01\x81" + x(129) + "\x00\x00\x00\x01v\x01\x82" + x(130) + "\x00\x00\x01\x2c" + x(300) + "\x02\x82" + x(130), []api.Place{{Key: x(129), At: 135, N: 1}, {Key: x(130), At: 272, N: 300}, {Key: x(130), Del: true}}},
		{[]api.Op{val("a", x(10999)), val(x(130), x(11000)), val("b", "v")}, "\x01\x01a\x00\x00\x2a\xf7" + x(10999) + "\x01\x82" + x(130) + "\x00\x00\x2a\xf8" + x(11000) + "\x01\x01b\x00\x00\x00\x01v", []api.Place{{Key: "a", At: 7, N: 10999}, {Key: x(130), At: 11142, N: 11000}, {Key: "b", At: 22149, N: 1}}},
	}
}

// four tells the octets of a number of four.
func four(n int) string {
	return string(binary.BigEndian.AppendUint32(nil, uint32(n)))
}

// plainOctets writes what ops would have, whether they may be or not: of a key that is too long its length's lowest octet is ahead of it.
func plainOctets(l []api.Op) string {
	var s strings.Builder
	for _, o := range l {
		if o.Del {
			s.WriteString("\x02" + octet(len(o.Key)) + o.Key)
		} else {
			s.WriteString("\x01" + octet(len(o.Key)) + o.Key + four(len(o.Val)) + string(o.Val))
		}
	}
	return s.String()
}

// plainOp tells whether an op may be.
func plainOp(o api.Op) bool {
	key, v := len(o.Key), len(o.Val)
	return key > 0 && key < 131 && (o.Del && v == 0 || !o.Del && v < 11001)
}

// plainUnit tells whether ops are a unit, by a count of their octets.
func plainUnit(l []api.Op) bool {
	n := 0
	for _, o := range l {
		if !plainOp(o) {
			return false
		}
		n += 2 + len(o.Key)
		if !o.Del {
			n += 4 + len(o.Val)
		}
	}
	return n < 190001
}

// plainParse tells what Parse and Places should, by a count of its own.
func plainParse(s string) (l []api.Op, places []api.Place, ok bool) {
	for i := 0; i < len(s); {
		o, at := api.Op{Del: s[i] == 2}, i+2
		if s[i] != 1 && s[i] != 2 || at > len(s) || at+int(s[i+1]) > len(s) {
			return nil, nil, false
		}
		o.Key = s[at : at+int(s[i+1])]
		p := api.Place{Key: o.Key, Del: o.Del}
		i = at + len(o.Key)
		if !o.Del {
			if len(s)-i < 4 {
				return nil, nil, false
			}
			n := int(binary.BigEndian.Uint32([]byte(s[i:])))
			if i += 4; len(s)-i < n {
				return nil, nil, false
			}
			o.Val, p.At, p.N = []byte(s[i:i+n]), i, n
			i += n
		}
		l, places = append(l, o), append(places, p)
	}
	if !plainUnit(l) {
		return nil, nil, false
	}
	return l, places, true
}

// plainApply tells what Apply should make of m: of each key what its last op says.
func plainApply(m map[string]string, l []api.Op) map[string]string {
	last := map[string]api.Op{}
	for _, o := range l {
		last[o.Key] = o
	}
	out := map[string]string{}
	for k, v := range m {
		if _, ok := last[k]; !ok {
			out[k] = v
		}
	}
	for k, o := range last {
		if !o.Del {
			out[k] = string(o.Val)
		}
	}
	return out
}

// same tells whether two lists of ops are the same; nil and an empty Val are (rule 1).
func same(a, b []api.Op) bool {
	return slices.EqualFunc(a, b, func(a, b api.Op) bool {
		return a.Key == b.Key && a.Del == b.Del && string(a.Val) == string(b.Val)
	})
}

// agrees holds Parse and Places of s against a plain count; what is a unit is written as it was read, octet for octet.
func agrees(t *testing.T, s string) {
	t.Helper()
	want, places, is := plainParse(s)
	l, ok := Parse([]byte(s))
	if ok != is || !same(l, want) {
		t.Fatalf("%.300q: %d ops, %v", s, len(l), ok)
	}
	p, ok := Places([]byte(s))
	if ok != is || !slices.Equal(p, places) {
		t.Fatalf("%.300q: %d places, %v", s, len(p), ok)
	}
	if !is {
		return
	}
	if b, ok := Append(l); string(b) != s || !ok {
		t.Fatalf("%.300q: %.300q, %v", s, b, ok)
	}
}

// holds holds Append of l against plain counts, and Parse and Places of what it would have.
func holds(t *testing.T, l []api.Op) {
	t.Helper()
	want, is := "", plainUnit(l)
	if is {
		want = plainOctets(l)
	}
	if b, ok := Append(l); string(b) != want || ok != is {
		t.Fatalf("%.300q: %.300q, %v", plainOctets(l), b, ok)
	}
	if is {
		if got, ok := Parse([]byte(want)); !same(got, l) || !ok {
			t.Fatalf("%.300q: %d ops, %v", want, len(got), ok)
		}
	}
	agrees(t, plainOctets(l))
}

// 13.1: units, written and read, octet for octet, and where their values lie.
func TestUnits(t *testing.T) {
	for i, c := range unitTexts() {
		if b, ok := Append(c.l); string(b) != c.s || !ok {
			t.Errorf("%d: %.300q, %v", i, b, ok)
		}
		if l, ok := Parse([]byte(c.s)); !same(l, c.l) || !ok {
			t.Errorf("%d: %d ops, %v", i, len(l), ok)
		}
		if l, ok := Places([]byte(c.s)); !slices.Equal(l, c.places) || !ok {
			t.Errorf("%d: %v, %v", i, l, ok)
		}
	}
}

// 13.1: ops that may not be have no octets, wherever they stand, and nothing is told beside that.
func TestNoUnits(t *testing.T) {
	for i, o := range []api.Op{
		{}, {Val: []byte("v")}, {Del: true}, {Del: true, Val: []byte("v")},
		{Key: x(131)}, {Key: x(255)}, {Key: x(256)}, {Key: x(257)}, {Key: x(131), Del: true}, {Key: x(256), Del: true}, {Key: x(257), Del: true},
		{Key: "a", Del: true, Val: []byte("v")}, {Key: "a", Del: true, Val: []byte{0}}, {Key: "a", Del: true, Val: []byte(x(11001))},
		{Key: "a", Val: []byte(x(11001))}, {Key: "a", Val: []byte(x(65536))}, {Key: "a", Val: []byte(x(189993))}, {Key: "a", Val: []byte(x(190000))},
	} {
		good := val("a", "v")
		for _, l := range [][]api.Op{{o}, {o, o}, {good, o}, {o, good}, {good, o, good}, {gone("a"), gone("b"), o}} {
			if b, ok := Append(l); len(b) != 0 || ok {
				t.Errorf("%d: %.300q, %v", i, b, ok)
			}
		}
	}
}

// 13.1: octets of no unit are none, wherever the fault stands, and nothing is told beside that.
func TestNoOctets(t *testing.T) {
	for i, s := range []string{
		"\x00", "\x00\x01a", "\x00\x01a\x00\x00\x00\x00", "\x03\x01a", "\x03\x01a\x00\x00\x00\x00", "\xff\x01a", "1\x01a", "2\x01a",
		"\x01", "\x01\x00", "\x01\x00\x00\x00\x00\x00", "\x01\x01", "\x01\x01a", "\x01\x02a", "\x01\x01a\x00\x00\x00", "\x01\x01a\x00\x00\x00\x01", "\x01\x01a\x00\x00\x00\x02v", "\x01\x01a\x80\x00\x00\x00", "\x01\x01a\xff\xff\xff\xff", "\x01\x01a\xff\xff\xff\xffv",
		"\x01\x83" + x(131) + "\x00\x00\x00\x00", "\x01\xff" + x(255) + "\x00\x00\x00\x00", "\x01\x01a\x00\x00\x2a\xf9" + x(11001), "\x01\x01a\x00\x01\x00\x00" + x(65536),
		"\x02", "\x02\x00", "\x02\x01", "\x02\x02a", "\x02\x01a\x00", "\x02\x01a\x00\x00\x00\x00", "\x02\x01a\x00\x00\x00\x01v", "\x02\x83" + x(131), "\x02\xff" + x(255),
	} {
		good := "\x01\x01a\x00\x00\x00\x01v"
		for _, s := range []string{s, good + s, good + "\x02\x01b" + s} {
			if l, ok := Parse([]byte(s)); len(l) != 0 || ok {
				t.Errorf("%d: %d ops, %v", i, len(l), ok)
			}
			if l, ok := Places([]byte(s)); len(l) != 0 || ok {
				t.Errorf("%d: %v, %v", i, l, ok)
			}
		}
	}
}

// 13.1: keys and values around each bound, each beside each, alone and between others.
func TestBounds(t *testing.T) {
	keys := []string{"", "a", x(129), x(130), x(131), x(255), x(256), x(257), x(300)}
	for _, key := range keys {
		for _, n := range []int{0, 1, 255, 256, 10999, 11000, 11001, 65535, 65536} {
			for _, del := range []bool{false, true} {
				o := api.Op{Key: key, Del: del, Val: []byte(x(n))}
				holds(t, []api.Op{o})
				holds(t, []api.Op{val("a", "v"), o, gone("b")})
			}
		}
	}
}

// filled tells ops of n octets in all, of which the last one is a put.
func filled(n int) []api.Op {
	var l []api.Op
	for ; n > 11007; n -= 10000 {
		l = append(l, val("a", x(9993)))
	}
	return append(l, val("a", x(n-7)))
}

// 13.1: all octets together around 190,000, with any op as the last one.
func TestMost(t *testing.T) {
	for n := 189980; n <= 190020; n++ {
		l := filled(n)
		b, ok := Append(l)
		if ok != (n <= 190000) || ok && len(b) != n || !ok && len(b) != 0 {
			t.Errorf("%d: %d, %v", n, len(b), ok)
		}
		holds(t, l)
		holds(t, slices.Insert(slices.Clone(l), 0, gone("a")))
		holds(t, append(slices.Clone(l), gone("a")))
		holds(t, append(slices.Clone(l), gone("abcd"), val("a", "")))
	}
	holds(t, filled(380000))
	for _, n := range []int{27142, 27143} {
		holds(t, slices.Repeat([]api.Op{{Key: "a"}}, n))
	}
	for _, n := range []int{63333, 63334} {
		holds(t, slices.Repeat([]api.Op{gone("a")}, n))
	}
}

// 13.1, and what W3 needs of this layer: units cut at each octet, with one octet more, and with each octet made each other one, are read whole or not at all, as plain counts say.
func TestSpoilt(t *testing.T) {
	for _, c := range unitTexts() {
		if len(c.s) > 1000 {
			continue
		}
		for n := range len(c.s) {
			agrees(t, c.s[:n])
			for v := range 256 {
				agrees(t, c.s[:n]+octet(v)+c.s[n+1:])
			}
		}
		for v := range 256 {
			agrees(t, c.s+octet(v))
			agrees(t, octet(v)+c.s)
		}
		agrees(t, c.s+c.s)
	}
	// Of the greatest value only what is ahead of it and its end is tried.
	long := plainOctets([]api.Op{val("ab", x(11000)), gone("c")})
	for _, n := range []int{0, 1, 2, 3, 4, 5, 6, 7, 8, 11007, 11008, 11009, 11010} {
		agrees(t, long[:n])
		for v := range 256 {
			agrees(t, long[:n]+octet(v)+long[n+1:])
		}
	}
}

// 13.1: all short rows of few octets are read as plain counts say.
func TestAllShort(t *testing.T) {
	var all func(s string, n int)
	all = func(s string, n int) {
		agrees(t, s)
		if n == 0 {
			return
		}
		for _, c := range "\x00\x01\x02\x03" {
			all(s+string(c), n-1)
		}
	}
	all("", 8)
	for n := range 1 << 12 {
		b := make([]byte, 12)
		for i := range b {
			b[i] = byte(n >> i & 1)
		}
		agrees(t, "\x01\x01a\x00\x00\x00"+string(b))
		agrees(t, "\x02\x01a\x01"+string(b))
	}
}

// 13.1: a Place says where its op's value is, in b itself.
func TestPlaces(t *testing.T) {
	r := rand.New(rand.NewSource(131))
	for range 2000 {
		l := some(r)
		b, ok := Append(l)
		if !ok {
			continue
		}
		p, ok := Places(b)
		if !ok || len(p) != len(l) {
			t.Fatalf("%q: %v, %v", b, p, ok)
		}
		for i, o := range l {
			if p[i].Key != o.Key || p[i].Del != o.Del || string(b[p[i].At:p[i].At+p[i].N]) != string(o.Val) || o.Del && p[i].At != 0 {
				t.Fatalf("%q: %v of %v", b, p[i], o)
			}
		}
	}
}

// some tells a list of ops, now and then with one that may not be.
func some(r *rand.Rand) []api.Op {
	var l []api.Op
	for range r.Intn(8) {
		o := api.Op{Key: text(r, 1+r.Intn(2)*129), Del: r.Intn(3) == 0}
		if !o.Del || r.Intn(30) == 0 {
			o.Val = []byte(text(r, r.Intn(3)*20))
		}
		if r.Intn(100) == 0 {
			o.Val = []byte(x(10990 + r.Intn(15)))
		}
		l = append(l, o)
	}
	return l
}

// text tells a text of up to n bytes, seldom an empty one.
func text(r *rand.Rand, n int) string {
	b := make([]byte, max(r.Intn(n+1), r.Intn(10)/9*n, min(n, r.Intn(20))))
	for i := range b {
		b[i] = byte(r.Intn(4))
	}
	return string(b)
}

// 13.1: many lists of any kind, held against plain counts, and done to maps.
func TestSome(t *testing.T) {
	r := rand.New(rand.NewSource(13))
	m, good := map[string]string{}, 0
	for range 20000 {
		l := some(r)
		holds(t, l)
		want := plainApply(m, l)
		if Apply(m, l); !maps.Equal(m, want) {
			t.Fatalf("%v: %q", l, m)
		}
		if plainUnit(l) {
			good++
		}
		if len(m) > 200 {
			clear(m)
		}
	}
	if good < 10000 || good > 19500 {
		t.Error("units:", good)
	}
}

// 13.1: each op is done, in order; what is not there may be deleted.
func TestApply(t *testing.T) {
	for i, c := range []struct {
		m    map[string]string
		l    []api.Op
		want map[string]string
	}{
		{map[string]string{"a": "1"}, nil, map[string]string{"a": "1"}},
		{map[string]string{}, []api.Op{val("a", "1")}, map[string]string{"a": "1"}},
		{map[string]string{}, []api.Op{{Key: "a"}}, map[string]string{"a": ""}},
		{map[string]string{"a": "1"}, []api.Op{{Key: "a"}}, map[string]string{"a": ""}},
		{map[string]string{"a": "1", "b": "2"}, []api.Op{val("a", "\x00\xff")}, map[string]string{"a": "\x00\xff", "b": "2"}},
		{map[string]string{"a": "1", "b": "2"}, []api.Op{gone("a")}, map[string]string{"b": "2"}},
		{map[string]string{"a": "1"}, []api.Op{gone("b"), gone("A"), gone("aa")}, map[string]string{"a": "1"}},
		{map[string]string{}, []api.Op{gone("a")}, map[string]string{}},
		{map[string]string{}, []api.Op{val("a", "1"), val("a", "2"), val("a", "3")}, map[string]string{"a": "3"}},
		{map[string]string{"a": "0"}, []api.Op{val("a", "1"), gone("a")}, map[string]string{}},
		{map[string]string{"a": "0"}, []api.Op{gone("a"), val("a", "1")}, map[string]string{"a": "1"}},
		{map[string]string{"a": "0"}, []api.Op{gone("a"), val("a", "1"), gone("a"), gone("a"), val("b", "2")}, map[string]string{"b": "2"}},
		// Nothing is asked of Apply's ops, so those that may not be are done too.
		{map[string]string{"": "0"}, []api.Op{{Key: "a", Del: true, Val: []byte("v")}, gone("")}, map[string]string{}},
		{map[string]string{}, []api.Op{val("", "1"), val(x(131), x(11001))}, map[string]string{"": "1", x(131): x(11001)}},
	} {
		if Apply(c.m, c.l); !maps.Equal(c.m, c.want) {
			t.Errorf("%d: %.300q", i, c.m)
		}
	}
}

// 13.2: a unit is done whole: with as many ops as may be, the first and the last of them too.
func TestWhole(t *testing.T) {
	var l []api.Op
	for n := range 10000 {
		l = append(l, val("k"+four(n), four(n)))
	}
	b, ok := Append(l)
	if !ok {
		t.Fatal(len(b))
	}
	m := map[string]string{"old": "1"}
	if l, ok = Parse(b); ok {
		Apply(m, l)
	}
	if len(m) != 10001 || m["old"] != "1" {
		t.Error(len(m))
	}
	for n := range 10000 {
		if m["k"+four(n)] != four(n) {
			t.Fatal(n)
		}
	}
	for i := range l {
		l[i] = gone(l[i].Key)
	}
	b, ok = Append(l)
	if !ok {
		t.Fatal(len(b))
	}
	if l, ok = Parse(b); ok {
		Apply(m, l)
	}
	if len(m) != 1 || m["old"] != "1" {
		t.Error(len(m))
	}
}

// script is what is done to a map, unit for unit: of one sector, of several, of none but Dels, of nothing.
func script() [][]api.Op {
	return [][]api.Op{
		{val("a", "1"), val("b", "2")},
		{val("c", x(70)), gone("a"), val("d", x(40))},
		{gone("b"), gone("c")},
		nil,
		{val("a", ""), val("d", "4"), val("e", x(50)), gone("e"), val("f", x(30))},
	}
}

// states tells the maps that the script goes through, the empty one ahead of all.
func states() []map[string]string {
	l := []map[string]string{{}}
	for i, ops := range script() {
		l = append(l, plainApply(l[i], ops))
	}
	return l
}

// begun puts the units into a journal until an error: how many went well.
func begun(t *testing.T, d *sect.Dev) int {
	t.Helper()
	j, _ := jour.Open(d)
	for i, ops := range script() {
		b, ok := Append(ops)
		if !ok {
			t.Fatal(i)
		}
		if _, e := j.Append(api.BUnit, b); e != api.OK {
			return i
		}
	}
	return len(script())
}

// 13.2 and W3: behind a crash at any write, with any sectors lost or bad, the units of a journal are those that went well, perhaps with the one that was begun: each of its ops is done, or none.
func TestCrash(t *testing.T) {
	more := map[bool]int{}
	all := states()
	for n := range 25 {
		d := sect.New(100)
		d.Fuse(n)
		sure := begun(t, d)
		for i := range 243 {
			c := d.Copy()
			c.Crash([]int{i, i / 3, i / 9, i / 27, i / 81})
			m, l := map[string]string{}, jour.Scan(c)
			for _, b := range l {
				ops, ok := Parse(b.B)
				if !ok {
					t.Fatalf("%d, %d: %q", n, i, b.B)
				}
				Apply(m, ops)
			}
			if len(l) < sure || len(l) > sure+1 || !maps.Equal(m, all[len(l)]) {
				t.Fatalf("%d, %d: %d of %d, %q", n, i, len(l), sure, m)
			}
			more[len(l) > sure]++
		}
	}
	if more[false] == 0 || more[true] == 0 {
		t.Error(more)
	}
}

// 13.1: what a Place says is where jour.Read finds the value behind the beginning of its batch.
func TestRead(t *testing.T) {
	d := sect.New(100)
	j, _ := jour.Open(d)
	for i, ops := range script() {
		b, _ := Append(ops)
		x, e := j.Append(api.BUnit, b)
		p, ok := Places(b)
		if e != api.OK || !ok {
			t.Fatal(i, e, ok)
		}
		for k, o := range ops {
			got, e := jour.Read(d, x.File, x.At, p[k].At+p[k].N)
			if e != api.OK || string(got[p[k].At:]) != string(o.Val) && !o.Del {
				t.Errorf("%d, %d: %q, %v", i, k, got, e)
			}
		}
	}
}

// Rule 3: what is handed in, its spare room too, is neither changed nor kept; what is answered is new memory.
func TestMemory(t *testing.T) {
	room := []byte("value............")
	l := []api.Op{{Key: "a", Val: room[:5]}, {Key: "b", Val: room[:0]}, {Key: "c", Del: true}, {Key: "spare"}}
	want := "\x01\x01a\x00\x00\x00\x05value\x01\x01b\x00\x00\x00\x00\x02\x01c"
	one, _ := Append(l[:3])
	other, _ := Append(l[:3])
	clear(one[:cap(one)])
	m := map[string]string{}
	Apply(m, l[:3])
	if string(room) != "value............" || string(other) != want || l[3].Key != "spare" || l[0].Key != "a" {
		t.Errorf("Append lent: %q, %q, %v", room, other, l)
	}
	clear(room)
	if string(other) != want || m["a"] != "value" {
		t.Errorf("kept: %q, %q", other, m)
	}
	in := []byte(want + "............")
	p, _ := Parse(in[:len(want)])
	q, _ := Parse(in[:len(want)])
	places, _ := Places(in[:len(want)])
	for _, o := range p[:cap(p)] {
		clear(o.Val[:cap(o.Val)])
	}
	clear(p[:cap(p)])
	if string(in) != want+"............" || !same(q, []api.Op{val("a", "value"), val("b", ""), gone("c")}) {
		t.Errorf("Parse lent: %q, %v", in, q)
	}
	clear(in)
	if !same(q, []api.Op{val("a", "value"), val("b", ""), gone("c")}) || !slices.Equal(places, []api.Place{{Key: "a", At: 7, N: 5}, {Key: "b", At: 19}, {Key: "c", Del: true}}) {
		t.Errorf("kept: %v, %v", q, places)
	}
}

// Rule 3: no two values of one answer share memory, their spare room neither.
func TestApart(t *testing.T) {
	b, _ := Append([]api.Op{val("a", "one"), val("b", "two"), val("c", ""), val("d", "four")})
	l, _ := Parse(b)
	for i := range l {
		_ = append(l[i].Val, "zzzzzzzz"...)
	}
	if !same(l, []api.Op{val("a", "one"), val("b", "two"), val("c", ""), val("d", "four")}) {
		t.Error(l)
	}
}

// 13.3 and W6: no ops and no octets, however many or long, make a call panic or go on and on; neither does a map that is nil.
func TestEnds(t *testing.T) {
	huge := x(1 << 24)
	for i, l := range [][]api.Op{
		{val(huge, "v")}, {gone(huge)}, {val("a", huge)}, {{Key: "a", Del: true, Val: []byte(huge)}}, {val(huge, huge)},
		slices.Repeat([]api.Op{gone("a")}, 1<<20), slices.Repeat([]api.Op{val("a", x(11000))}, 1<<20), make([]api.Op, 1<<20),
	} {
		if b, ok := Append(l); len(b) != 0 || ok {
			t.Error(i, len(b), ok)
		}
	}
	for c := range 256 {
		long := strings.Repeat(octet(c), 200000)
		for n := range 300 {
			agrees(t, long[:n])
		}
		agrees(t, long[:190000])
		agrees(t, long)
	}
	for i, s := range []string{"\x01\x01a\x01\x00\x00\x00" + huge, "\x02\x01a" + huge, strings.Repeat("\x02\x01a", 1<<22), huge} {
		if l, ok := Parse([]byte(s)); len(l) != 0 || ok {
			t.Error(i, len(l), ok)
		}
		if l, ok := Places([]byte(s)); len(l) != 0 || ok {
			t.Error(i, len(l), ok)
		}
	}
	Apply(nil, nil)
	Apply(nil, []api.Op{val("a", "1"), gone("a"), {}, gone("")})
	m := map[string]string{}
	if Apply(m, slices.Repeat([]api.Op{val("a", "1"), gone("a"), val(huge, huge)}, 20)); len(m) != 1 || m[huge] != huge {
		t.Error(len(m))
	}
}

// 13.1, 13.2 and 13.3: any octets are a unit's just when a plain count says so, and are done as their ops are.
func FuzzParse(f *testing.F) {
	for _, c := range unitTexts() {
		f.Add([]byte(c.s))
		f.Add([]byte(c.s + "\x00"))
		f.Add([]byte(c.s + "\x02\x01b"))
	}
	for _, s := range []string{"\x00", "\x03\x01a", "\x01\x00\x00\x00\x00\x00", "\x01\x01a\xff\xff\xff\xff", "\x02\x83" + x(131), "\x01\x01a\x00\x00\x2a\xf9" + x(11001)} {
		f.Add([]byte(s))
	}
	f.Fuzz(func(t *testing.T, b []byte) {
		was := string(b)
		agrees(t, was)
		l, _ := Parse(b)
		Places(b)
		m := map[string]string{"a": "1", "b": "2"}
		want := plainApply(m, l)
		if Apply(m, l); !maps.Equal(m, want) {
			t.Fatalf("%q: %q", was, m)
		}
		if string(b) != was {
			t.Fatalf("%q: changed", was)
		}
	})
}
