package node

import (
	"bytes"
	"encoding/binary"
	"math"
	"math/rand"
	"slices"
	"strings"
	"testing"

	"waybill/api"
)

// page is a node whose octets are written out.
type page struct {
	name string
	n    api.Node
	b    string
}

// x tells a text of n bytes.
func x(n int) string {
	return strings.Repeat("x", n)
}

// octet tells the text of one octet.
func octet(n int) string {
	return string([]byte{byte(n)})
}

// two tells the octets of a number of two octets.
func two(n int) string {
	return octet(n/256) + octet(n)
}

// leaf and inner make nodes of rows.
func leaf(rows ...api.Row) api.Node  { return api.Node{Leaf: true, Rows: rows} }
func inner(rows ...api.Row) api.Node { return api.Node{Rows: rows} }

// ordinal tells a key of one byte: there are 256 of them, and they rise.
func ordinal(i int) string {
	return octet(i)
}

// many tells a node of so many rows that are as short as rows can be.
func many(isLeaf bool, n int) api.Node {
	rows := make([]api.Row, n)
	for i := range rows {
		rows[i].Key = ordinal(i)
		if !isLeaf {
			rows[i].Page = i + 2
		}
	}
	return api.Node{Leaf: isLeaf, Rows: rows}
}

// pages are nodes that are Ok.
func pages() []page {
	rows := func(isLeaf bool, n int) string {
		b := "\x02" + two(n)
		if isLeaf {
			b = "\x01" + two(n)
		}
		for i := range n {
			b += "\x01" + ordinal(i)
			if isLeaf {
				b += "\x00"
			} else {
				b += "\x00\x00" + two(i+2)
			}
		}
		return b
	}
	return []page{
		{"the document's example", leaf(), "\x01\x00\x00"},
		{"a leaf of a row", leaf(api.Row{Key: "a", Val: "v"}), "\x01\x00\x01\x01a\x01v"},
		{"a leaf without a value", leaf(api.Row{Key: "a"}), "\x01\x00\x01\x01a\x00"},
		{"a leaf of three", leaf(api.Row{Key: "a", Val: "12"}, api.Row{Key: "ab"}, api.Row{Key: "b", Val: "a"}), "\x01\x00\x03\x01a\x0212\x02ab\x00\x01b\x01a"},
		{"a leaf of any bytes", leaf(api.Row{Key: "\x00", Val: "\x00"}, api.Row{Key: "\x00\x00", Val: "\xff"}, api.Row{Key: "\x7f"}, api.Row{Key: "\x80"}, api.Row{Key: "\xff\xfe", Val: "\x01\x00\x00"}), "\x01\x00\x05\x01\x00\x01\x00\x02\x00\x00\x01\xff\x01\x7f\x00\x01\x80\x00\x02\xff\xfe\x03\x01\x00\x00"},
		{"a leaf of the longest", leaf(api.Row{Key: x(130), Val: x(20)}), "\x01\x00\x01\x82" + x(130) + "\x14" + x(20)},
		{"a leaf of one below", leaf(api.Row{Key: x(129), Val: x(19)}), "\x01\x00\x01\x81" + x(129) + "\x13" + x(19)},
		{"a leaf of three of the longest", leaf(api.Row{Key: x(129) + "a", Val: x(20)}, api.Row{Key: x(129) + "b", Val: x(20)}, api.Row{Key: x(129) + "c", Val: x(20)}), "\x01\x00\x03\x82" + x(129) + "a\x14" + x(20) + "\x82" + x(129) + "b\x14" + x(20) + "\x82" + x(129) + "c\x14" + x(20)},
		{"a full leaf", many(true, 169), rows(true, 169)},
		{"another page of a row", inner(api.Row{Key: "a", Page: 2}), "\x02\x00\x01\x01a\x00\x00\x00\x02"},
		{"another page of three", inner(api.Row{Key: "a", Page: 0x01020304}, api.Row{Key: "b", Page: 1<<32 - 1}, api.Row{Key: "c", Page: 3}), "\x02\x00\x03\x01a\x01\x02\x03\x04\x01b\xff\xff\xff\xff\x01c\x00\x00\x00\x03"},
		{"another page of one page twice", inner(api.Row{Key: "a", Page: 9}, api.Row{Key: "b", Page: 9}), "\x02\x00\x02\x01a\x00\x00\x00\x09\x01b\x00\x00\x00\x09"},
		{"another page of the highest bit", inner(api.Row{Key: "\x00", Page: 1 << 31}), "\x02\x00\x01\x01\x00\x80\x00\x00\x00"},
		{"another page of the longest", inner(api.Row{Key: x(130), Page: 256}), "\x02\x00\x01\x82" + x(130) + "\x00\x00\x01\x00"},
		{"another full page", many(false, 84), rows(false, 84)},
	}
}

// same tells whether two nodes are the same; nil and an empty list are (rule 1).
func same(a, b api.Node) bool {
	return a.Leaf == b.Leaf && slices.Equal(a.Rows, b.Rows)
}

// refused holds that b is no node, and that nothing is told beside that (rule 4).
func refused(t *testing.T, name, b string) {
	t.Helper()
	if n, ok := Parse([]byte(b)); ok || n.Leaf || len(n.Rows) != 0 {
		t.Errorf("%s: Parse of %d octets: %v, %v", name, len(b), n, ok)
	}
}

// told holds that b is the node n.
func told(t *testing.T, name, b string, n api.Node) {
	t.Helper()
	if got, ok := Parse([]byte(b)); !same(got, n) || !ok {
		t.Errorf("%s: Parse of %d octets: %v, %v", name, len(b), got, ok)
	}
}

// holds holds Ok and Append of a node against what they should tell, and, where its octets are written out, Parse of them. (Who gives no node's octets gives none.)
func holds(t *testing.T, name string, n api.Node, ok bool, b string) {
	t.Helper()
	was := slices.Clone(n.Rows)
	if Ok(n) != ok {
		t.Errorf("%s: Ok %v", name, !ok)
	}
	out, is := Append(n)
	if is != ok || !ok && len(out) != 0 || ok && len(out) != Size(n) || ok && b != "" && string(out) != b {
		t.Errorf("%s: Append %q, %v", name, out, is)
	}
	if !slices.Equal(n.Rows, was) {
		t.Errorf("%s: changed", name)
	}
	if !ok && b != "" {
		refused(t, name, b)
	}
	if ok {
		told(t, name, string(out), n)
	}
}

// 10.1, 10.3: nodes, written and read, octet for octet; nil and an empty list are the same.
func TestPages(t *testing.T) {
	for _, c := range pages() {
		holds(t, c.name, c.n, true, c.b)
		if Size(c.n) != len(c.b) {
			t.Errorf("%s: %d octets", c.name, Size(c.n))
		}
	}
	for _, rows := range [][]api.Row{nil, {}, make([]api.Row, 0, 9)} {
		holds(t, "an empty leaf", api.Node{Leaf: true, Rows: rows}, true, "\x01\x00\x00")
		holds(t, "another page, empty", api.Node{Rows: rows}, false, "\x02\x00\x00")
		if n := Size(api.Node{Rows: rows}); n != 3 {
			t.Error(n)
		}
	}
}

// 10.1: noughts may be behind a node, as many as may be; nothing else.
func TestBehind(t *testing.T) {
	for _, c := range pages() {
		for _, n := range []int{1, 2, 3, 4, 509, 512 - len(c.b), 513 - len(c.b), 512, 70000, 1 << 20} {
			told(t, c.name, c.b+strings.Repeat("\x00", max(n, 0)), c.n)
		}
		for behind := 1; behind < 300; behind++ {
			for _, at := range []int{0, behind / 2, behind - 1} {
				l := make([]byte, behind)
				l[at] = byte(behind%255) + 1
				refused(t, c.name, c.b+string(l))
			}
		}
		refused(t, c.name, c.b+strings.Repeat("\x00", 1<<20)+"\x01")
		refused(t, c.name, c.b+c.b)
		refused(t, c.name, "\x00"+c.b)
	}
}

// 10.1: octets of which one is wanting at the end are no node.
func TestCut(t *testing.T) {
	for _, c := range pages() {
		for n := range len(c.b) {
			refused(t, c.name, c.b[:n])
		}
	}
	refused(t, "nothing", "")
	if n, ok := Parse(nil); ok || n.Leaf || len(n.Rows) != 0 {
		t.Error(n, ok)
	}
}

// 10.1: a node begins with 1 or 2, and nothing else; the same octets are another node of the other kind.
func TestKinds(t *testing.T) {
	for kind := range 256 {
		if kind == 1 || kind == 2 {
			continue
		}
		for _, b := range []string{"", "\x00", "\x00\x00", "\x00\x01\x01a\x03xyz", strings.Repeat("\x00", 511)} {
			refused(t, "another kind", octet(kind)+b)
		}
	}
	told(t, "a leaf", "\x01\x00\x01\x01a\x03xyz", leaf(api.Row{Key: "a", Val: "xyz"}))
	told(t, "another page", "\x02\x00\x01\x01a\x03xyz", inner(api.Row{Key: "a", Page: 0x0378797a}))
	told(t, "an empty leaf", "\x01\x00\x00", leaf())
	refused(t, "another page, empty", "\x02\x00\x00")
}

// 10.1: as many rows are read as are told, no more and no fewer.
func TestCounts(t *testing.T) {
	for _, c := range pages() {
		for n := range 1 << 16 {
			b := c.b[:1] + two(n) + c.b[3:]
			if n == len(c.n.Rows) {
				told(t, c.name, b, c.n)
				continue
			}
			if n < len(c.n.Rows)+3 || n%251 == 0 || n > 65530 {
				refused(t, c.name, b)
				refused(t, c.name, b+strings.Repeat("\x00", 512))
			}
		}
	}
}

// 10.1: a key has 1 to 130 bytes, in a leaf and in another page.
func TestKeys(t *testing.T) {
	for n := range 400 {
		ok := n >= 1 && n <= 130
		in, out := "", ""
		if n < 256 {
			in, out = "\x01\x00\x01"+octet(n)+x(n)+"\x01v", "\x02\x00\x01"+octet(n)+x(n)+"\x00\x00\x00\x02"
		}
		holds(t, "a leaf", leaf(api.Row{Key: x(n), Val: "v"}), ok, in)
		holds(t, "another page", inner(api.Row{Key: x(n), Page: 2}), ok, out)
		if n == 0 {
			continue
		}
		// It need not be the first row that is at fault.
		holds(t, "a leaf of two", leaf(api.Row{Key: "a"}, api.Row{Key: x(n)}), ok, "")
		holds(t, "another page of two", inner(api.Row{Key: "a", Page: 2}, api.Row{Key: x(n), Page: 3}), ok, "")
	}
	holds(t, "no key behind one", leaf(api.Row{Key: "a"}, api.Row{}), false, "\x01\x00\x02\x01a\x00\x00\x00")
	holds(t, "no key ahead of one", leaf(api.Row{}, api.Row{Key: "a"}), false, "\x01\x00\x02\x00\x00\x01a\x00")
	holds(t, "no key ahead of one, in another page", inner(api.Row{Page: 2}, api.Row{Key: "a", Page: 3}), false, "\x02\x00\x02\x00\x00\x00\x00\x02\x01a\x00\x00\x00\x03")
}

// 10.1: a value has at most 20 bytes, and there is none but in a leaf.
func TestVals(t *testing.T) {
	for n := range 400 {
		b := ""
		if n < 256 {
			b = "\x01\x00\x01\x01k" + octet(n) + x(n)
		}
		holds(t, "a leaf", leaf(api.Row{Key: "k", Val: x(n)}), n <= 20, b)
		holds(t, "a leaf of two", leaf(api.Row{Key: "j"}, api.Row{Key: "k", Val: x(n)}), n <= 20, "")
		holds(t, "another page", inner(api.Row{Key: "k", Val: x(n), Page: 2}), n == 0, "")
		holds(t, "another page of two", inner(api.Row{Key: "j", Page: 2}, api.Row{Key: "k", Val: x(n), Page: 3}), n == 0, "")
	}
	holds(t, "a value of a nought", inner(api.Row{Key: "k", Val: "\x00", Page: 2}), false, "")
}

// 10.1: a page is 2 to 2^32 - 1, and there is none in a leaf.
func TestBelow(t *testing.T) {
	for _, n := range []int{math.MinInt, math.MinInt + 2, -1 << 32, -1<<32 + 2, -1 << 31, -2, -1, 0, 1, 1 << 32, 1<<32 + 1, 1<<32 + 2, 1<<33 + 2, 1 << 62, math.MaxInt} {
		holds(t, "another page", inner(api.Row{Key: "k", Page: n}), false, "")
		holds(t, "another page of two", inner(api.Row{Key: "j", Page: 2}, api.Row{Key: "k", Page: n}), false, "")
		holds(t, "a leaf", leaf(api.Row{Key: "k", Val: "v", Page: n}), n == 0, "")
	}
	for _, n := range []int{2, 3, 255, 256, 65535, 65536, 1<<24 - 1, 1 << 24, 1<<31 - 1, 1 << 31, 1<<32 - 2, 1<<32 - 1} {
		b := string(binary.BigEndian.AppendUint32([]byte("\x02\x00\x01\x01k"), uint32(n)))
		holds(t, "another page", inner(api.Row{Key: "k", Page: n}), true, b)
		holds(t, "a leaf", leaf(api.Row{Key: "k", Page: n}), false, "")
		holds(t, "a leaf of two", leaf(api.Row{Key: "j"}, api.Row{Key: "k", Page: n}), false, "")
	}
	refused(t, "page 0", "\x02\x00\x01\x01k\x00\x00\x00\x00")
	refused(t, "page 1", "\x02\x00\x01\x01k\x00\x00\x00\x01")
	refused(t, "page 1 behind page 2", "\x02\x00\x02\x01j\x00\x00\x00\x02\x01k\x00\x00\x00\x01")
}

// 10.1: keys rise, by bytes, each once, through all rows.
func TestRising(t *testing.T) {
	keys := []string{"\x00", "\x00\x00", "\x00\x01", "\x01", "A", "AA", "B", "a", "a\x00", "aa", "ab", "b", "\x7f", "\x7f\xff", "\x80", "é", "\xff", "\xff\x00", "\xff\xff"}
	row := func(isLeaf bool, key string) api.Row {
		if isLeaf {
			return api.Row{Key: key}
		}
		return api.Row{Key: key, Page: 2}
	}
	for _, isLeaf := range []bool{false, true} {
		for i, a := range keys {
			for k, b := range keys {
				octets := "\x02\x00\x02" + octet(len(a)) + a + "\x00\x00\x00\x02" + octet(len(b)) + b + "\x00\x00\x00\x02"
				if isLeaf {
					octets = "\x01\x00\x02" + octet(len(a)) + a + "\x00" + octet(len(b)) + b + "\x00"
				}
				holds(t, "two", api.Node{Leaf: isLeaf, Rows: []api.Row{row(isLeaf, a), row(isLeaf, b)}}, i < k, octets)
				for l, c := range keys {
					holds(t, "three", api.Node{Leaf: isLeaf, Rows: []api.Row{row(isLeaf, a), row(isLeaf, b), row(isLeaf, c)}}, i < k && k < l, "")
				}
			}
		}
	}
}

// 10.1, W4: a node has at most 512 octets, and as many rows as go in; what has no room changes nothing.
func TestRoom(t *testing.T) {
	for n := range 257 {
		holds(t, "short rows of a leaf", many(true, n), n <= 169, "")
		holds(t, "short rows of another page", many(false, n), n >= 1 && n <= 84, "")
		if got := Size(many(true, n)); got != 3+3*n {
			t.Error(n, got)
		}
		if got := Size(many(false, n)); got != 3+6*n {
			t.Error(n, got)
		}
	}
	for size := 480; size <= 530; size++ {
		// Four rows, of which the last one is as long as is wanted.
		full := leaf(api.Row{Key: "a" + x(129), Val: x(20)}, api.Row{Key: "b" + x(129), Val: x(20)}, api.Row{Key: "c" + x(99), Val: x(20)}, api.Row{Key: "d", Val: x(20)})
		full.Rows[3].Key += x(size - Size(full))
		if Size(full) != size {
			t.Fatal(size, Size(full))
		}
		holds(t, "a leaf", full, size <= 512, octetsOf(full))
		full = inner(api.Row{Key: "a" + x(129), Page: 2}, api.Row{Key: "b" + x(129), Page: 3}, api.Row{Key: "c" + x(129), Page: 4}, api.Row{Key: "d", Page: 5})
		full.Rows[3].Key += x(size - Size(full))
		if Size(full) != size {
			t.Fatal(size, Size(full))
		}
		holds(t, "another page", full, size <= 512, octetsOf(full))
	}
}

// octetsOf tells the octets of a node whose texts are short, whether it is Ok or not.
func octetsOf(n api.Node) string {
	b := "\x02" + two(len(n.Rows))
	if n.Leaf {
		b = "\x01" + two(len(n.Rows))
	}
	for _, r := range n.Rows {
		b += octet(len(r.Key)) + r.Key
		if n.Leaf {
			b += octet(len(r.Val)) + r.Val
		} else {
			b += string(binary.BigEndian.AppendUint32(nil, uint32(r.Page)))
		}
	}
	return b
}

// 10.1: Size counts of a node that is not Ok too, just the fields of its kind.
func TestSize(t *testing.T) {
	for i, c := range []struct {
		n    api.Node
		want int
	}{
		{api.Node{}, 3},
		{leaf(api.Row{}), 5},
		{inner(api.Row{}), 8},
		{leaf(api.Row{Key: x(131)}), 136},
		{leaf(api.Row{Key: x(256), Val: x(300)}), 561},
		{inner(api.Row{Key: x(256), Val: x(300)}), 264},
		{leaf(api.Row{Key: "b", Page: 2}, api.Row{Key: "a", Page: -1}), 9},
		{inner(api.Row{Key: "b"}, api.Row{Key: "b", Page: 1 << 40}), 15},
		{leaf(make([]api.Row, 1<<20)...), 3 + 2<<20},
		{inner(make([]api.Row, 1<<20)...), 3 + 5<<20},
		{leaf(api.Row{Key: x(1 << 20), Val: x(1 << 21)}), 5 + 3<<20},
	} {
		if got := Size(c.n); got != c.want {
			t.Error(i, got, c.want)
		}
		holds(t, "not Ok", c.n, false, "")
	}
}

// plainFind tells what Find tells of rows that rise, word for word.
func plainFind(n api.Node, key string) (int, bool) {
	below := 0
	for i, r := range n.Rows {
		if r.Key == key {
			return i, true
		}
		if r.Key < key {
			below++
		}
	}
	if n.Leaf {
		return below, false
	}
	return max(below-1, 0), false
}

// 10.2: keys that are in a node, ahead of its rows, between them and behind them.
func TestFind(t *testing.T) {
	rows := []api.Row{{Key: "b", Page: 2}, {Key: "bb", Page: 3}, {Key: "d", Page: 4}, {Key: "\x80", Page: 5}}
	for _, c := range []struct {
		key         string
		leaf, inner int
		is          bool
	}{
		{"", 0, 0, false}, {"\x00", 0, 0, false}, {"a", 0, 0, false}, {"az", 0, 0, false},
		{"b", 0, 0, true}, {"b\x00", 1, 0, false}, {"ba", 1, 0, false},
		{"bb", 1, 1, true}, {"bb\x00", 2, 1, false}, {"c", 2, 1, false},
		{"d", 2, 2, true}, {"dd", 3, 2, false}, {"\x7f\xff", 3, 2, false},
		{"\x80", 3, 3, true}, {"\x80\x00", 4, 3, false}, {"\xff", 4, 3, false}, {x(1 << 16), 3, 2, false}, {"\xff" + x(1<<16), 4, 3, false},
	} {
		if i, ok := Find(leaf(rows...), c.key); i != c.leaf || ok != c.is {
			t.Errorf("leaf: %.9q: %d, %v", c.key, i, ok)
		}
		if i, ok := Find(inner(rows...), c.key); i != c.inner || ok != c.is {
			t.Errorf("another page: %.9q: %d, %v", c.key, i, ok)
		}
	}
	for _, key := range []string{"", "a", "\xff"} {
		for _, n := range []api.Node{leaf(), inner(), {Leaf: true, Rows: []api.Row{}}, {Rows: []api.Row{}}} {
			if i, ok := Find(n, key); i != 0 || ok {
				t.Errorf("empty: %v, %q: %d, %v", n.Leaf, key, i, ok)
			}
		}
	}
}

// 10.2: all lists of short keys that rise, beside all short keys, held against a plain count.
func TestFindAll(t *testing.T) {
	keys := []string{"", "\x00", "\x00\x00", "a", "a\x00", "ab", "b", "\x80", "\xff"}
	for set := range 1 << len(keys) {
		n := api.Node{}
		for i, key := range keys {
			if set>>i&1 == 1 {
				n.Rows = append(n.Rows, api.Row{Key: key, Page: 2})
			}
		}
		for _, n.Leaf = range []bool{false, true} {
			for _, key := range keys {
				want, is := plainFind(n, key)
				if i, ok := Find(n, key); i != want || ok != is {
					t.Errorf("%v, %q: %d, %v", n, key, i, ok)
				}
			}
		}
	}
	for _, isLeaf := range []bool{false, true} {
		n := many(isLeaf, 255)
		for i := range 256 {
			want, is := plainFind(n, ordinal(i))
			if at, ok := Find(n, ordinal(i)); at != want || ok != is {
				t.Error(isLeaf, i, at, ok)
			}
		}
	}
}

// 10.2: the words hold of rows that don't rise, too: where a key stands, and the last row that is not above it.
func TestFindUnsorted(t *testing.T) {
	rows := []api.Row{{Key: "d"}, {Key: "b"}, {Key: "e"}, {Key: "a"}, {Key: "f"}}
	for i, r := range rows {
		if at, ok := Find(leaf(rows...), r.Key); at != i || !ok {
			t.Errorf("leaf: %q: %d, %v", r.Key, at, ok)
		}
	}
	for _, c := range []struct {
		key string
		at  int
		is  bool
	}{{"0", 0, false}, {"a", 3, true}, {"b", 3, false}, {"c", 3, false}, {"e", 3, false}, {"f", 4, true}, {"g", 4, false}} {
		if at, ok := Find(inner(rows...), c.key); at != c.at || ok != c.is {
			t.Errorf("another page: %q: %d, %v", c.key, at, ok)
		}
	}
}

// Rule 3: what is handed in, its spare room too, is neither changed nor kept.
func TestHandedIn(t *testing.T) {
	for _, c := range pages() {
		room := append(slices.Clone(c.n.Rows), api.Row{Key: "spare", Val: "v", Page: 7}, api.Row{})
		n := api.Node{Leaf: c.n.Leaf, Rows: room[:len(c.n.Rows)]}
		Ok(n)
		Size(n)
		Find(n, "a")
		b, _ := Append(n)
		if !slices.Equal(room[:len(c.n.Rows)], c.n.Rows) || room[len(c.n.Rows)] != (api.Row{Key: "spare", Val: "v", Page: 7}) || room[len(room)-1] != (api.Row{}) {
			t.Errorf("%s: changed", c.name)
		}
		clear(room)
		if string(b) != c.b {
			t.Errorf("%s: kept: %q", c.name, b)
		}
		in := []byte(c.b + strings.Repeat("\x00", 100) + strings.Repeat(".", 100))
		was := string(in)
		got, _ := Parse(in[:len(c.b)+100])
		if string(in) != was {
			t.Errorf("%s: changed: %q", c.name, in)
		}
		for i := range in {
			in[i] = 0xee
		}
		if !same(got, c.n) {
			t.Errorf("%s: kept: %v", c.name, got)
		}
	}
}

// Rule 3: what is answered is new memory, its spare room too.
func TestAnswered(t *testing.T) {
	for _, c := range pages() {
		one, _ := Append(c.n)
		other, _ := Append(c.n)
		clear(one[:cap(one)])
		if string(other) != c.b {
			t.Errorf("%s: lent: %q", c.name, other)
		}
		in := []byte(c.b)
		p, _ := Parse(in)
		q, _ := Parse(in)
		clear(p.Rows[:cap(p.Rows)])
		if !same(q, c.n) || string(in) != c.b {
			t.Errorf("%s: lent: %v", c.name, q)
		}
	}
}

// 10.4 and W6: no octets and no node, however long, make a call panic or go on and on.
func TestEnds(t *testing.T) {
	for _, c := range []byte{0, 1, 2, 3, 0x82, 0xff} {
		for _, begin := range []string{"", "\x01", "\x02", "\x01\xff\xff", "\x02\xff\xff", "\x02\x00\x01\x01a"} {
			for n := range 600 {
				Parse(append([]byte(begin), bytes.Repeat([]byte{c}, n)...))
			}
			if c != 0 {
				refused(t, "many octets", begin+strings.Repeat(octet(int(c)), 1<<22))
			}
		}
	}
	huge := make([]api.Row, 1<<17)
	for i := range huge {
		huge[i] = api.Row{Key: string(binary.BigEndian.AppendUint32(nil, uint32(i))), Page: 2}
	}
	// As many rows as go in two octets, and one more.
	for _, n := range []int{65535, 65536, 65537, 1 << 17} {
		for _, isLeaf := range []bool{false, true} {
			node := api.Node{Leaf: isLeaf, Rows: huge[:n]}
			holds(t, "very many rows", node, false, "")
			want := n
			if !isLeaf {
				want--
			}
			if at, ok := Find(node, "\xff"); at != want || ok {
				t.Error(n, at, ok)
			}
		}
	}
	for _, n := range []api.Node{leaf(make([]api.Row, 5)...), inner(make([]api.Row, 5)...)} {
		for _, key := range []string{"", "a", x(1 << 24)} {
			Find(n, key)
		}
	}
}

// plainOk tells what Ok should, by a count of its own.
func plainOk(n api.Node) bool {
	size := 3
	for i, r := range n.Rows {
		size += 2 + len(r.Key) + len(r.Val)
		if len(r.Key) < 1 || len(r.Key) > 130 || len(r.Val) > 20 || i > 0 && strings.Compare(n.Rows[i-1].Key, r.Key) >= 0 {
			return false
		}
		if n.Leaf && r.Page != 0 {
			return false
		}
		if !n.Leaf {
			size += 3
			if r.Val != "" || r.Page < 2 || int64(r.Page) > math.MaxUint32 {
				return false
			}
		}
	}
	return size <= 512 && (n.Leaf || len(n.Rows) > 0)
}

// plainParse tells what Parse should, by a count of its own.
func plainParse(b string) (api.Node, bool) {
	if len(b) < 3 || b[0] != 1 && b[0] != 2 {
		return api.Node{}, false
	}
	n, rest := api.Node{Leaf: b[0] == 1}, b[3:]
	for range int(b[1])*256 + int(b[2]) {
		var r api.Row
		if rest == "" || len(rest) < 1+int(rest[0]) {
			return api.Node{}, false
		}
		r.Key, rest = rest[1:1+int(rest[0])], rest[1+int(rest[0]):]
		switch {
		case n.Leaf && (rest == "" || len(rest) < 1+int(rest[0])), !n.Leaf && len(rest) < 4:
			return api.Node{}, false
		case n.Leaf:
			r.Val, rest = rest[1:1+int(rest[0])], rest[1+int(rest[0]):]
		default:
			r.Page, rest = int(binary.BigEndian.Uint32([]byte(rest))), rest[4:]
		}
		n.Rows = append(n.Rows, r)
	}
	if strings.Trim(rest, "\x00") != "" || !plainOk(n) {
		return api.Node{}, false
	}
	return n, true
}

// agrees holds Parse of b against a plain count; what is a node is written as it was read, octet for octet.
func agrees(t *testing.T, b string) {
	t.Helper()
	want, is := plainParse(b)
	n, ok := Parse([]byte(b))
	if ok != is || !same(n, want) {
		t.Fatalf("%q: %v, %v", b, n, ok)
	}
	if !is {
		return
	}
	out, ok := Append(n)
	if !ok || !Ok(n) || len(out) != Size(n) || string(out) != b[:len(out)] || strings.Trim(b[len(out):], "\x00") != "" {
		t.Fatalf("%q: %q, %v", b, out, ok)
	}
}

// 10.1, 10.3: one octet of a node made another one, at each place, is read as a plain count says.
func TestSpoilt(t *testing.T) {
	for _, c := range pages() {
		b := []byte(c.b + "\x00\x00\x00")
		for i, was := range b {
			for _, v := range []byte{0, 1, 2, 3, 20, 21, 129, 130, 131, 255, was - 1, was + 1, was ^ 0x80} {
				b[i] = v
				agrees(t, string(b))
			}
			b[i] = was
		}
	}
}

// some tells a node of rows of any kind, most of them such as may be.
func some(r *rand.Rand) api.Node {
	n := api.Node{Leaf: r.Intn(2) == 0}
	length := []int{3, 12, 60, 131}[r.Intn(4)]
	for range r.Intn([]int{3, 10, 180}[r.Intn(3)]) {
		row := api.Row{Key: strings.Repeat(octet(r.Intn(256)), r.Intn(length)+r.Intn(2))}
		switch {
		case r.Intn(300) == 0:
			row.Val, row.Page = x(r.Intn(2)), r.Intn(3)
		case n.Leaf:
			row.Val = strings.Repeat(octet(r.Intn(256)), r.Intn(21)+r.Intn(40)/39)
		default:
			row.Page = 2 + r.Intn(1<<r.Intn(33))
		}
		n.Rows = append(n.Rows, row)
	}
	if r.Intn(9) > 0 {
		slices.SortFunc(n.Rows, func(a, b api.Row) int { return strings.Compare(a.Key, b.Key) })
		n.Rows = slices.CompactFunc(n.Rows, func(a, b api.Row) bool { return a.Key == b.Key })
	}
	return n
}

// 10.1, 10.2, 10.3: many nodes of any kind, held against plain counts.
func TestSome(t *testing.T) {
	r := rand.New(rand.NewSource(10))
	good := 0
	for range 30000 {
		n := some(r)
		ok := plainOk(n)
		holds(t, "some", n, ok, "")
		if !ok {
			continue
		}
		good++
		if b, _ := Append(n); string(b) != octetsOf(n) || Size(n) != len(b) {
			t.Fatalf("%v: %q", n, b)
		}
		for range 5 {
			key := strings.Repeat(octet(r.Intn(256)), r.Intn(4))
			if len(n.Rows) > 0 && r.Intn(2) == 0 {
				key = n.Rows[r.Intn(len(n.Rows))].Key
			}
			want, is := plainFind(n, key)
			if i, ok := Find(n, key); i != want || ok != is {
				t.Fatalf("%v, %q: %d, %v", n, key, i, ok)
			}
		}
	}
	if good < 5000 || good > 25000 {
		t.Error("nodes that are Ok:", good)
	}
}

// 10.1, 10.3 and 10.4: any octets are a node just when a plain count says so.
func FuzzParse(f *testing.F) {
	for _, c := range pages() {
		f.Add([]byte(c.b))
		f.Add([]byte(c.b + "\x00\x00"))
		f.Add([]byte(c.b + "\x01"))
		f.Add([]byte(c.b[:len(c.b)-1]))
	}
	for _, b := range []string{"", "\x00\x00\x00", "\x02\x00\x00", "\x03\x00\x00", "\x01\x00\x01\x00\x00", "\x01\xff\xff\x01a\x00", "\x01\x00\x02\x01b\x00\x01a\x00", "\x02\x00\x01\x01a\x00\x00\x00\x01", "\x01\x00\x01\x83" + x(131) + "\x00", "\x01\x00\x01\x01a\x15" + x(21)} {
		f.Add([]byte(b))
	}
	f.Fuzz(func(t *testing.T, b []byte) {
		was := string(b)
		agrees(t, string(b))
		if string(b) != was {
			t.Fatalf("%q: changed", was)
		}
	})
}

// 10.2 and 10.4: any key is found in any rows, where a plain count says so, if they rise.
func FuzzFind(f *testing.F) {
	f.Add(true, "a.b.c", "b")
	f.Add(false, "a.b.c", "bb")
	f.Add(false, "c.b.a", "b")
	f.Add(true, "", "")
	f.Fuzz(func(t *testing.T, isLeaf bool, keys, key string) {
		n := api.Node{Leaf: isLeaf}
		rises := true
		for i, k := range strings.Split(keys, ".") {
			n.Rows = append(n.Rows, api.Row{Key: k})
			rises = rises && (i == 0 || n.Rows[i-1].Key < k)
		}
		i, ok := Find(n, key)
		if i < 0 || i > len(n.Rows) || ok && n.Rows[i].Key != key || !isLeaf && i == len(n.Rows) {
			t.Fatalf("%v, %q: %d, %v", n, key, i, ok)
		}
		if want, is := plainFind(n, key); rises && (i != want || ok != is) {
			t.Fatalf("%v, %q: %d, %v", n, key, i, ok)
		}
	})
}
