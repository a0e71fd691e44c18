package audit

import (
	"encoding/binary"
	"maps"
	"math"
	"math/rand"
	"slices"
	"strconv"
	"strings"
	"testing"

	"waybill/api"
	"waybill/base"
	"waybill/jour"
	"waybill/node"
	"waybill/page"
	"waybill/sect"
	"waybill/tree"
)

// put tells an op that puts.
func put(k, v string) api.Op { return api.Op{Key: k, Val: []byte(v)} }

// del tells an op that takes away.
func del(k string) api.Op { return api.Op{Key: k, Del: true} }

// four tells the octets of a number of four.
func four(n int) string { return string(binary.BigEndian.AppendUint32(nil, uint32(n))) }

// octets writes ops as 13.1 says it.
func octets(l ...api.Op) string {
	var s strings.Builder
	for _, o := range l {
		if o.Del {
			s.WriteString("\x02" + string([]byte{byte(len(o.Key))}) + o.Key)
		} else {
			s.WriteString("\x01" + string([]byte{byte(len(o.Key))}) + o.Key + four(len(o.Val)) + string(o.Val))
		}
	}
	return s.String()
}

// plainOp is an op, and where its value begins.
type plainOp struct {
	key, val string
	del      bool
	at       int
}

// plainUnit reads a unit by a count of its own.
func plainUnit(s string) (l []plainOp, ok bool) {
	if len(s) > 190000 {
		return nil, false
	}
	for i := 0; i < len(s); {
		if len(s)-i < 2 || s[i] != 1 && s[i] != 2 {
			return nil, false
		}
		o, end := plainOp{del: s[i] == 2}, i+2+int(s[i+1])
		if end > len(s) || s[i+1] == 0 || s[i+1] > 130 {
			return nil, false
		}
		o.key, i = s[i+2:end], end
		if !o.del {
			if len(s)-i < 4 {
				return nil, false
			}
			n := int(binary.BigEndian.Uint32([]byte(s[i:])))
			if i += 4; len(s)-i < n || n > 11000 {
				return nil, false
			}
			o.val, o.at = s[i:i+n], i
			i += n
		}
		l = append(l, o)
	}
	return l, true
}

// raw puts a batch behind the end of a file, which is made if it isn't there; nothing is synced.
func raw(t testing.TB, d *sect.Dev, file int, seq uint64, kind int, b string) {
	t.Helper()
	name, count := jour.Name(file), max(1, (len(b)+47)/48)
	d.Make(name)
	for i := range count {
		part := b[48*i : min(len(b), 48*i+48)]
		var s [64]byte
		binary.BigEndian.PutUint64(s[0:], seq)
		binary.BigEndian.PutUint16(s[8:], uint16(i))
		binary.BigEndian.PutUint16(s[10:], uint16(count))
		s[12] = byte(kind)
		binary.BigEndian.PutUint16(s[14:], uint16(len(part)))
		copy(s[16:], part)
		if e := d.Write(name, d.Len(name), s); e != api.OK {
			t.Fatal(name, e)
		}
	}
}

// state is what batches make: a map, and what the index of it has.
type state struct {
	seq  uint64
	m    map[string]string
	rows map[string]string
}

// after tells a state behind a batch more; false, if that may not be.
func (s state) after(b api.Batch) (state, bool) {
	l, ok := plainUnit(string(b.B))
	if !ok || b.Kind < 1 || b.Kind > 2 {
		return s, false
	}
	to := state{b.Seq, maps.Clone(s.m), maps.Clone(s.rows)}
	if b.Kind == 2 {
		to.m, to.rows = map[string]string{}, map[string]string{}
	}
	for _, o := range l {
		if o.del {
			ok = ok && b.Kind == 1
			delete(to.m, o.key)
			delete(to.rows, o.key)
			continue
		}
		to.m[o.key] = o.val
		to.rows[o.key] = four(b.File) + four(b.At) + four(o.at) + four(len(o.val))
	}
	return to, ok
}

// states tells what a journal's batches make, as 14.1 says it: behind each that matters, that of none ahead of them where it is one; false, if they may not be.
func states(j *sect.Dev) ([]state, bool) {
	l := jour.Scan(j)
	first := 0
	for i, b := range l {
		if b.Kind == 2 {
			first = i
		}
	}
	l = l[first:]
	var told []state
	now := state{m: map[string]string{}, rows: map[string]string{}}
	if len(l) == 0 || l[0].Seq == 1 {
		told = append(told, now)
	}
	if len(l) > 0 && l[0].Kind != 2 && l[0].Seq != 1 {
		return nil, false
	}
	for _, b := range l {
		var ok bool
		if now, ok = now.after(b); !ok {
			return nil, false
		}
		told = append(told, now)
	}
	return told, true
}

// plainMeta tells the octets of the meta that holds, by a count of its own; false, if there is none.
func plainMeta(x *sect.Dev) (root, count int, mark uint64, ok bool) {
	var gen uint64
	for id := range uint64(2) {
		s, e := x.Read("p", int(id)*8)
		at := func(i int) uint64 { return binary.BigEndian.Uint64(s[8*i:]) }
		if e != api.OK || string(s[:8]) != "waybill1" || at(1) == 0 || at(1)%2 != id || at(1) <= gen {
			continue
		}
		if r := at(2); r == 1 || r > 1 && r >= uint64(x.Len("p")/8) || at(3) > 1<<62 || strings.Trim(string(s[40:]), "\x00") != "" {
			continue
		}
		gen, root, count, mark, ok = at(1), int(at(2)), int(at(3)), at(4), true
	}
	return root, count, mark, ok && x.Len("p") >= 16
}

// walk adds the rows and the pages below a page to those ahead; false, if one isn't to be read.
func walk(x *sect.Dev, id int, rows map[string]string, met map[int]int) bool {
	var b []byte
	for k := range 8 {
		s, e := x.Read("p", id*8+k)
		if e != api.OK {
			return false
		}
		b = append(b, s[:]...)
	}
	n, ok := node.Parse(b)
	if met[id]++; !ok || met[id] > 1 {
		return false
	}
	for _, r := range n.Rows {
		if n.Leaf {
			rows[r.Key] = r.Val
		} else if r.Page < 2 || !walk(x, r.Page, rows, met) {
			return false
		}
	}
	return true
}

// read tells the rows of a device's index, its mark and its pages; an error, if it isn't one. The device stays as it is.
func read(x *sect.Dev) (rows map[string]string, mark uint64, used []int, e api.Errno) {
	if !slices.Contains(x.Names(), "p") {
		return nil, 0, nil, api.ErrNoFile
	}
	root, _, mark, ok := plainMeta(x)
	if !ok {
		return nil, 0, nil, api.ErrMeta
	}
	c := x.Copy()
	c.Fuse(-1)
	f, e := page.Open(c)
	if e != api.OK {
		return nil, 0, nil, e
	}
	if _, e := tree.Open(f); e != api.OK {
		return nil, 0, nil, e
	}
	rows, met := map[string]string{}, map[int]int{0: 1, 1: 1}
	if root != 0 && !walk(x, root, rows, met) {
		return nil, 0, nil, -1
	}
	return rows, mark, slices.Sorted(maps.Keys(met)), api.OK
}

// kvs tells a map as rows.
func kvs(m map[string]string) []api.KV {
	var l []api.KV
	for _, k := range slices.Sorted(maps.Keys(m)) {
		l = append(l, api.KV{Key: k, Val: m[k]})
	}
	return l
}

// all tells all that can be seen of a device, and of what crashes leave of it.
func all(d *sect.Dev) string {
	out := image(d)
	for pick := range 5 {
		c := d.Copy()
		c.Crash(some(pick))
		out += "|" + image(c)
	}
	return out
}

// image tells all that can be read of a device.
func image(d *sect.Dev) string {
	var out strings.Builder
	for _, name := range d.Names() {
		out.WriteString(name + "=")
		for k := range d.Len(name) {
			s, e := d.Read(name, k)
			out.WriteString(strconv.Itoa(int(e)))
			out.Write(s[:])
		}
		out.WriteString(";")
	}
	return out.String()
}

// left tells how many calls a device lets go well yet; many, if there is no Fuse.
func left(d *sect.Dev) int {
	c := d.Copy()
	for n := range 200 {
		if c.Make("left"+strconv.Itoa(n)) == api.ErrPower {
			return n
		}
	}
	return 200
}

// some tells rows of picks of a few sorts.
func some(n int) []int {
	l := make([]int, 300)
	for i := range l {
		switch {
		case n < 3:
			l[i] = n
		case n < 6:
			l[i] = (i + n) % 3
		default:
			l[i] = i * i / (n - 4) * 7 % 11 % 3
		}
	}
	return l
}

// is holds all three calls against a plain count, and tells whether the index is clean.
func is(t testing.TB, j, x *sect.Dev) bool {
	t.Helper()
	l, whole := states(j)
	rows, mark, used, fault := read(x)
	kv, seq, e := Map(j)
	var want []api.KV
	if whole {
		last := l[len(l)-1]
		if want = kvs(last.m); !slices.Equal(kv, want) || seq != last.seq || e != api.OK {
			t.Fatal(kv, seq, e, want)
		}
	} else if len(kv) > 0 || seq != 0 || e != api.ErrUnit {
		t.Fatal(kv, seq, e)
	}
	clean := whole && fault == api.OK && slices.ContainsFunc(l, func(s state) bool { return s.seq == mark && maps.Equal(s.rows, rows) })
	kv, ok := Index(j, x)
	if ok != clean || clean && !slices.Equal(kv, want) || !clean && len(kv) > 0 {
		t.Fatal(ok, clean, kv, want)
	}
	pages(t, x, used, fault)
	return clean
}

// pages holds Pages against the pages in use, or an error.
func pages(t testing.TB, x *sect.Dev, want []int, fault api.Errno) {
	t.Helper()
	used, free, e := Pages(x)
	if e != fault || !slices.Equal(used, want) {
		t.Fatal(used, want, e, fault)
	}
	if e != api.OK {
		if len(free) > 0 {
			t.Fatal(free)
		}
		return
	}
	// W4: each page is just one of both.
	both := slices.Sorted(slices.Values(append(slices.Clone(used), free...)))
	if !slices.IsSorted(free) || len(both) != x.Len("p")/8 {
		t.Fatal(used, free)
	}
	for i, id := range both {
		if id != i {
			t.Fatal(used, free)
		}
	}
}

// open opens a base where that must go well.
func openBase(t testing.TB, j, x *sect.Dev) *base.Base {
	t.Helper()
	s, e := base.Open(j, x)
	if e != api.OK {
		t.Fatal(e)
	}
	return s
}

// well does what must go well.
func well(t testing.TB, e api.Errno) {
	t.Helper()
	if e != api.OK {
		t.Fatal(e)
	}
}

func TestExample(t *testing.T) {
	j, x := sect.New(100), sect.New(100)
	if l, seq, e := Map(j); len(l) > 0 || seq != 0 || e != api.OK {
		t.Error(l, seq, e)
	}
	if l, ok := Index(j, x); len(l) > 0 || ok {
		t.Error(l, ok)
	}
	if used, free, e := Pages(x); len(used)+len(free) > 0 || e != api.ErrNoFile {
		t.Error(used, free, e)
	}
	if len(j.Names())+len(x.Names()) > 0 {
		t.Error(j.Names(), x.Names())
	}
	s := openBase(t, j, x)
	if l, ok := Index(j, x); len(l) > 0 || !ok {
		t.Error(l, ok)
	}
	if used, free, e := Pages(x); !slices.Equal(used, []int{0, 1}) || len(free) > 0 || e != api.OK {
		t.Error(used, free, e)
	}
	well(t, s.Do([]api.Op{put("c", "3"), put("a", "1"), put("b", "2")}))
	well(t, s.Check())
	well(t, s.Do([]api.Op{put("b", ""), del("c"), put("\xff", "\x00"), put("a\x00", "4")}))
	want := []api.KV{{Key: "a", Val: "1"}, {Key: "a\x00", Val: "4"}, {Key: "b"}, {Key: "\xff", Val: "\x00"}}
	if l, seq, e := Map(j); !slices.Equal(l, want) || seq != 2 || e != api.OK {
		t.Error(l, seq, e)
	}
	if l, ok := Index(j, x); !slices.Equal(l, want) || !ok {
		t.Error(l, ok)
	}
	is(t, j, x)
}

// batch is one that is put down by hand.
type batch struct {
	seq  uint64
	kind int
	b    string
}

func TestMap(t *testing.T) {
	a, b, no := octets(put("a", "1")), octets(put("b", "2"), put("b", "3")), octets(del("a"))
	var big []api.Op
	for len(big) < 17 {
		big = append(big, put("k"+strconv.Itoa(len(big)), strings.Repeat("v", 11000)))
	}
	rest := 190000 - len(octets(big...))
	most, tooMuch := octets(append(big, put("k", strings.Repeat("v", rest-7)))...), octets(append(big, put("k", strings.Repeat("v", rest-6)))...)
	for i, c := range []struct {
		l    []batch
		want string
		seq  uint64
		e    api.Errno
	}{
		{nil, "", 0, api.OK},
		{[]batch{{1, 1, a}}, "a=1 ", 1, api.OK},
		{[]batch{{1, 1, ""}}, "", 1, api.OK},
		{[]batch{{1, 1, a}, {2, 1, b}, {3, 1, no}}, "b=3 ", 3, api.OK},
		// another first number
		{[]batch{{2, 1, a}}, "", 0, api.ErrUnit},
		{[]batch{{2, 1, ""}}, "", 0, api.ErrUnit},
		{[]batch{{math.MaxUint64, 1, a}}, "", 0, api.ErrUnit},
		{[]batch{{2, 1, a}, {3, 2, b}}, "b=3 ", 3, api.OK},
		{[]batch{{7, 2, a}}, "a=1 ", 7, api.OK},
		{[]batch{{7, 2, a}, {8, 1, b}}, "a=1 b=3 ", 8, api.OK},
		{[]batch{{math.MaxUint64, 2, a}}, "a=1 ", math.MaxUint64, api.OK},
		{[]batch{{1, 2, ""}}, "", 1, api.OK},
		{[]batch{{1, 2, a}, {2, 1, b}, {9, 2, a}, {10, 1, no}, {11, 2, b}, {12, 1, a}}, "a=1 b=3 ", 12, api.OK},
		// no units
		{[]batch{{1, 1, "q"}}, "", 0, api.ErrUnit},
		{[]batch{{1, 1, a}, {2, 1, a[:len(a)-1]}}, "", 0, api.ErrUnit},
		{[]batch{{1, 1, a}, {2, 1, a + "\x00"}, {3, 1, b}}, "", 0, api.ErrUnit},
		{[]batch{{1, 2, "\x01\x00"}}, "", 0, api.ErrUnit},
		{[]batch{{1, 1, tooMuch}}, "", 0, api.ErrUnit},
		{[]batch{{1, 2, tooMuch}}, "", 0, api.ErrUnit},
		// a whole one has puts alone
		{[]batch{{1, 2, no}}, "", 0, api.ErrUnit},
		{[]batch{{1, 2, a + no}}, "", 0, api.ErrUnit},
		{[]batch{{1, 2, a}, {2, 2, b + no + a}, {3, 1, b}}, "", 0, api.ErrUnit},
		{[]batch{{1, 1, a}, {2, 2, "q"}}, "", 0, api.ErrUnit},
		// other kinds
		{[]batch{{1, 3, a}}, "", 0, api.ErrUnit},
		{[]batch{{1, 1, a}, {2, 255, a}}, "", 0, api.ErrUnit},
		{[]batch{{1, 2, a}, {2, 3, ""}, {3, 1, b}}, "", 0, api.ErrUnit},
		// what is ahead of the last whole one doesn't matter
		{[]batch{{5, 1, "q"}, {6, 3, a}, {7, 2, no}, {8, 2, b}}, "b=3 ", 8, api.OK},
		{[]batch{{1, 1, tooMuch}, {2, 2, ""}}, "", 2, api.OK},
		// one that doesn't follow is none of them
		{[]batch{{1, 1, a}, {3, 1, "q"}}, "a=1 ", 1, api.OK},
		{[]batch{{1, 1, a}, {0, 2, "q"}}, "a=1 ", 1, api.OK},
	} {
		j := sect.New(10000)
		for n, b := range c.l {
			raw(t, j, 1+n/2*3, b.seq, b.kind, b.b)
		}
		was := all(j)
		l, seq, e := Map(j)
		got := ""
		for _, x := range l {
			got += x.Key + "=" + x.Val + " "
		}
		if got != c.want || seq != c.seq || e != c.e || all(j) != was {
			t.Error(i, got, seq, e)
		}
		// no index helps, be it of no batch
		if is(t, j, sect.New(100)) {
			t.Error(i)
		}
		x := sect.New(100)
		page.Open(x)
		first := len(c.l) == 0 || c.seq > 0 && c.l[0].seq == 1 && !slices.ContainsFunc(c.l[1:], func(b batch) bool { return b.kind == 2 && b.seq > 0 })
		if clean := is(t, j, x); clean != first {
			t.Error(i, clean)
		}
	}
	j := sect.New(10000)
	raw(t, j, 1, 1, 1, most)
	if l, seq, e := Map(j); len(l) != 18 || seq != 1 || e != api.OK || l[0].Key != "k" || len(l[0].Val) != rest-7 {
		t.Error(len(l), seq, e)
	}
}

// All rows of up to four batches of few sorts, in one file and in two.
func TestAllRows(t *testing.T) {
	t.Parallel()
	a := octets(put("a", "1"))
	sorts := []batch{{1, 1, a}, {1, 1, octets(put("a", "22"), put("b", ""))}, {1, 1, octets(del("a"))}, {1, 1, "\x01"}, {1, 2, octets(put("b", "3"))}, {1, 2, ""}, {1, 2, octets(del("b"))}, {1, 3, a}, {2, 1, a}, {2, 2, a}}
	clean := 0
	for n := range len(sorts) * len(sorts) * len(sorts) * len(sorts) {
		j, seq := sect.New(100), uint64(0)
		for i, rest := 0, n; i < 4; i, rest = i+1, rest/len(sorts) {
			b := sorts[rest%len(sorts)]
			seq += b.seq
			raw(t, j, 1+n/3%2*i/2, seq, b.kind, b.b)
		}
		x := sect.New(100)
		if n%7 < 5 {
			// the index of some batch
			f, _ := page.Open(x)
			r, _ := tree.Open(f)
			l, _ := states(j)
			if len(l) > 0 {
				s := l[n%len(l)]
				for k, v := range s.rows {
					r.Put(k, v)
				}
				well(t, r.Commit(s.seq))
			}
		}
		if is(t, j, x) {
			clean++
		}
	}
	if clean < 1000 {
		t.Error(clean)
	}
}

// An index of each batch, and of each way to be another.
func TestIndex(t *testing.T) {
	t.Parallel()
	j, x := sect.New(2000), sect.New(2000)
	s := openBase(t, j, x)
	marks := []*sect.Dev{x.Copy()}
	step := func(l ...api.Op) {
		well(t, s.Do(l))
		well(t, s.Check())
		marks = append(marks, x.Copy())
	}
	step(put("a", "1"), put("b", "2"))
	step(put("c", "3"))
	step(del("no such key"))
	step(put("a", "1"))
	step(del("b"), del("c"))
	step(put("b", ""), put("c", strings.Repeat("v", 300)))
	well(t, s.Do([]api.Op{put("a", "5"), put("d", "6"), del("b")}))
	for i, x := range marks {
		if !is(t, j, x) {
			t.Error(i)
		}
		if l, ok := Index(j, x); !ok || len(l) != 3 || l[0].Val != "5" || l[1].Val != strings.Repeat("v", 300) {
			t.Error(i, l, ok)
		}
	}
	rows, _, _, _ := read(x)
	other := func(do func(r *tree.Tree) uint64) *sect.Dev {
		d := x.Copy()
		f, e := page.Open(d)
		well(t, e)
		r, e := tree.Open(f)
		well(t, e)
		well(t, r.Commit(do(r)))
		return d
	}
	var l []*sect.Dev
	for k, r := range rows {
		for i := range r {
			for _, more := range []byte{1, 255, 128} {
				l = append(l, other(func(r *tree.Tree) uint64 {
					b := []byte(rows[k])
					b[i] += more
					well(t, r.Put(k, string(b)))
					return 6
				}))
			}
		}
		l = append(l, other(func(r *tree.Tree) uint64 { r.Delete(k); return 6 }))
		for _, v := range []string{"", r[:12], r[:15], r + "\x00", r + "more"} {
			l = append(l, other(func(t *tree.Tree) uint64 { t.Put(k, v); return 6 }))
		}
		l = append(l, other(func(t *tree.Tree) uint64 { t.Delete(k); t.Put(k+"0", r); return 6 }))
		l = append(l, other(func(t *tree.Tree) uint64 { t.Put(k+"0", r); return 6 }))
		// that points to nothing, or to all octets and one more
		l = append(l, other(func(t *tree.Tree) uint64 { t.Put(k, strings.Repeat("\xff", 16)); return 6 }))
		l = append(l, other(func(t *tree.Tree) uint64 { t.Put(k, r[:8]+strings.Repeat("\xff", 8)); return 6 }))
	}
	for mark := range uint64(9) {
		if mark != 6 {
			l = append(l, other(func(r *tree.Tree) uint64 { return mark }))
		}
		if mark > 0 {
			l = append(l, other(func(r *tree.Tree) uint64 {
				for k := range rows {
					r.Delete(k)
				}
				return mark
			}))
		}
	}
	l = append(l, other(func(r *tree.Tree) uint64 { return math.MaxUint64 }))
	for i, d := range l {
		if is(t, j, d) {
			t.Error(i)
		}
	}
	// faults of the file, some of which matter
	clean := 0
	for k := range x.Len("p") {
		for _, s := range [][64]byte{{3, 3, 3}, {}, {63: 1}} {
			d := x.Copy()
			d.Write("p", k, s)
			if is(t, j, d) {
				clean++
			}
			d.Write("p", k, s)
			d.Crash([]int{2})
			is(t, j, d)
		}
	}
	if clean == 0 || clean > 3*x.Len("p")-2 {
		t.Error(clean)
	}
}

// Which Marks may be behind a Pack, and what one of 0 asks.
func TestMarks(t *testing.T) {
	j, x := sect.New(1000), sect.New(1000)
	s := openBase(t, j, x)
	empty := x.Copy()
	well(t, s.Do([]api.Op{put("a", "1")}))
	well(t, s.Check())
	old := x.Copy()
	well(t, s.Do([]api.Op{put("a", "2")}))
	well(t, s.Pack())
	packed := x.Copy()
	well(t, s.Do([]api.Op{put("b", "3")}))
	well(t, s.Check())
	for i, c := range []struct {
		x     *sect.Dev
		clean bool
	}{{empty, false}, {old, false}, {packed, true}, {x, true}} {
		if clean := is(t, j, c.x); clean != c.clean {
			t.Error(i, clean)
		}
	}
	for seq := range uint64(3) {
		for kind := 1; kind <= 2; kind++ {
			for mark := range uint64(4) {
				j, x := sect.New(100), sect.New(100)
				if seq > 0 {
					raw(t, j, 1, seq, kind, "")
				}
				f, _ := page.Open(x)
				r, _ := tree.Open(f)
				well(t, r.Commit(mark))
				if clean := is(t, j, x); clean != ((mark == seq || mark == 0 && seq < 2) && (kind == 2 || seq < 2)) {
					t.Error(seq, kind, mark, clean)
				}
			}
		}
	}
	// the index of a lost journal, and of one that goes on otherwise
	is(t, sect.New(100), old)
	j = sect.New(100)
	raw(t, j, 1, 1, 1, octets(put("a", "1")))
	if !is(t, j, old) {
		t.Error("old")
	}
	j = sect.New(100)
	raw(t, j, 2, 1, 1, octets(put("a", "1")))
	if is(t, j, old) {
		t.Error("another file")
	}
	// a journal that is none: no index helps, be it that of a batch ahead of the fault
	j = sect.New(100)
	raw(t, j, 1, 1, 1, octets(put("a", "1")))
	raw(t, j, 1, 2, 1, "no unit")
	if l, ok := Index(j, old); len(l) > 0 || ok {
		t.Error(l, ok)
	}
	is(t, j, old)
}

// sheet puts a page of a tree down by hand.
func sheet(t testing.TB, f *page.File, n api.Node) int {
	t.Helper()
	b, ok := node.Append(n)
	id, e := f.Put(b)
	if !ok || e != api.OK {
		t.Fatal(ok, e)
	}
	return id
}

func TestPages(t *testing.T) {
	// what page.Open and tree.Open refuse
	x := sect.New(1000)
	x.Make("q")
	x.Make("P")
	pages(t, x, nil, api.ErrNoFile)
	x.Make("p")
	pages(t, x, nil, api.ErrMeta)
	for k := range 16 {
		x.Write("p", k, [64]byte{})
	}
	pages(t, x, nil, api.ErrMeta)
	x.Drop("p")
	f, e := page.Open(x)
	well(t, e)
	pages(t, x, []int{0, 1}, api.OK)
	a := sheet(t, f, api.Node{Leaf: true, Rows: []api.Row{{Key: "a", Val: "1"}, {Key: "b"}}})
	b := sheet(t, f, api.Node{Leaf: true, Rows: []api.Row{{Key: "c"}}})
	c := sheet(t, f, api.Node{Leaf: true, Rows: []api.Row{{Key: "a"}, {Key: "d"}}})
	top := sheet(t, f, api.Node{Rows: []api.Row{{Key: "a", Page: a}, {Key: "c", Page: b}}})
	twice := sheet(t, f, api.Node{Rows: []api.Row{{Key: "a", Page: a}, {Key: "c", Page: a}}})
	round := sheet(t, f, api.Node{Rows: []api.Row{{Key: "a", Page: 7}}})
	far := sheet(t, f, api.Node{Rows: []api.Row{{Key: "a", Page: 99}}})
	noise, e := f.Put([]byte("noise"))
	well(t, e)
	// Pages that no Commit took are free, though they were Put.
	pages(t, x, []int{0, 1}, api.OK)
	if _, free, _ := Pages(x); !slices.Equal(free, []int{2, 3, 4, 5, 6, 7, 8, 9}) {
		t.Error(free)
	}
	for i, c := range []struct {
		root, count int
		used        []int
		e           api.Errno
	}{
		{0, 0, []int{0, 1}, api.OK},
		{a, 2, []int{0, 1, a}, api.OK},
		{b, 1, []int{0, 1, b}, api.OK},
		{top, 3, []int{0, 1, a, b, top}, api.OK},
		{c, 2, []int{0, 1, c}, api.OK},
		{0, 1, nil, api.ErrTree},
		{a, 3, nil, api.ErrTree},
		{a, 0, nil, api.ErrTree},
		{twice, 4, nil, api.ErrTree},
		{round, 0, nil, api.ErrTree},
		{far, 0, nil, api.ErrTree},
		{noise, 0, nil, api.ErrTree},
	} {
		d := x.Copy()
		f, e := page.Open(d)
		well(t, e)
		// What the Commit keeps beside the tree isn't the tree's.
		well(t, f.Commit(c.root, c.count, 0, []int{2, 3, 4, 5, 6, 7, 8, 9}))
		was := all(d)
		pages(t, d, c.used, c.e)
		// pages that aren't whole are none
		d.Write("p", d.Len("p"), [64]byte{1})
		pages(t, d, c.used, c.e)
		if c.e == api.OK {
			is(t, sect.New(10), d)
		}
		// a bad sector of a page in use is told, of another isn't
		for id := 2; id < 10; id++ {
			d := d.Copy()
			d.Crash(nil)
			s, _ := d.Read("p", id*8)
			d.Write("p", id*8, s)
			d.Crash([]int{2})
			if slices.Contains(c.used, id) {
				pages(t, d, nil, api.ErrBad)
			} else if c.e == api.OK {
				pages(t, d, c.used, api.OK)
			}
		}
		// the one meta or the other
		for id := range 2 {
			d := d.Copy()
			d.Write("p", id*8, [64]byte{})
			if id == 1 {
				// that ahead of the Commit is lost
				pages(t, d, c.used, c.e)
				d.Write("p", 0, [64]byte{})
				pages(t, d, nil, api.ErrMeta)
			} else {
				pages(t, d, []int{0, 1}, api.OK)
			}
		}
		if c := all(x); c == was {
			t.Error(i)
		}
	}
}

// No device is changed, be it with or without power, whatever isn't synced there.
func TestLooked(t *testing.T) {
	j, x := sect.New(1000), sect.New(1000)
	s := openBase(t, j, x)
	well(t, s.Do([]api.Op{put("a", "1"), put("b", "2")}))
	well(t, s.Check())
	well(t, s.Do([]api.Op{put("a", "3")}))
	raw(t, j, 9, 3, 1, octets(del("b")))
	raw(t, j, 9, 4, 2, "\x01")
	j.Write("j000001", 0, [64]byte{9})
	x.Write("p", x.Len("p"), [64]byte{1})
	x.Make("other")
	x.Write("other", 0, [64]byte{2})
	for n := -1; n < 5; n++ {
		for _, spoil := range []int{-1, 16, 8, 0} {
			j, x := j.Copy(), x.Copy()
			if spoil >= 0 {
				x.Write("p", spoil, [64]byte{7})
				j.Write("j000001", 0, [64]byte{8})
			}
			j.Fuse(n)
			x.Fuse(n)
			was, wasX, leftJ, leftX := all(j), all(x), left(j), left(x)
			for range 3 {
				is(t, j, x)
				Map(x)
				Index(x, j)
				Index(j, j)
				Pages(j)
				if all(j) != was || all(x) != wasX || left(j) != leftJ || left(x) != leftX {
					t.Fatal(n, spoil)
				}
			}
		}
	}
	// nor is a file made, or a lost one
	x = sect.New(100)
	Index(j, x)
	Pages(x)
	if len(x.Names()) > 0 {
		t.Error(x.Names())
	}
	// an index is clean without power
	j, x = sect.New(1000), sect.New(1000)
	s = openBase(t, j, x)
	well(t, s.Do([]api.Op{put("a", "1")}))
	well(t, s.Check())
	j.Fuse(0)
	x.Fuse(0)
	if !is(t, j, x) {
		t.Error("not clean")
	}
}

// What is told is nobody else's.
func TestNew(t *testing.T) {
	j, x := sect.New(1000), sect.New(1000)
	s := openBase(t, j, x)
	for i := range 60 {
		well(t, s.Do([]api.Op{put("key of some length "+strconv.Itoa(i), "v")}))
		well(t, s.Check())
	}
	for range 3 {
		l, _, _ := Map(j)
		m, _ := Index(j, x)
		used, free, _ := Pages(x)
		used, free = used[:cap(used)], free[:cap(free)]
		for i := range used {
			used[i] = -1
		}
		for i := range free {
			free[i] = -2
		}
		clear(l[:cap(l)])
		clear(m[:cap(m)])
		for i := range used {
			if used[i] != -1 {
				t.Fatal("shared")
			}
		}
		is(t, j, x)
	}
}

// reader gives numbers out of octets; noughts, when there are no more.
type reader struct{ b []byte }

func (r *reader) next() int {
	if len(r.b) == 0 {
		return 0
	}
	n := int(r.b[0])
	r.b = r.b[1:]
	return n
}

// op tells an op.
func (r *reader) op() api.Op {
	n := r.next()
	k := "k" + strconv.Itoa(n%37)
	if n%5 == 0 {
		k += strings.Repeat("x", 120)
	}
	v := r.next()
	if v%3 == 0 {
		return del(k)
	}
	return put(k, strings.Repeat(strconv.Itoa(v), v%40*(v%7)))
}

// spoil writes something to a sector of a device.
func (r *reader) spoil(d *sect.Dev) {
	l := d.Names()
	if len(l) == 0 {
		return
	}
	name := l[r.next()%len(l)]
	k := r.next() % (d.Len(name) + 1)
	s, _ := d.Read(name, k)
	for range r.next() % 4 {
		s[r.next()%64] = byte(r.next())
	}
	d.Write(name, k, s)
}

// run does acts that octets tell, looks at the devices behind each, and tells how often the index was clean there.
func run(t testing.TB, b []byte) int {
	t.Helper()
	r := &reader{b}
	j, x := sect.New(50*r.next()), sect.New(2000)
	s, clean := openBase(t, j, x), 0
	// alive tells that no device was spoilt or could lose its power since the base was opened, sure that its index is clean: a new one is, as it were, of no batch.
	alive, sure, spoilt := true, true, false
	for range 120 {
		if len(r.b) == 0 || s == nil {
			break
		}
		switch n := r.next(); n % 16 {
		case 0, 1, 2:
			sure = s.Check() == api.OK || sure
		case 3:
			sure = s.Pack() == api.OK || sure
		case 4:
			j.Fuse(r.next() % 20)
			alive = false
		case 5:
			x.Fuse(r.next() % 60)
			alive = false
		case 6, 7:
			j.Crash(some(r.next() % 40))
			x.Crash(some(r.next() % 40))
			s = reopened(t, j, x, spoilt)
			alive, sure = true, false
		case 8:
			if r.next()%4 == 0 {
				r.spoil([]*sect.Dev{j, x}[n/16%2])
				alive, spoilt = false, true
			}
		default:
			var l []api.Op
			for range r.next() % 6 {
				l = append(l, r.op())
			}
			s.Do(l)
		}
		if is(t, j, x) {
			clean++
		} else if alive && sure {
			t.Fatal("not clean")
		}
		if alive && s != nil {
			same(t, j, s)
		}
	}
	return clean
}

// reopened opens a base anew, and holds what it reads against what is told of its devices ahead of that; none, where the journal was spoilt.
func reopened(t testing.TB, j, x *sect.Dev, spoilt bool) *base.Base {
	t.Helper()
	_, _, e := Map(j)
	_, ok := Index(j, x)
	s, g := base.Open(j, x)
	if e != g || e != api.OK && !spoilt {
		t.Fatal(e, g)
	}
	if g != api.OK {
		return nil
	}
	if ok != s.Clean() {
		t.Fatal(ok, s.Clean())
	}
	return s
}

// same holds a base's map against that of its journal.
func same(t testing.TB, j *sect.Dev, s *base.Base) {
	t.Helper()
	l, seq, e := Map(j)
	var want []api.KV
	for _, k := range s.Keys("", s.Count()) {
		v, _ := s.Get(k)
		want = append(want, api.KV{Key: k, Val: v})
	}
	if !slices.Equal(l, want) || seq != s.Seq() || e != api.OK {
		t.Fatal(l, want, seq, s.Seq(), e)
	}
}

// W2, W4: behind each act of a base, with crashes, lost power and spoilt sectors.
func TestRuns(t *testing.T) {
	t.Parallel()
	rnd := rand.New(rand.NewSource(15))
	clean := 0
	for range 60 {
		b := make([]byte, 50+rnd.Intn(600))
		rnd.Read(b)
		clean += run(t, b)
	}
	if clean < 1000 {
		t.Error(clean)
	}
}

// W2, W4: with the power cut at every call, beside many picks.
func TestCuts(t *testing.T) {
	t.Parallel()
	for cut := 0; cut < 70; cut += 2 {
		for pick := range 9 {
			j, x := sect.New(1000), sect.New(1000)
			s := openBase(t, j, x)
			if pick%3 != 0 {
				j.Fuse(cut)
			}
			if pick%3 != 1 {
				x.Fuse(cut)
			}
			for i := range 4 {
				s.Do([]api.Op{put("a"+strconv.Itoa(i), "1"), put("b", strings.Repeat("2", i*60))})
				s.Check()
				is(t, j, x)
				s.Do([]api.Op{del("a0"), put("c", "3")})
				s.Pack()
				is(t, j, x)
			}
			j.Crash(some(pick))
			x.Crash(some(8 - pick))
			is(t, j, x)
			s = reopened(t, j, x, false)
			is(t, j, x)
			well(t, s.Check())
			if !is(t, j, x) {
				t.Fatal(cut, pick)
			}
			same(t, j, s)
		}
	}
}

// A great map is looked at in good time, also where one batch has all of it.
func TestGreat(t *testing.T) {
	t.Parallel()
	j, x := sect.New(100000), sect.New(100000)
	s := openBase(t, j, x)
	for i := range 20 {
		var l []api.Op
		for k := range 500 {
			l = append(l, put("key"+strconv.Itoa(i*500+k), strconv.Itoa(i)))
		}
		well(t, s.Do(l))
	}
	well(t, s.Check())
	if !is(t, j, x) {
		t.Error("not clean")
	}
	well(t, s.Pack())
	if !is(t, j, x) {
		t.Error("not clean")
	}
	if l, seq, _ := Map(j); len(l) != 10000 || seq != 21 {
		t.Error(len(l), seq)
	}
	for i := range 9990 {
		l := []api.Op{del("key" + strconv.Itoa(i))}
		if i%500 == 0 {
			well(t, s.Do(l))
			well(t, s.Check())
			is(t, j, x)
		}
	}
}

// Whatever is on a device, every call ends and none panics.
func TestNoPanic(t *testing.T) {
	t.Parallel()
	rnd := rand.New(rand.NewSource(1))
	for range 300 {
		j, x := sect.New(200), sect.New(200)
		for i, d := range []*sect.Dev{j, x} {
			for _, name := range []string{"j000001", "j000002", "p", "other"}[i*2 : i+3] {
				d.Make(name)
				for k := range rnd.Intn(60) {
					var s [64]byte
					rnd.Read(s[:rnd.Intn(65)])
					if k%8 == 0 && rnd.Intn(2) == 0 {
						copy(s[:], "waybill1\x00\x00\x00\x00\x00\x00\x00")
						binary.BigEndian.PutUint64(s[16:], uint64(rnd.Intn(8)))
						binary.BigEndian.PutUint64(s[24:], uint64(rnd.Intn(3)))
						clear(s[40:])
					}
					d.Write(name, k, s)
				}
			}
			d.Crash(some(rnd.Intn(20)))
		}
		is(t, j, x)
		is(t, x, j)
		is(t, j, j)
	}
	for _, most := range []int{math.MinInt, -1, 0, 1, math.MaxInt} {
		d := sect.New(most)
		is(t, d, d)
		d.Make("p")
		d.Make("j000001")
		is(t, d, d)
	}
	// one device as both
	d := sect.New(1000)
	s := openBase(t, d, sect.New(100))
	well(t, s.Do([]api.Op{put("a", "1")}))
	page.Open(d)
	if !is(t, d, d) {
		t.Error("not clean")
	}
}

func FuzzRuns(f *testing.F) {
	rnd := rand.New(rand.NewSource(2))
	for range 10 {
		b := make([]byte, 200)
		rnd.Read(b)
		f.Add(b)
	}
	f.Fuzz(func(t *testing.T, b []byte) { run(t, b) })
}
