package base

import (
	"encoding/binary"
	"maps"
	"math"
	"math/rand"
	"regexp"
	"slices"
	"strconv"
	"strings"
	"testing"

	"waybill/api"
	"waybill/jour"
	"waybill/page"
	"waybill/sect"
	"waybill/tree"
)

// put tells an op that puts.
func put(k, v string) api.Op { return api.Op{Key: k, Val: []byte(v)} }

// del tells an op that takes away.
func del(k string) api.Op { return api.Op{Key: k, Del: true} }

// long tells a text of n bytes.
func long(n int) string { return strings.Repeat("x", n) }

// four tells the octets of a number of four.
func four(n int) string { return string(binary.BigEndian.AppendUint32(nil, uint32(n))) }

// octets writes ops as 13.1 says it.
func octets(l ...api.Op) string {
	var s strings.Builder
	for _, o := range l {
		if o.Del {
			s.WriteString("\x02" + string([]byte{byte(len(o.Key))}) + o.Key)
		} else {
			s.WriteString("\x01" + string([]byte{byte(len(o.Key))}) + o.Key + four(len(o.Val)) + string(o.Val))
		}
	}
	return s.String()
}

// puts tells the ops of all of a map, rising.
func puts(m map[string]string) []api.Op {
	var l []api.Op
	for _, k := range slices.Sorted(maps.Keys(m)) {
		l = append(l, put(k, m[k]))
	}
	return l
}

// plainOp is an op, and where its value begins.
type plainOp struct {
	key, val string
	del      bool
	at       int
}

// plainUnit reads a unit by a count of its own.
func plainUnit(s string) (l []plainOp, ok bool) {
	if len(s) > 190000 {
		return nil, false
	}
	for i := 0; i < len(s); {
		if len(s)-i < 2 || s[i] != 1 && s[i] != 2 {
			return nil, false
		}
		o, end := plainOp{del: s[i] == 2}, i+2+int(s[i+1])
		if end > len(s) || s[i+1] == 0 || s[i+1] > 130 {
			return nil, false
		}
		o.key, i = s[i+2:end], end
		if !o.del {
			if len(s)-i < 4 {
				return nil, false
			}
			n := int(binary.BigEndian.Uint32([]byte(s[i:])))
			if i += 4; len(s)-i < n || n > 11000 {
				return nil, false
			}
			o.val, o.at = s[i:i+n], i
			i += n
		}
		l = append(l, o)
	}
	return l, true
}

// plainSectors tells the sectors of a batch as 8.1 says them.
func plainSectors(seq uint64, kind int, b string) [][64]byte {
	count := max(1, (len(b)+47)/48)
	var l [][64]byte
	for i := range count {
		part := b[48*i : min(len(b), 48*i+48)]
		var s [64]byte
		binary.BigEndian.PutUint64(s[0:], seq)
		binary.BigEndian.PutUint16(s[8:], uint16(i))
		binary.BigEndian.PutUint16(s[10:], uint16(count))
		s[12] = byte(kind)
		binary.BigEndian.PutUint16(s[14:], uint16(len(part)))
		copy(s[16:], part)
		l = append(l, s)
	}
	return l
}

// raw puts a batch behind the end of a file, which is made if it isn't there; nothing is synced.
func raw(t testing.TB, d *sect.Dev, file int, seq uint64, kind int, b string) {
	t.Helper()
	name := jour.Name(file)
	d.Make(name)
	for _, s := range plainSectors(seq, kind, b) {
		if e := d.Write(name, d.Len(name), s); e != api.OK {
			t.Fatal(name, e)
		}
	}
}

// fill gives a device a file that takes n sectors of it, or none.
func fill(t testing.TB, d *sect.Dev, n int) *sect.Dev {
	t.Helper()
	if n > 0 {
		d.Make("fill")
	}
	for k := range n {
		if e := d.Write("fill", k, [64]byte{}); e != api.OK {
			t.Fatal(e)
		}
	}
	return d
}

// state is what batches make: a map, and what the index of it has.
type state struct {
	seq  uint64
	m    map[string]string
	rows map[string]string
}

// none is what no batch makes.
func none() state {
	return state{m: map[string]string{}, rows: map[string]string{}}
}

// after tells a state behind a batch more; false, if that may not be.
func (s state) after(b api.Batch) (state, bool) {
	l, ok := plainUnit(string(b.B))
	if !ok || b.Kind < 1 || b.Kind > 2 {
		return s, false
	}
	to := state{b.Seq, maps.Clone(s.m), maps.Clone(s.rows)}
	if b.Kind == 2 {
		to.m, to.rows = map[string]string{}, map[string]string{}
	}
	for _, o := range l {
		if o.del {
			ok = ok && b.Kind == 1
			delete(to.m, o.key)
			delete(to.rows, o.key)
			continue
		}
		to.m[o.key] = o.val
		to.rows[o.key] = four(b.File) + four(b.At) + four(o.at) + four(len(o.val))
	}
	return to, ok
}

// states tells what a journal's batches make, as 14.1 says it: behind each that matters, that of none ahead of them where it is one; false, if they may not be.
func states(j *sect.Dev) ([]state, bool) {
	l := jour.Scan(j)
	first := 0
	for i, b := range l {
		if b.Kind == 2 {
			first = i
		}
	}
	l = l[first:]
	var told []state
	if len(l) == 0 || l[0].Seq == 1 {
		told = append(told, none())
	}
	if len(l) > 0 && l[0].Kind != 2 && l[0].Seq != 1 {
		return nil, false
	}
	now := none()
	for _, b := range l {
		var ok bool
		if now, ok = now.after(b); !ok {
			return nil, false
		}
		told = append(told, now)
	}
	return told, true
}

// read tells the rows of a device's index, and its meta; false, if there is none. The device stays as it is.
func read(x *sect.Dev) (map[string]string, api.Meta, bool) {
	x = x.Copy()
	x.Fuse(-1)
	if !slices.Contains(x.Names(), "p") {
		return nil, api.Meta{}, false
	}
	f, e := page.Open(x)
	if e != api.OK {
		return nil, api.Meta{}, false
	}
	r, e := tree.Open(f)
	if e != api.OK {
		return nil, api.Meta{}, false
	}
	l, e := r.Rows("", r.Count()+1)
	if e != api.OK {
		return nil, api.Meta{}, false
	}
	rows := map[string]string{}
	for _, r := range l {
		rows[r.Key] = r.Val
	}
	return rows, f.Meta(), true
}

// isClean tells whether a device's index is clean, as 14.1 says it.
func isClean(j, x *sect.Dev) bool {
	rows, meta, ok := read(x)
	l, _ := states(j)
	return ok && slices.ContainsFunc(l, func(s state) bool { return s.seq == meta.Mark && maps.Equal(s.rows, rows) })
}

// image tells all that can be seen of a device.
func image(d *sect.Dev) string {
	var out strings.Builder
	for _, name := range d.Names() {
		out.WriteString(name + "=")
		for k := range d.Len(name) {
			s, e := d.Read(name, k)
			out.WriteString(strconv.Itoa(int(e)))
			out.Write(s[:])
		}
		out.WriteString(";")
	}
	return out.String()
}

// open opens a base where that must go well.
func open(t testing.TB, j, x *sect.Dev) *Base {
	t.Helper()
	s, e := Open(j, x)
	if e != api.OK || s == nil {
		t.Fatal(s, e)
	}
	return s
}

// do does ops where that must go well.
func do(t testing.TB, s *Base, l ...api.Op) {
	t.Helper()
	if e := s.Do(l); e != api.OK {
		t.Fatal(e)
	}
}

// check does a Check that must go well.
func check(t testing.TB, s *Base) {
	t.Helper()
	if e := s.Check(); e != api.OK {
		t.Fatal(e)
	}
}

// pack does a Pack that must go well.
func pack(t testing.TB, s *Base) {
	t.Helper()
	if e := s.Pack(); e != api.OK {
		t.Fatal(e)
	}
}

// mapOf tells a base's map.
func mapOf(t testing.TB, s *Base) map[string]string {
	t.Helper()
	m := map[string]string{}
	for _, k := range s.Keys("", s.Count()) {
		v, ok := s.Get(k)
		if !ok {
			t.Fatal("no ", k)
		}
		m[k] = v
	}
	return m
}

// is holds a base against a map, by all that tells of it.
func is(t testing.TB, s *Base, m map[string]string) {
	t.Helper()
	keys := slices.Sorted(maps.Keys(m))
	if l := s.Keys("", len(m)+1); !slices.Equal(l, keys) || s.Count() != len(m) {
		t.Fatal(l, keys, s.Count())
	}
	live := 0
	for _, k := range keys {
		if v, ok := s.Get(k); v != m[k] || !ok {
			t.Fatal(k, v, ok)
		}
		live += 6 + len(k) + len(m[k])
	}
	if s.Live() != live {
		t.Fatal(s.Live(), live)
	}
	for _, k := range []string{"", "no such key", long(131)} {
		if v, ok := s.Get(k); v != "" || ok {
			t.Fatal(k, v)
		}
	}
}

// index holds what a device has against the map of a journal, as Check leaves it.
func index(t testing.TB, j, x *sect.Dev) {
	t.Helper()
	rows, meta, ok := read(x)
	l, _ := states(j)
	if !ok || meta.Mark != l[len(l)-1].seq || !maps.Equal(rows, l[len(l)-1].rows) {
		t.Fatal(ok, meta, rows, l[len(l)-1])
	}
}

func TestExample(t *testing.T) {
	j, x := sect.New(100), sect.New(100)
	s := open(t, j, x)
	is(t, s, nil)
	if s.Seq() != 0 || s.Clean() || len(j.Names()) != 0 {
		t.Error(s.Seq(), s.Clean(), j.Names())
	}
	if rows, meta, ok := read(x); !ok || len(rows) != 0 || meta != (api.Meta{Gen: 1}) {
		t.Error(rows, meta, ok)
	}
	// the index that was made is clean: it is that of no batch
	if s = open(t, j, x); !s.Clean() {
		t.Error("not clean")
	}
}

func TestDo(t *testing.T) {
	j, x := sect.New(1000), sect.New(1000)
	s := open(t, j, x)
	was := image(x)
	m := map[string]string{}
	for i, c := range []struct {
		l    []api.Op
		want map[string]string
	}{
		{[]api.Op{put("a", "1")}, map[string]string{"a": "1"}},
		{[]api.Op{put("b", ""), put("a", "2")}, map[string]string{"a": "2", "b": ""}},
		{[]api.Op{del("a")}, map[string]string{"b": ""}},
		{[]api.Op{del("a"), del("zz")}, map[string]string{"b": ""}},
		{[]api.Op{put("c", "1"), del("c"), del("b"), put("b", "4"), put("b", "5")}, map[string]string{"b": "5"}},
		{[]api.Op{{Key: "n"}, {Key: "e", Val: []byte{}}, {Key: "d", Del: true, Val: []byte{}}}, map[string]string{"b": "5", "e": "", "n": ""}},
		{[]api.Op{put("\x00", "\x00"), put("\xff\xfe", "\xff"), put(strings.Repeat("k", 130), strings.Repeat("v", 11000))}, map[string]string{"b": "5", "e": "", "n": "", "\x00": "\x00", "\xff\xfe": "\xff", strings.Repeat("k", 130): strings.Repeat("v", 11000)}},
		{[]api.Op{del("b"), del("e"), del("n"), del("\x00"), del("\xff\xfe"), del(strings.Repeat("k", 130))}, nil},
	} {
		used := j.Used()
		do(t, s, c.l...)
		is(t, s, c.want)
		l := jour.Scan(j)
		b := l[len(l)-1]
		if s.Seq() != uint64(i+1) || len(l) != i+1 || b.Seq != s.Seq() || b.Kind != 1 || string(b.B) != octets(c.l...) || j.Used()-used != jour.Need(len(b.B)) {
			t.Error(i, s.Seq(), b, j.Used()-used)
		}
		m = c.want
	}
	// it lasts, and the index has no part in it
	if image(x) != was {
		t.Error("index")
	}
	j.Crash(nil)
	s = open(t, j, x)
	is(t, s, m)
}

func TestNoUnit(t *testing.T) {
	j, x := sect.New(5000), sect.New(1000)
	s := open(t, j, x)
	do(t, s, put("a", "1"))
	was := image(j)
	var much []api.Op
	for i := range 17 {
		much = append(much, put("k"+strconv.Itoa(i), strings.Repeat("v", 11000)))
	}
	rest := 190000 - len(octets(much...))
	for i, l := range [][]api.Op{
		{put("", "v")}, {del("")}, {put(strings.Repeat("k", 131), "")}, {del(strings.Repeat("k", 131))}, {put("k", strings.Repeat("v", 11001))},
		{{Key: "a", Del: true, Val: []byte("v")}}, {del("a"), put("b", "2"), del("")}, {put("", "v"), put("b", "2")},
		append(slices.Clone(much), put("k", strings.Repeat("v", rest-6))),
	} {
		if e := s.Do(l); e != api.ErrArg || s.Seq() != 1 || image(j) != was {
			t.Error(i, e, s.Seq())
		}
		is(t, s, map[string]string{"a": "1"})
	}
	for _, l := range [][]api.Op{nil, {}} {
		if e := s.Do(l); e != api.OK || s.Seq() != 1 || image(j) != was {
			t.Error(e, s.Seq())
		}
	}
	// the greatest there is
	do(t, s, append(much, put("k", strings.Repeat("v", rest-7)))...)
	if l := jour.Scan(j); len(l) != 2 || len(l[1].B) != 190000 || s.Count() != 19 {
		t.Error(len(l), s.Count())
	}
}

// roomy tells a base whose journal's device has just so many sectors left; its map is a.
func roomy(t testing.TB, left int) (*Base, *sect.Dev) {
	t.Helper()
	j := fill(t, sect.New(300), 299-left)
	s := open(t, j, sect.New(1000))
	// All of it by hand, since a put would ask for more room.
	k, _ := jour.Open(j)
	if _, e := k.Append(1, []byte(octets(put("a", "1")))); e != api.OK || j.Most()-j.Used() != left {
		t.Fatal(e, j.Used())
	}
	s = open(t, j, sect.New(1000))
	is(t, s, map[string]string{"a": "1"})
	return s, j
}

func TestRoom(t *testing.T) {
	for need := 1; need <= 4; need++ {
		val := strings.Repeat("v", 48*need-7)
		dels := []api.Op{del("a")}
		for len(octets(dels...)) <= 48*(need-1) {
			dels = append(dels, del("no such key"))
		}
		for _, left := range []int{0, need - 1, need, need + 1, 63, 64, need + 62, need + 63, need + 64, need + 65} {
			for i, l := range [][]api.Op{{put("k", val)}, dels, append(slices.Clone(dels[:len(dels)-1]), put("b", "")), append([]api.Op{put("b", "")}, dels[:len(dels)-1]...)} {
				s, j := roomy(t, left)
				was, sectors := image(j), jour.Need(len(octets(l...)))
				e := api.OK
				if i != 1 && left < sectors+64 || left < sectors {
					e = api.ErrFull
				}
				if got := s.Do(l); got != e {
					t.Error(need, left, i, got, e)
				}
				if e != api.OK && (image(j) != was || s.Seq() != 1) {
					t.Error(need, left, i, s.Seq())
				}
				if e == api.OK && (j.Most()-j.Used() != left-sectors || s.Seq() != 2) {
					t.Error(need, left, i, s.Seq())
				}
				_, ok := s.Get("a")
				if want := e != api.OK || i == 0; ok != want && len(dels) > 1 {
					t.Error(need, left, i, e)
				}
			}
		}
	}
}

// Where several errors apply the first one of the sentence is told.
func TestDoOrder(t *testing.T) {
	s, j := roomy(t, 1)
	wrong, more, less := []api.Op{put("", "")}, []api.Op{put("b", "")}, []api.Op{del("a")}
	j.Fuse(0)
	if e := s.Do(less); e != api.ErrPower {
		t.Error(e)
	}
	j.Fuse(-1)
	for i, c := range []struct {
		l []api.Op
		e api.Errno
	}{{wrong, api.ErrArg}, {nil, api.OK}, {more, api.ErrFull}, {less, api.ErrPower}} {
		if e := s.Do(c.l); e != c.e {
			t.Error(i, e)
		}
	}
	is(t, s, map[string]string{"a": "1"})
	// alive, without room for anything
	s, _ = roomy(t, 0)
	for i, c := range []struct {
		l []api.Op
		e api.Errno
	}{{wrong, api.ErrArg}, {nil, api.OK}, {more, api.ErrFull}, {less, api.ErrFull}} {
		if e := s.Do(c.l); e != c.e {
			t.Error(i, e)
		}
	}
	is(t, s, map[string]string{"a": "1"})
}

func TestKeys(t *testing.T) {
	s := open(t, sect.New(1000), sect.New(1000))
	all := []string{"\x00", "a", "a\x00", "aa", "b", "ba", "z", "\xc3\xa9", "\xff"}
	for i := range all {
		do(t, s, put(all[(i*4)%len(all)], ""))
	}
	for _, from := range append(slices.Clone(all), "", "\x00\x00", "ab", "c", "\xff\x00", long(200)) {
		i := slices.IndexFunc(all, func(k string) bool { return k >= from })
		want := []string{}
		if i >= 0 {
			want = all[i:]
		}
		for _, n := range []int{math.MinInt, -1, 0, 1, 2, 3, 8, 9, 10, 100, math.MaxInt} {
			if l := s.Keys(from, n); !slices.Equal(l, want[:min(max(0, n), len(want))]) {
				t.Error(from, n, l)
			}
		}
	}
	// what is told is nobody else's, its spare room too
	for _, n := range []int{1, 3, 9} {
		l := s.Keys("", n)
		l = l[:cap(l)]
		for i := range l {
			l[i] = "?"
		}
		if l := s.Keys("", 100); !slices.Equal(l, all) {
			t.Error(n, l)
		}
	}
}

func TestLive(t *testing.T) {
	s := open(t, sect.New(100000), sect.New(1000))
	m := map[string]string{}
	for i := range 20 {
		k, v := strings.Repeat("k", i+1), strings.Repeat("v", i*i*25)
		do(t, s, put(k, "old"), put(k, v))
		m[k] = v
		if s.Live() != len(octets(puts(m)...)) {
			t.Error(s.Live())
		}
	}
	for i := range 20 {
		k := strings.Repeat("k", i+1)
		do(t, s, del(k))
		delete(m, k)
		if s.Live() != len(octets(puts(m)...)) {
			t.Error(s.Live())
		}
	}
	// more than one unit could have
	for i := range 40 {
		m["k"+strconv.Itoa(i)] = strings.Repeat("v", 11000)
		do(t, s, put("k"+strconv.Itoa(i), strings.Repeat("v", 11000)))
	}
	is(t, s, m)
}

// batch is one that is put down by hand.
type batch struct {
	seq  uint64
	kind int
	b    string
}

func TestOpenUnits(t *testing.T) {
	a, b, no := octets(put("a", "1")), octets(put("b", "2"), put("b", "3")), octets(del("a"))
	var big []api.Op
	for len(big) < 17 {
		big = append(big, put("k"+strconv.Itoa(len(big)), strings.Repeat("v", 11000)))
	}
	rest := 190000 - len(octets(big...))
	most, tooMuch := octets(append(big, put("k", strings.Repeat("v", rest-7)))...), octets(append(big, put("k", strings.Repeat("v", rest-6)))...)
	for i, c := range []struct {
		l    []batch
		want string
		e    api.Errno
	}{
		{nil, "", api.OK},
		{[]batch{{1, 1, a}}, "a=1 ", api.OK},
		{[]batch{{1, 1, ""}}, "", api.OK},
		{[]batch{{1, 1, a}, {2, 1, b}, {3, 1, no}}, "b=3 ", api.OK},
		// another first number
		{[]batch{{2, 1, a}}, "", api.ErrUnit},
		{[]batch{{2, 1, ""}}, "", api.ErrUnit},
		{[]batch{{math.MaxUint64, 1, a}}, "", api.ErrUnit},
		{[]batch{{2, 1, a}, {3, 2, b}}, "b=3 ", api.OK},
		{[]batch{{7, 2, a}}, "a=1 ", api.OK},
		{[]batch{{7, 2, a}, {8, 1, b}}, "a=1 b=3 ", api.OK},
		{[]batch{{math.MaxUint64, 2, a}}, "a=1 ", api.OK},
		{[]batch{{1, 2, ""}}, "", api.OK},
		{[]batch{{1, 2, a}, {2, 1, b}, {9, 2, a}, {10, 1, no}, {11, 2, b}, {12, 1, a}}, "a=1 b=3 ", api.OK},
		// no units
		{[]batch{{1, 1, "q"}}, "", api.ErrUnit},
		{[]batch{{1, 1, a}, {2, 1, a[:len(a)-1]}}, "", api.ErrUnit},
		{[]batch{{1, 1, a}, {2, 1, a + "\x00"}, {3, 1, b}}, "", api.ErrUnit},
		{[]batch{{1, 2, "\x01\x00"}}, "", api.ErrUnit},
		{[]batch{{1, 1, tooMuch}}, "", api.ErrUnit},
		{[]batch{{1, 2, tooMuch}}, "", api.ErrUnit},
		// a whole one has puts alone
		{[]batch{{1, 2, no}}, "", api.ErrUnit},
		{[]batch{{1, 2, a + no}}, "", api.ErrUnit},
		{[]batch{{1, 2, a}, {2, 2, b + no + a}, {3, 1, b}}, "", api.ErrUnit},
		{[]batch{{1, 1, a}, {2, 2, "q"}}, "", api.ErrUnit},
		// other kinds
		{[]batch{{1, 3, a}}, "", api.ErrUnit},
		{[]batch{{1, 1, a}, {2, 255, a}}, "", api.ErrUnit},
		{[]batch{{1, 2, a}, {2, 3, ""}, {3, 1, b}}, "", api.ErrUnit},
		// what is ahead of the last whole one doesn't matter
		{[]batch{{5, 1, "q"}, {6, 3, a}, {7, 2, no}, {8, 2, b}}, "b=3 ", api.OK},
		{[]batch{{1, 1, tooMuch}, {2, 2, ""}}, "", api.OK},
		// one that doesn't follow is none of them
		{[]batch{{1, 1, a}, {3, 1, "q"}}, "a=1 ", api.OK},
		{[]batch{{1, 1, a}, {0, 2, "q"}}, "a=1 ", api.OK},
	} {
		j, x := sect.New(10000), fill(t, sect.New(100), 5)
		for n, b := range c.l {
			raw(t, j, 1+n/2*3, b.seq, b.kind, b.b)
			j.Sync(jour.Name(1 + n/2*3))
		}
		// a sector that no batch begins with, and that isn't synced
		j.Make("j000001")
		j.Write("j000001", j.Len("j000001"), [64]byte{9, 9, 9})
		was, wasX, sectors := image(j), image(x), j.Len("j000001")
		s, e := Open(j, x)
		if e != c.e || (s == nil) != (e != api.OK) {
			t.Fatal(i, s, e)
		}
		if image(j) != was {
			t.Error(i, "journal")
		}
		if s == nil {
			if image(x) != wasX {
				t.Error(i, "index")
			}
			// nothing was synced either
			j.Crash(nil)
			x.Crash(nil)
			if x.Len("fill") != 0 || j.Len("j000001") != sectors-1 {
				t.Error(i, "synced")
			}
			continue
		}
		got := ""
		for _, k := range s.Keys("", s.Count()) {
			v, _ := s.Get(k)
			got += k + "=" + v + " "
		}
		if got != c.want {
			t.Error(i, got)
		}
	}
	j := sect.New(10000)
	raw(t, j, 1, 1, 1, most)
	s := open(t, j, sect.New(1000))
	if s.Count() != 18 || s.Live() != 190000 {
		t.Error(s.Count(), s.Live())
	}
}

// What Open tells lasts from then on, and what comes behind goes to a file of its own.
func TestOpenSyncs(t *testing.T) {
	j := sect.New(1000)
	raw(t, j, 3, 1, 1, octets(put("a", "1")))
	raw(t, j, 5, 2, 1, octets(put("b", "2")))
	j.Make("j000009")
	s := open(t, j, sect.New(1000))
	j.Crash(nil)
	is(t, open(t, j.Copy(), sect.New(1000)), map[string]string{"a": "1", "b": "2"})
	do(t, s, del("a"))
	if l := jour.Scan(j); len(l) != 3 || l[2].File != 10 || l[2].Seq != 3 || s.Seq() != 3 {
		t.Error(l, s.Seq())
	}
	// without power: the map is there, and nothing more is taken
	j = sect.New(1000)
	raw(t, j, 3, 1, 1, octets(put("a", "1")))
	j.Fuse(0)
	s = open(t, j, sect.New(1000))
	j.Fuse(-1)
	was := image(j)
	is(t, s, map[string]string{"a": "1"})
	if s.Do([]api.Op{put("b", "")}) != api.ErrPower || s.Do([]api.Op{del("a")}) != api.ErrPower || s.Pack() != api.ErrPower || s.Check() != api.OK || s.Seq() != 1 || image(j) != was {
		t.Error(s.Seq())
	}
	is(t, s, map[string]string{"a": "1"})
}

func TestCheck(t *testing.T) {
	t.Parallel()
	j, x := sect.New(5000), sect.New(5000)
	s := open(t, j, x)
	gen := uint64(1)
	mark := func() {
		t.Helper()
		was := image(j)
		check(t, s)
		index(t, j, x)
		gen++
		// it lasts, and is said each time, be it the same
		c := x.Copy()
		c.Crash(nil)
		if _, meta, _ := read(c); meta.Gen != gen || meta.Mark != s.Seq() || meta.Count != s.Count() || image(j) != was {
			t.Fatal(meta, gen, s.Seq())
		}
	}
	mark()
	mark()
	do(t, s, put("b", "2"), put("a", "1"), put("c", ""))
	mark()
	mark()
	rows, _, _ := read(x)
	if !maps.Equal(rows, map[string]string{"a": four(1) + four(0) + four(15) + four(1), "b": four(1) + four(0) + four(7) + four(1), "c": four(1) + four(0) + four(23) + four(0)}) {
		t.Error(rows)
	}
	do(t, s, put("a", "3"), del("b"))
	do(t, s, put("d", "4"))
	do(t, s, del("no such key"))
	mark()
	rows, _, _ = read(x)
	if !maps.Equal(rows, map[string]string{"a": four(1) + four(1) + four(7) + four(1), "c": four(1) + four(0) + four(23) + four(0), "d": four(1) + four(2) + four(7) + four(1)}) {
		t.Error(rows)
	}
	// the same value anew is another place
	do(t, s, put("a", "3"))
	mark()
	// many keys, in many files
	m := mapOf(t, s)
	for i := range 300 {
		k, v := string([]byte{byte(i * 85)})+"key"+strconv.Itoa(i*i%190)+long(i%120), strings.Repeat("v", i%200)
		do(t, s, put(k, v))
		m[k] = v
		if i%50 == 7 {
			mark()
		}
	}
	mark()
	if rows, _, _ := read(x); len(rows) != len(m) || len(j.Names()) < 2 {
		t.Error(len(rows), len(m), j.Names())
	}
	is(t, s, m)
	for _, k := range s.Keys("", 1000) {
		do(t, s, del(k))
		if s.Count()%40 == 0 {
			mark()
		}
	}
	if rows, meta, _ := read(x); len(rows) != 0 || meta.Root != 0 {
		t.Error(rows, meta)
	}
	// what is in the index points to the values
	do(t, s, put("k", "first"), put("l", strings.Repeat("v", 500)))
	check(t, s)
	rows, _, _ = read(x)
	for k, r := range rows {
		n := []int{}
		for i := 0; i < 16; i += 4 {
			n = append(n, int(binary.BigEndian.Uint32([]byte(r[i:]))))
		}
		b, e := jour.Read(j, n[0], n[1], n[2]+n[3])
		if v, _ := s.Get(k); e != api.OK || string(b[n[2]:]) != v {
			t.Error(k, n, e)
		}
	}
}

// Few pages are made where few keys were changed.
func TestCheckFew(t *testing.T) {
	j, x := sect.New(5000), sect.New(5000)
	s := open(t, j, x)
	var l []api.Op
	for i := range 500 {
		l = append(l, put("key"+strconv.Itoa(i), "v"))
	}
	do(t, s, l...)
	check(t, s)
	for i := range 30 {
		do(t, s, put("key"+strconv.Itoa(i*17), "w"))
		was := image(x)
		check(t, s)
		// pages are eight sectors; a sector is 65 in an image
		now := image(x)
		changed := 0
		for at := 0; at+65*8 <= len(now); at += 65 * 8 {
			if at+65*8 > len(was) || was[at:at+65*8] != now[at:at+65*8] {
				changed++
			}
		}
		if changed > 30 {
			t.Error(i, changed)
		}
	}
}

func TestClean(t *testing.T) {
	// an index of each batch, and of each way to be another
	j, x := sect.New(2000), sect.New(2000)
	s := open(t, j, x)
	marks := []*sect.Dev{x.Copy()}
	step := func(l ...api.Op) {
		do(t, s, l...)
		check(t, s)
		marks = append(marks, x.Copy())
	}
	step(put("a", "1"), put("b", "2"))
	step(put("c", "3"))
	step(del("no such key"))
	step(put("a", "1"))
	step(del("b"), del("c"))
	step(put("b", ""), put("c", strings.Repeat("v", 300)))
	want := mapOf(t, s)
	for i, x := range marks {
		// of batch i, with the journal as it is now, as it was then, and without its last batches
		x.Make("other")
		again := open(t, j.Copy(), x)
		if !again.Clean() || x.Names()[0] != "other" {
			t.Error(i, again.Clean(), x.Names())
		}
		is(t, again, want)
		check(t, again)
		index(t, j, x)
	}
	rows, _, _ := read(x)
	other := func(do func(r *tree.Tree) uint64) *sect.Dev {
		d := x.Copy()
		f, e := page.Open(d)
		r, g := tree.Open(f)
		if e != api.OK || g != api.OK {
			t.Fatal(e, g)
		}
		if e := r.Commit(do(r)); e != api.OK {
			t.Fatal(e)
		}
		return d
	}
	var l []*sect.Dev
	for k, r := range rows {
		for i := range r {
			l = append(l, other(func(r *tree.Tree) uint64 {
				b := []byte(rows[k])
				b[i]++
				r.Put(k, string(b))
				return 6
			}))
		}
		l = append(l, other(func(r *tree.Tree) uint64 { r.Delete(k); return 6 }))
		l = append(l, other(func(t *tree.Tree) uint64 { t.Put(k, r[:15]); return 6 }))
		l = append(l, other(func(t *tree.Tree) uint64 { t.Put(k, r+"\x00"); return 6 }))
		l = append(l, other(func(t *tree.Tree) uint64 { t.Delete(k); t.Put(k+"0", r); return 6 }))
		l = append(l, other(func(t *tree.Tree) uint64 { t.Put(k+"0", r); return 6 }))
	}
	for mark := range uint64(9) {
		if mark != 6 {
			l = append(l, other(func(r *tree.Tree) uint64 { return mark }))
		}
		if mark > 0 {
			l = append(l, other(func(r *tree.Tree) uint64 {
				for k := range rows {
					r.Delete(k)
				}
				return mark
			}))
		}
	}
	l = append(l, other(func(r *tree.Tree) uint64 { return math.MaxUint64 }))
	// faults of the file
	for k := range x.Len("p") {
		d := x.Copy()
		d.Write("p", k, [64]byte{3, 3, 3})
		l = append(l, d)
	}
	d := x.Copy()
	d.Drop("p")
	d.Make("p")
	l = append(l, d)
	d = d.Copy()
	d.Drop("p")
	l = append(l, d)
	d = d.Copy()
	d.Make("q")
	l = append(l, d, sect.New(2000))
	clean := 0
	for i, d := range l {
		d.Make("other")
		want := isClean(j, d)
		again := open(t, j.Copy(), d)
		if again.Clean() != want {
			t.Fatal(i, again.Clean())
		}
		is(t, again, mapOf(t, s))
		if want {
			clean++
			continue
		}
		if rows, meta, ok := read(d); !ok || len(rows) != 0 || meta != (api.Meta{Gen: 1}) || len(d.Names()) != 1 {
			t.Fatal(i, rows, meta, d.Names())
		}
		check(t, again)
		index(t, j, d)
	}
	// sectors of the metas that the last Commit didn't need, and pages that are free
	if clean == 0 || clean > x.Len("p") {
		t.Error(clean)
	}
}

// Which Marks may be behind a Pack, and what one of 0 asks.
func TestCleanMarks(t *testing.T) {
	j, x := sect.New(1000), sect.New(1000)
	s := open(t, j, x)
	empty := x.Copy()
	do(t, s, put("a", "1"))
	check(t, s)
	old := x.Copy()
	do(t, s, put("a", "2"))
	pack(t, s)
	packed := x.Copy()
	do(t, s, put("b", "3"))
	check(t, s)
	for i, c := range []struct {
		x     *sect.Dev
		clean bool
	}{{empty, false}, {old, false}, {packed, true}, {x, true}} {
		if again := open(t, j.Copy(), c.x.Copy()); again.Clean() != c.clean {
			t.Error(i, again.Clean())
		}
	}
	// all of nothing, and an index of nothing
	for seq := range uint64(3) {
		for kind := 1; kind <= 2; kind++ {
			for mark := range uint64(4) {
				if kind == 1 && seq > 1 {
					continue
				}
				j, x := sect.New(100), sect.New(100)
				if seq > 0 {
					raw(t, j, 1, seq, kind, octets())
				}
				f, _ := page.Open(x)
				r, _ := tree.Open(f)
				if e := r.Commit(mark); e != api.OK {
					t.Fatal(e)
				}
				s := open(t, j, x)
				if clean := mark == seq || mark == 0 && seq < 2; s.Clean() != clean {
					t.Error(seq, kind, mark, s.Clean())
				}
			}
		}
	}
	// a lost journal: nothing of the index holds
	again := open(t, sect.New(100), old)
	if again.Clean() || again.Count() != 0 {
		t.Error(again.Clean(), again.Count())
	}
}

// The errors of the index's device don't touch the map.
func TestLost(t *testing.T) {
	for most := -1; most <= 17; most++ {
		j, x := sect.New(1000), sect.New(most)
		raw(t, j, 1, 1, 1, octets(put("a", "1")))
		s := open(t, j, x)
		for range 3 {
			e := s.Check()
			if most < 16 && e != api.ErrFull || s.Clean() {
				t.Fatal(most, e, s.Clean())
			}
			// the empty index has room, that of a key has none
			if most >= 16 && e != api.ErrFull {
				t.Fatal(most, e)
			}
		}
		is(t, s, map[string]string{"a": "1"})
		do(t, s, put("b", "2"))
		if e := s.Pack(); e != api.ErrFull || j.Used() != 1 || s.Seq() != 3 {
			t.Fatal(most, e, j.Used(), s.Seq())
		}
		is(t, s, map[string]string{"a": "1", "b": "2"})
		do(t, s, del("a"), del("b"))
		if e := s.Check(); (e == api.OK) != (most >= 16) {
			t.Fatal(most, e)
		}
		is(t, open(t, j, sect.New(1000)), nil)
	}
	// no power while it is opened, at each place
	for n := range 24 {
		for i := range 4 {
			j, x := sect.New(1000), sect.New(1000)
			s := open(t, j, x)
			do(t, s, put("a", "1"))
			check(t, s)
			x.Make("another")
			if i > 0 {
				x.Drop("p")
			}
			if i > 1 {
				x.Make("p")
			}
			if i > 2 {
				x.Make("zz")
			}
			x.Fuse(n)
			s = open(t, j, x)
			x.Fuse(-1)
			is(t, s, map[string]string{"a": "1"})
			// a sync of a file that is there, drops, a file that is made, its 16 sectors and their sync
			need := []int{1, 1 + 18, 1 + 2 + 18, 1 + 3 + 18}[i]
			if n >= need {
				if s.Clean() != (i == 0) || s.Check() != api.OK {
					t.Error(n, i, s.Clean())
				}
			} else {
				if e := s.Check(); e != api.ErrPower || s.Clean() {
					t.Error(n, i, e)
				}
				if e := s.Pack(); e != api.ErrPower || s.Seq() != 2 {
					t.Error(n, i, e)
				}
				do(t, s, put("b", "2"))
				is(t, s, map[string]string{"a": "1", "b": "2"})
			}
			is(t, open(t, j, x), mapOf(t, s))
		}
	}
}

// A Check that has no room changes nothing, and the next one goes on as if it had not been.
func TestCheckFull(t *testing.T) {
	t.Parallel()
	for most := 16; most <= 120; most += 3 {
		j, x := sect.New(10000), sect.New(most)
		s := open(t, j, x)
		var last state
		last = none()
		full, well := 0, 0
		for i := range 60 {
			var l []api.Op
			for k := range 5 {
				if i%20 < 10 {
					l = append(l, put(x20(i%20*5+k), "v"))
				} else {
					l = append(l, del(x20((i%20-10)*5+k)))
				}
			}
			do(t, s, l...)
			was := mapOf(t, s)
			e := s.Check()
			is(t, s, was)
			rows, meta, ok := read(x)
			switch e {
			case api.OK:
				well++
				index(t, j, x)
				all, _ := states(j)
				last = all[len(all)-1]
			case api.ErrFull:
				full++
				if !ok || meta.Mark != last.seq || !maps.Equal(rows, last.rows) {
					t.Fatal(most, i, meta)
				}
				// what is there is still clean
				if again := open(t, j.Copy(), x.Copy()); !again.Clean() {
					t.Fatal(most, i)
				}
			default:
				t.Fatal(most, i, e)
			}
			// with few keys there is room, whatever went wrong ahead
			if s.Count() == 0 && e != api.OK {
				t.Fatal(most, i, e)
			}
		}
		if well == 0 || most < 60 && full == 0 {
			t.Error(most, well, full)
		}
	}
}

// pages tells what the index of a device is, page by page.
func pages(t testing.TB, x *sect.Dev) string {
	t.Helper()
	f, e := page.Open(x.Copy())
	if e != api.OK {
		t.Fatal(e)
	}
	r, e := tree.Open(f)
	if e != api.OK {
		t.Fatal(e)
	}
	out := strconv.Itoa(f.Meta().Root)
	ids, _ := r.Pages()
	for _, id := range ids {
		b, _ := f.Read(id)
		out += " " + strconv.Itoa(id) + " " + string(b)
	}
	return out
}

// A Check that failed is not to be told from none by the next one.
func TestCheckAgain(t *testing.T) {
	var l []api.Op
	for i := range 90 {
		l = append(l, put(x20(i), "w"))
	}
	failed := 0
	for most := 16; most < 100; most += 4 {
		for few := range 12 {
			var told [2]string
			for i := range told {
				x := sect.New(most)
				s := open(t, sect.New(10000), x)
				do(t, s, put(x20(3), "v"), put(x20(50), "v"))
				s.Check()
				do(t, s, l...)
				if i > 0 && s.Check() != api.OK {
					failed++
				}
				for i := range l {
					if i%12 >= few {
						do(t, s, del(l[i].Key))
					}
				}
				told[i] = s.Check().Error() + pages(t, x)
			}
			if told[0] != told[1] {
				t.Fatalf("%d %d\n%q\n%q", most, few, told[0], told[1])
			}
		}
	}
	if failed == 0 {
		t.Error("none failed")
	}
}

// x20 tells a key of twenty bytes.
func x20(n int) string {
	return "a key of the base " + strconv.Itoa(100 + n)[1:]
}

func TestPack(t *testing.T) {
	j, x := sect.New(2000), sect.New(2000)
	names := []string{"J000001", "fill", "j", "j000000", "j00001", "j0000001", "j1", "j00000a", "j+00001", "j-00001", "k000001", "p"}
	for _, n := range names {
		j.Make(n)
		j.Write(n, 0, [64]byte{1})
	}
	s := open(t, j, x)
	m := map[string]string{}
	for i := range 300 {
		k, v := "k"+strconv.Itoa(i%37), strings.Repeat("v", i)
		do(t, s, put(k, v))
		m[k] = v
	}
	do(t, s, del("k3"), del("k4"))
	delete(m, "k3")
	delete(m, "k4")
	was := len(jour.Scan(j))
	pack(t, s)
	is(t, s, m)
	l := jour.Scan(j)
	if len(l) != 1 || l[0].Seq != uint64(was+1) || s.Seq() != l[0].Seq || l[0].Kind != 2 || l[0].At != 0 || string(l[0].B) != octets(puts(m)...) {
		t.Fatal(was, len(l))
	}
	names = append(names, jour.Name(l[0].File))
	slices.Sort(names)
	if !slices.Equal(j.Names(), names) || j.Used()-11-1 != jour.Need(s.Live()) {
		t.Error(j.Names(), j.Used())
	}
	index(t, j, x)
	// it lasts, as does the index
	cj, cx := j.Copy(), x.Copy()
	cj.Crash(nil)
	cx.Crash(nil)
	again := open(t, cj, cx)
	if !again.Clean() || again.Seq() != s.Seq() {
		t.Error(again.Clean(), again.Seq())
	}
	is(t, again, m)
	// changes behind it go to its file; the next Pack drops that, too
	do(t, s, put("z", "1"))
	m["z"] = "1"
	if l := jour.Scan(j); len(l) != 2 || l[1].File != l[0].File || l[1].Seq != l[0].Seq+1 {
		t.Error(l)
	}
	is(t, open(t, j.Copy(), x.Copy()), m)
	pack(t, s)
	pack(t, s)
	if l := jour.Scan(j); len(l) != 1 || s.Seq() != uint64(was+4) || l[0].Seq != s.Seq() || l[0].File != again.j.File()+5 && len(j.Names()) != len(names) {
		t.Error(l[0].Seq, j.Names())
	}
	is(t, s, m)
	// nothing is one sector
	for _, k := range s.Keys("", 1000) {
		do(t, s, del(k))
	}
	pack(t, s)
	if l := jour.Scan(j); len(l) != 1 || len(l[0].B) != 0 || l[0].Kind != 2 || j.Used()-12 != 1 {
		t.Error(j.Used())
	}
	is(t, open(t, j, x), nil)
}

// All older files are dropped, whatever is in them, and none but the journal's.
func TestPackDrops(t *testing.T) {
	j, x := sect.New(1000), sect.New(1000)
	raw(t, j, 2, 1, 1, octets(put("a", "1")))
	raw(t, j, 4, 7, 1, "does not follow")
	j.Make("j000005")
	j.Make("j000008")
	j.Write("j000008", 0, [64]byte{1, 2, 3})
	s := open(t, j, x)
	do(t, s, put("b", "2"))
	pack(t, s)
	if !slices.Equal(j.Names(), []string{"j000010"}) || j.Used() != 1 {
		t.Error(j.Names(), j.Used())
	}
	is(t, open(t, j, x), map[string]string{"a": "1", "b": "2"})
}

func TestPackBound(t *testing.T) {
	j, x := sect.New(100000), sect.New(1000)
	s := open(t, j, x)
	m := map[string]string{}
	for i := range 17 {
		m["k"+strconv.Itoa(i)] = strings.Repeat("v", 11000)
		do(t, s, put("k"+strconv.Itoa(i), m["k"+strconv.Itoa(i)]))
	}
	rest := 190000 - s.Live()
	m["z"] = strings.Repeat("z", rest-6)
	do(t, s, put("z", m["z"]))
	was, wasX := image(j), image(x)
	if e := s.Pack(); e != api.ErrBound || s.Live() != 190001 || image(j) != was || image(x) != wasX || s.Seq() != 18 {
		t.Fatal(e, s.Live())
	}
	is(t, s, m)
	// it goes on, and packs when it is a unit again
	m["z"] = m["z"][1:]
	do(t, s, put("z", m["z"]))
	pack(t, s)
	if j.Used() != jour.Need(190000) || s.Live() != 190000 {
		t.Error(j.Used())
	}
	is(t, s, m)
	index(t, j, x)
}

func TestPackFull(t *testing.T) {
	for need := 1; need < 4; need++ {
		for left := need - 1; left <= need+1; left++ {
			j := fill(t, sect.New(300), 300-need-left)
			x := sect.New(1000)
			raw(t, j, 1, 1, 1, octets(put("a", strings.Repeat("v", 48*need-7))))
			j.Sync("j000001")
			s := open(t, j, x)
			was, wasX := image(j), image(x)
			e := s.Pack()
			if left < need {
				if e != api.ErrFull || image(j) != was || image(x) != wasX || s.Seq() != 1 {
					t.Error(need, left, e)
				}
				// nor is it dead
				if left > 0 && s.Do([]api.Op{del("no such key")}) != api.OK {
					t.Error(need, left)
				}
			} else if e != api.OK || j.Most()-j.Used() != left || s.Seq() != 2 {
				t.Error(need, left, e, j.Used())
			}
			is(t, s, map[string]string{"a": strings.Repeat("v", 48*need-7)})
		}
	}
}

func TestPackOrder(t *testing.T) {
	// a dead journal is told ahead of a map that is no unit, that ahead of no room
	for i := range 8 {
		dead, much, full := i&1 > 0, i&2 > 0, i&4 > 0
		j := sect.New(10000)
		n := 1
		if much {
			n = 18
		}
		for k := range n {
			raw(t, j, 1, uint64(k+1), 1, octets(put("k"+strconv.Itoa(k), strings.Repeat("v", 11000))))
		}
		if full {
			fill(t, j, 10000-j.Used())
		}
		s := open(t, j, sect.New(1000))
		if dead {
			j.Fuse(0)
			s.Do([]api.Op{del("k0")})
			if full {
				// Where nothing is written there is no want of power.
				s = open(t, j, sect.New(1000))
			}
			j.Fuse(-1)
		}
		want := api.OK
		switch {
		case dead:
			want = api.ErrPower
		case much:
			want = api.ErrBound
		case full:
			want = api.ErrFull
		}
		was := image(j)
		if e := s.Pack(); e != want || e != api.OK && image(j) != was || s.Count() != n {
			t.Error(i, e, want)
		}
	}
}

// A Pack that breaks off, be it at a file that is to be dropped, leaves the map as it was, and a dead journal.
func TestPackPower(t *testing.T) {
	for n := range 20 {
		for files := range 4 {
			j, x := sect.New(1000), sect.New(1000)
			s := open(t, j, x)
			m := map[string]string{}
			for i := range files {
				s = open(t, j, x)
				m["k"+strconv.Itoa(i)] = strings.Repeat("v", 50)
				do(t, s, put("k"+strconv.Itoa(i), strings.Repeat("v", 50)))
			}
			check(t, s)
			seq := s.Seq()
			// the file, its sectors, the sync, the drops
			sectors := jour.Need(s.Live())
			j.Fuse(n)
			e := s.Pack()
			j.Fuse(-1)
			is(t, s, m)
			if n >= 1+sectors+1+files {
				if e != api.OK || s.Seq() != seq+1 {
					t.Error(n, files, e)
				}
				continue
			}
			was := image(j)
			if e != api.ErrPower || s.Do([]api.Op{put("z", "")}) != api.ErrPower || s.Do([]api.Op{del("k0")}) != api.ErrPower || s.Do(nil) != api.OK || s.Pack() != api.ErrPower || image(j) != was {
				t.Error(n, files, e)
			}
			// the files are dropped rising
			var left []string
			for i := max(1, n-sectors-1); i <= files+min(n, 1); i++ {
				left = append(left, jour.Name(i))
			}
			if !slices.Equal(j.Names(), left) {
				t.Error(n, files, j.Names(), left)
			}
			if done := n >= 1+sectors+1; s.Seq() != seq && !done || s.Seq() != seq+1 && done {
				t.Error(n, files, s.Seq(), seq)
			}
			// the index can be made that of it, and comes back clean
			check(t, s)
			is(t, s, m)
			j.Crash(nil)
			again := open(t, j, x)
			is(t, again, m)
			if !again.Clean() || again.Seq() != s.Seq() {
				t.Error(n, files, again.Clean(), again.Seq())
			}
			do(t, again, put("z", ""))
			pack(t, again)
			m["z"] = ""
			is(t, again, m)
			if len(j.Names()) != 1 || j.Used() != jour.Need(again.Live()) {
				t.Error(n, files, j.Names())
			}
		}
	}
}

// Files and batches end at their greatest numbers.
func TestNumbers(t *testing.T) {
	j, x := sect.New(1000), sect.New(1000)
	raw(t, j, 999998, 1, 1, octets(put("a", "1")))
	s := open(t, j, x)
	do(t, s, put("b", "2"))
	was := image(j)
	if e := s.Pack(); e != api.ErrBound || image(j) != was || s.Seq() != 2 {
		t.Error(e)
	}
	// an error of the next file: the journal is dead
	if e := s.Do([]api.Op{del("a")}); e != api.ErrPower {
		t.Error(e)
	}
	if e := s.Pack(); e != api.ErrPower {
		t.Error(e)
	}
	check(t, s)
	is(t, s, map[string]string{"a": "1", "b": "2"})
	s = open(t, j, x)
	if e := s.Do([]api.Op{del("a")}); e != api.ErrBound || s.Seq() != 2 {
		t.Error(e)
	}
	if e := s.Do([]api.Op{put("a", "")}); e != api.ErrBound || s.Seq() != 2 {
		t.Error(e)
	}
	is(t, s, map[string]string{"a": "1", "b": "2"})
	// from 999,998 to 999,999 there is one Pack
	j, x = sect.New(1000), sect.New(1000)
	raw(t, j, 999998, 1, 1, octets(put("a", "1")))
	s = open(t, j, x)
	pack(t, s)
	if !slices.Equal(j.Names(), []string{"j999999"}) {
		t.Error(j.Names())
	}
	rows, _, _ := read(x)
	if rows["a"] != four(999999)+four(0)+four(7)+four(1) {
		t.Error(rows)
	}
	// the greatest batch
	j, x = sect.New(1000), sect.New(1000)
	raw(t, j, 1, math.MaxUint64-1, 2, octets(put("a", "1")))
	s = open(t, j, x)
	do(t, s, put("b", "2"))
	if s.Seq() != math.MaxUint64 {
		t.Error(s.Seq())
	}
	if e := s.Do([]api.Op{put("c", "")}); e != api.ErrBound {
		t.Error(e)
	}
	if e := s.Do([]api.Op{del("a")}); e != api.ErrBound {
		t.Error(e)
	}
	check(t, s)
	index(t, j, x)
	if e := s.Pack(); e != api.ErrBound || s.Seq() != math.MaxUint64 {
		t.Error(e)
	}
	is(t, s, map[string]string{"a": "1", "b": "2"})
	is(t, open(t, j, x), map[string]string{"a": "1", "b": "2"})
}

// Want of power at the index's device leaves the map, and an index that is the old one or the new.
func TestCheckPower(t *testing.T) {
	for n := range 60 {
		for pick := range 3 {
			j, x := sect.New(1000), sect.New(1000)
			s := open(t, j, x)
			var l []api.Op
			for i := range 40 {
				l = append(l, put(x20(i), "v"))
			}
			do(t, s, l...)
			check(t, s)
			do(t, s, put("b", "2"), del(x20(3)), put(x20(30), "w"))
			x.Fuse(n)
			e := s.Check()
			if e != api.OK && e != api.ErrPower || e == api.OK && n < 12 {
				t.Fatal(n, e)
			}
			m := mapOf(t, s)
			do(t, s, put("c", "3"))
			m["c"] = "3"
			is(t, s, m)
			picks := make([]int, 100)
			for i := range picks {
				picks[i] = pick * (i%2 + n%2)
			}
			x.Crash(picks)
			if _, meta, ok := read(x); !ok || meta.Mark != 2 && (meta.Mark != 1 || e == api.OK) {
				t.Fatal(n, pick, e, meta, ok)
			}
			again := open(t, j, x)
			if !again.Clean() {
				t.Fatal(n, pick)
			}
			is(t, again, m)
			check(t, again)
			index(t, j, x)
		}
	}
	// while the base goes on: each Check tells so, or does all
	for n := range 30 {
		j, x := sect.New(1000), sect.New(1000)
		s := open(t, j, x)
		do(t, s, put("a", "1"))
		x.Fuse(n)
		e := s.Check()
		x.Fuse(-1)
		do(t, s, put("b", "2"), del("a"))
		if again := s.Check(); again == api.OK {
			index(t, j, x)
		} else if again != api.ErrPower || e == api.OK {
			t.Fatal(n, e, again)
		}
		is(t, s, map[string]string{"b": "2"})
	}
}

// script is what a base does one behind the other in the tests of crashes.
func script() []func(s *Base) api.Errno {
	ops := func(l ...api.Op) func(s *Base) api.Errno { return func(s *Base) api.Errno { return s.Do(l) } }
	return []func(s *Base) api.Errno{
		ops(put("a", "1"), put("b", strings.Repeat("b", 60))),
		(*Base).Check,
		ops(put("c", "3"), del("a")),
		(*Base).Pack,
		ops(put("a", "4"), put("c", "5")),
		ops(del("b"), put("d", strings.Repeat("d", 100))),
		(*Base).Check,
		(*Base).Pack,
		ops(del("a"), del("c"), del("d"), put("e", "")),
	}
}

// playTo does the script until it breaks off, and tells what the map was behind the last act that went well, and behind the one that was going on.
func playTo(t testing.TB, s *Base) (sure, more map[string]string, done int) {
	t.Helper()
	now := mapOf(t, s)
	for i, f := range script() {
		twin := open(t, unfused(s.d), sect.New(1000))
		f(twin)
		next := mapOf(t, twin)
		if e := f(s); e == api.ErrPower {
			is(t, s, now)
			return now, next, i
		} else if e != api.OK {
			t.Fatal(i, e)
		}
		is(t, s, next)
		now = next
	}
	return now, now, len(script())
}

// unfused tells a copy of a device that has power.
func unfused(d *sect.Dev) *sect.Dev {
	d = d.Copy()
	d.Fuse(-1)
	return d
}

// among tells a base's map, which must be one of two.
func among(t testing.TB, s *Base, a, b map[string]string) map[string]string {
	t.Helper()
	m := mapOf(t, s)
	if !maps.Equal(m, a) && !maps.Equal(m, b) {
		t.Fatal(m, a, b)
	}
	is(t, s, m)
	return m
}

// some tells rows of picks of a few sorts.
func some(n int) []int {
	l := make([]int, 200)
	for i := range l {
		switch {
		case n < 3:
			l[i] = n
		case n < 6:
			l[i] = (i + n) % 3
		default:
			l[i] = i * i / (n - 4) * 7 % 11 % 3
		}
	}
	return l
}

// W1, W3: whatever is cut where, with any sectors lost or bad, the map is that of all acts that went well, perhaps with the one that was going on.
func TestCrash(t *testing.T) {
	t.Parallel()
	for which := range 3 {
		cut := true
		for n := 0; cut; n++ {
			cut = false
			for pick := range 9 {
				j, x := sect.New(1000), sect.New(1000)
				s := open(t, j, x)
				if which != 1 {
					j.Fuse(n)
				}
				if which != 0 {
					x.Fuse(n)
				}
				sure, more, done := playTo(t, s)
				cut = cut || done < len(script())
				j.Crash(some(pick))
				x.Crash(some(8 - pick))
				clean := isClean(j, x)
				without := open(t, j.Copy(), sect.New(1000))
				s = open(t, j, x)
				m := among(t, s, sure, more)
				is(t, without, m)
				if s.Clean() != clean {
					t.Fatal(which, n, pick, s.Clean())
				}
				// it is as good as one that never fell: twice, the second time cut again
				j.Fuse(n * 7 % 40)
				x.Fuse(n * 11 % 60)
				sure, more, _ = playTo(t, s)
				j.Crash(some(pick * 5 % 9))
				x.Crash(some(pick * 7 % 9))
				s = open(t, j, x)
				among(t, s, sure, more)
				_, _, done = playTo(t, s)
				if done != len(script()) {
					t.Fatal(which, n, pick, done)
				}
				check(t, s)
				index(t, j, x)
			}
		}
	}
}

// Also where it falls while it is opened.
func TestCrashOpen(t *testing.T) {
	t.Parallel()
	for cut := range 38 {
		for n := range 25 {
			for pick := range 6 {
				j, x := sect.New(1000), sect.New(1000)
				s := open(t, j, x)
				j.Fuse(cut)
				x.Fuse(cut)
				sure, more, _ := playTo(t, s)
				j.Crash(some(pick))
				x.Crash(some(pick))
				m := among(t, open(t, j.Copy(), x.Copy()), sure, more)
				if pick > 2 {
					x.Write("p", 8, [64]byte{})
					x.Write("p", 0, [64]byte{})
				}
				j.Fuse(n / 5)
				x.Fuse(n)
				is(t, open(t, j, x), m)
				j.Crash(some(pick + 1))
				x.Crash(some(pick + 2))
				is(t, open(t, j, x), m)
				j.Crash(nil)
				x.Crash(nil)
				is(t, open(t, j, x), m)
			}
		}
	}
}

// W2: with the index, an older one or none there is one map.
func TestOneMap(t *testing.T) {
	j, x := sect.New(1000), sect.New(1000)
	s := open(t, j, x)
	all := []*sect.Dev{sect.New(1000), sect.New(3), x.Copy()}
	for range 3 {
		for i, f := range script() {
			if e := f(s); e != api.OK {
				t.Fatal(i, e)
			}
			want := mapOf(t, s)
			for n, d := range append(slices.Clone(all), x) {
				d = d.Copy()
				clean := isClean(j, d)
				again := open(t, j.Copy(), d)
				if again.Clean() != clean || again.Seq() != s.Seq() || n == len(all) && !clean {
					t.Fatal(i, n, again.Clean(), again.Seq())
				}
				is(t, again, want)
				// and so it goes on
				do(t, again, put("more", "1"), del("c"))
				again = open(t, again.d, d)
				m := maps.Clone(want)
				delete(m, "c")
				m["more"] = "1"
				is(t, again, m)
				if n != 1 {
					pack(t, again)
					is(t, again, m)
					is(t, open(t, again.d, d), m)
				}
			}
			all = append(all, x.Copy())
		}
	}
}

// W4: devices of each small room; what has none changes nothing.
func TestSmall(t *testing.T) {
	t.Parallel()
	for most := range 90 {
		for mostX := 0; mostX < 60; mostX += 5 {
			j, x := sect.New(most), sect.New(mostX)
			s := open(t, j, x)
			for i, f := range script() {
				was, m, seq := image(j), mapOf(t, s), s.Seq()
				e := f(s)
				if e != api.OK && e != api.ErrFull {
					t.Fatal(most, mostX, i, e)
				}
				if e != api.OK && s.Seq() == seq {
					is(t, s, m)
					if image(j) != was {
						t.Fatal(most, mostX, i)
					}
				}
				l, ok := states(j)
				if !ok {
					t.Fatal(most, mostX, i)
				}
				is(t, s, l[len(l)-1].m)
				is(t, open(t, j.Copy(), x.Copy()), l[len(l)-1].m)
				// Without puts there is room until there is none at all.
				if left := j.Most() - j.Used(); left > 0 && open(t, j.Copy(), sect.New(0)).Do([]api.Op{del("a")}) != api.OK {
					t.Fatal(most, mostX, i, left)
				}
			}
		}
	}
}

// What is handed in is not changed, nor the room behind it, and is not kept.
func TestHandedIn(t *testing.T) {
	s := open(t, sect.New(1000), sect.New(1000))
	val := []byte("value and what is behind")
	l := []api.Op{{Key: "a", Val: val[:5]}, {Key: "b", Val: val[6:9]}, {Key: "other"}}
	do(t, s, l[:2]...)
	if string(val) != "value and what is behind" || l[0].Key != "a" || l[2].Key != "other" || len(l[1].Val) != 3 {
		t.Error(string(val), l)
	}
	for i := range val {
		val[i] = '?'
	}
	l[0] = api.Op{}
	is(t, s, map[string]string{"a": "value", "b": "and"})
	pack(t, s)
	is(t, s, map[string]string{"a": "value", "b": "and"})
}

// Bases don't know of each other, nor of the copies of their devices.
func TestApart(t *testing.T) {
	j, x := sect.New(1000), sect.New(1000)
	s := open(t, j, x)
	do(t, s, put("a", "1"))
	check(t, s)
	other := open(t, j.Copy(), x.Copy())
	do(t, other, put("a", "2"), put("b", "3"))
	pack(t, other)
	is(t, s, map[string]string{"a": "1"})
	do(t, s, put("c", "4"))
	check(t, s)
	is(t, other, map[string]string{"a": "2", "b": "3"})
	is(t, s, map[string]string{"a": "1", "c": "4"})
}

// To ask changes nothing.
func TestLooking(t *testing.T) {
	j, x := sect.New(1000), sect.New(1000)
	s := open(t, j, x)
	do(t, s, put("a", "1"), put("b", "2"))
	check(t, s)
	do(t, s, put("c", "3"))
	was, wasX := image(j), image(x)
	for range 3 {
		is(t, s, map[string]string{"a": "1", "b": "2", "c": "3"})
		if s.Seq() != 2 || s.Clean() {
			t.Error(s.Seq(), s.Clean())
		}
	}
	if image(j) != was || image(x) != wasX {
		t.Error("changed")
	}
	// nor does anything change what Clean tells: it was so at Open
	check(t, s)
	pack(t, s)
	if s.Clean() {
		t.Error("clean")
	}
	s = open(t, j, x)
	do(t, s, put("d", ""))
	if !s.Clean() {
		t.Error("not clean")
	}
}

var name = regexp.MustCompile(`^j[0-9]{6}$`)

// plain is a base as 14.2 says it, word for word, with a journal on a device of its own; of the index it knows but the rows.
type plain struct {
	d    *sect.Dev
	j    *jour.Journal
	m    map[string]string
	dead bool
}

// plainOpen opens what is on a device where that must go well.
func plainOpen(t testing.TB, d *sect.Dev) *plain {
	l, ok := states(d)
	if !ok {
		t.Fatal("no units")
	}
	p := &plain{d: d, m: l[len(l)-1].m}
	c := d.Copy()
	for _, b := range jour.Scan(d) {
		// one sync a file, if that is more than the Fuse lets go well
		if b.At == 0 && c.Sync(jour.Name(b.File)) != api.OK {
			p.dead = true
		}
	}
	p.j, _ = jour.Open(d)
	return p
}

// append puts a batch down, be it of a dead journal.
func (p *plain) append(kind int, b string) api.Errno {
	if p.dead {
		return api.ErrPower
	}
	_, e := p.j.Append(kind, []byte(b))
	p.dead = e == api.ErrPower
	return e
}

func (p *plain) Do(l []api.Op) api.Errno {
	b := octets(l...)
	ops, ok := plainUnit(b)
	more, rest := false, len(b)
	for _, o := range l {
		ok = ok && (!o.Del || len(o.Val) == 0) && len(o.Key) < 131
		more = more || !o.Del
	}
	if !ok {
		return api.ErrArg
	}
	if len(l) == 0 {
		return api.OK
	}
	sectors := 0
	for ; rest > 0; rest -= 48 {
		sectors++
	}
	if more && p.d.Used()+sectors+64 > p.d.Most() {
		return api.ErrFull
	}
	if e := p.append(1, b); e != api.OK {
		return e
	}
	for _, o := range ops {
		if o.del {
			delete(p.m, o.key)
		} else {
			p.m[o.key] = o.val
		}
	}
	return api.OK
}

// Pack does all but the Check.
func (p *plain) Pack() api.Errno {
	b := octets(puts(p.m)...)
	switch {
	case p.dead:
		return api.ErrPower
	case len(b) > 190000:
		return api.ErrBound
	case p.d.Used()+max(1, (len(b)+47)/48) > p.d.Most():
		return api.ErrFull
	}
	n, e := p.j.Next()
	if e == api.OK {
		e = p.append(2, b)
	}
	for _, old := range p.d.Names() {
		if e == api.OK && name.MatchString(old) && old > "j000000" && old < jour.Name(n) {
			e = p.d.Drop(old)
		}
	}
	p.dead = e != api.OK
	return e
}

// reader gives numbers out of octets; noughts, when there are no more.
type reader struct{ b []byte }

func (r *reader) next() int {
	if len(r.b) == 0 {
		return 0
	}
	n := int(r.b[0])
	r.b = r.b[1:]
	return n
}

// op tells an op, now and then one that may not be.
func (r *reader) op() api.Op {
	n := r.next()
	k := "k" + strconv.Itoa(n%23)
	switch n % 29 {
	case 0:
		k += long(128)
	case 1:
		k += long(100 + n%7)
	case 2:
		k = ""
	}
	v := r.next()
	switch {
	case v%3 == 0:
		return del(k)
	case v == 250:
		return put(k, long(11001))
	case v > 250:
		return put(k, long(11000))
	}
	return put(k, strings.Repeat(strconv.Itoa(v), v%40*(v%11)))
}

// world is a base, and a plain one beside it.
type world struct {
	j, x *sect.Dev
	s    *Base
	p    *plain
	// maybe is what a crash may bring back, besides the plain one's map; power tells that the index's device has, or had, a Fuse since it was opened.
	maybe map[string]string
	power bool
}

// reopen opens the base anew, and holds it against its journal and its index.
func (w *world) reopen(t testing.TB) {
	t.Helper()
	clean := isClean(w.j, w.x)
	w.s = open(t, w.j, w.x)
	was := w.p.m
	w.p = plainOpen(t, w.p.d)
	if !maps.Equal(w.p.m, was) && !maps.Equal(w.p.m, w.maybe) {
		t.Fatal(w.p.m, was, w.maybe)
	}
	if w.s.Clean() != clean && !w.power {
		t.Fatal(clean)
	}
	is(t, w.s, w.p.m)
	switch {
	case !w.p.dead:
		w.maybe = w.p.m
	case !maps.Equal(w.p.m, was):
		// It wasn't made to last: a crash may take it back.
		w.maybe = was
	}
}

// checked holds the index against the map behind a Check that told e.
func (w *world) checked(t testing.TB, e api.Errno) {
	t.Helper()
	if e == api.OK {
		rows, meta, ok := read(w.x)
		l, _ := states(w.j)
		if !w.p.dead && (!ok || meta.Mark != l[len(l)-1].seq || !maps.Equal(rows, l[len(l)-1].rows)) {
			t.Fatal(meta, rows)
		}
		if !ok || meta.Mark != w.s.Seq() || len(rows) != len(w.p.m) {
			t.Fatal(meta, len(rows), len(w.p.m))
		}
		return
	}
	if e != api.ErrPower || !w.power {
		t.Fatal(e)
	}
}

// do does ops in both.
func (w *world) do(t testing.TB, r *reader) {
	var l []api.Op
	for range r.next() % 6 {
		l = append(l, r.op())
	}
	m := maps.Clone(w.p.m)
	for _, o := range l {
		if o.Del {
			delete(m, o.Key)
		} else {
			m[o.Key] = string(o.Val)
		}
	}
	alive := !w.p.dead
	got, want := w.s.Do(l), w.p.Do(l)
	if got != want {
		t.Fatal(got, want, l)
	}
	if got == api.ErrPower && alive {
		w.maybe = m
	}
}

// step does one act.
func (w *world) step(t testing.TB, r *reader) {
	t.Helper()
	switch n := r.next(); n % 16 {
	case 0:
		w.checked(t, w.s.Check())
	case 1:
		e := w.p.Pack()
		got := w.s.Pack()
		if e != api.OK && got != e {
			t.Fatal(got, e)
		} else if e == api.OK {
			w.checked(t, got)
		}
		if used := jour.Need(w.s.Live()); e == api.OK && w.j.Used() != used {
			t.Fatal(w.j.Used(), used)
		}
	case 2:
		w.x.Fuse(-1)
		w.power = false
		w.reopen(t)
	case 3:
		// A lost index.
		w.x, w.power = sect.New(100000), false
		w.reopen(t)
		if w.s.Clean() {
			t.Fatal("clean")
		}
	case 4:
		k := r.next() % 20
		w.j.Fuse(k)
		w.p.d.Fuse(k)
	case 5:
		w.x.Fuse(r.next() % 60)
		w.power = true
	case 6, 7:
		l := some(r.next() % 40)
		w.j.Crash(l)
		w.p.d.Crash(l)
		w.x.Crash(some(r.next() % 40))
		w.power = false
		w.reopen(t)
	case 8:
		w.j.Fuse(-1)
		w.p.d.Fuse(-1)
		w.x.Fuse(-1)
	case 9:
		// A spoilt index.
		w.x.Fuse(-1)
		w.power = false
		w.x.Write("p", r.next()%max(1, w.x.Len("p")), [64]byte{byte(n)})
		w.reopen(t)
	default:
		w.do(t, r)
	}
	if image(w.j) != image(w.p.d) || w.s.Seq() != w.p.j.Seq() {
		t.Fatal("journal ", w.s.Seq(), w.p.j.Seq())
	}
	is(t, w.s, w.p.m)
}

// run does acts that octets tell.
func run(t testing.TB, b []byte) {
	t.Helper()
	r := &reader{b}
	j, x := sect.New(100*r.next()), sect.New(100000)
	w := &world{j: j, x: x, p: plainOpen(t, j.Copy())}
	w.maybe = w.p.m
	w.reopen(t)
	for range 200 {
		if len(r.b) == 0 {
			break
		}
		w.step(t, r)
	}
}

// W1 to W4 in long rows of acts.
func TestRuns(t *testing.T) {
	t.Parallel()
	rnd := rand.New(rand.NewSource(14))
	for range 100 {
		b := make([]byte, 50+rnd.Intn(600))
		rnd.Read(b)
		run(t, b)
	}
}

// The same calls lead to the same devices, octet for octet.
func TestAlike(t *testing.T) {
	var was string
	for range 5 {
		j, x := sect.New(5000), sect.New(5000)
		s := open(t, j, x)
		out := ""
		for i := range 30 {
			var l []api.Op
			for k := range 20 {
				l = append(l, put(x20(i*k%97), strconv.Itoa(i)), del(x20(k*i*7%31)))
			}
			do(t, s, l...)
			switch i % 5 {
			case 0:
				check(t, s)
			case 3:
				pack(t, s)
			case 4:
				s = open(t, j, x)
			}
			out += image(j) + image(x) + strings.Join(s.Keys("", 50), ",")
		}
		if was != "" && out != was {
			t.Fatal("other")
		}
		was = out
	}
}

// anyBatches makes a journal of batches that octets tell, and opens it.
func anyBatches(t testing.TB, b []byte) {
	t.Helper()
	r := &reader{b}
	j, x := sect.New(3000), sect.New(1000)
	seq := uint64(r.next() % 3)
	for file := 1; len(r.b) > 0 && file < 30; file += r.next() % 2 {
		var l []api.Op
		for range r.next() % 4 {
			l = append(l, r.op())
		}
		s := octets(l...)
		if n := r.next(); n > 230 && len(s) > 0 {
			s = s[:n%len(s)]
		}
		kind := r.next() % 12
		switch {
		case kind == 0:
			kind = 3
		case kind < 4:
			kind = 2
		default:
			kind = 1
		}
		if j.Used()+jour.Need(len(s)) > j.Most() {
			break
		}
		raw(t, j, file, seq, kind, s)
		if seq++; r.next() == 7 {
			seq += 3
		}
	}
	l, ok := states(j)
	s, e := Open(j, x)
	if (e == api.OK) != ok || (s != nil) != ok || e != api.OK && e != api.ErrUnit {
		t.Fatal(e, ok)
	}
	if !ok {
		if len(x.Names()) > 0 {
			t.Fatal(x.Names())
		}
		return
	}
	last := l[len(l)-1]
	if is(t, s, last.m); s.Seq() != last.seq || s.Clean() {
		t.Fatal(s.Seq(), last.seq, s.Clean())
	}
	check(t, s)
	index(t, j, x)
	if s = open(t, j, x); !s.Clean() {
		t.Fatal("not clean")
	}
	if e := s.Pack(); e == api.OK {
		index(t, j, x)
	} else if e != api.ErrFull {
		t.Fatal(e)
	}
	is(t, s, last.m)
}

func TestAnyBatches(t *testing.T) {
	t.Parallel()
	rnd := rand.New(rand.NewSource(41))
	for range 1500 {
		b := make([]byte, rnd.Intn(200))
		rnd.Read(b)
		anyBatches(t, b)
	}
}

// A great map goes through all calls.
func TestGreat(t *testing.T) {
	t.Parallel()
	j, x := sect.New(100000), sect.New(100000)
	s := open(t, j, x)
	m := map[string]string{}
	for i := range 40 {
		var l []api.Op
		for k := range 500 {
			key := "key of a great map " + strconv.Itoa(i*317+k)
			l = append(l, put(key, strconv.Itoa(i)))
			m[key] = strconv.Itoa(i)
		}
		do(t, s, l...)
	}
	is(t, s, m)
	check(t, s)
	index(t, j, x)
	if e := s.Pack(); e != api.ErrBound {
		t.Error(e)
	}
	again := open(t, j, x)
	if !again.Clean() {
		t.Error("not clean")
	}
	is(t, again, m)
}

// Whatever comes in, every call ends and none panics.
func TestNoPanic(t *testing.T) {
	wild := []string{"", "\x00", "a", long(130), long(131), long(300), long(100000), "\xff\xff", "j000001", "p"}
	for _, most := range []int{math.MinInt, -1, 0, 1, 15, 16, 17, 66, 1000, math.MaxInt} {
		for _, mostX := range []int{-1, 16, 1000} {
			j, x := sect.New(most), sect.New(mostX)
			s := open(t, j, x)
			for i, k := range wild {
				s.Do([]api.Op{put(k, wild[(i+1)%len(wild)])})
				s.Do([]api.Op{del(k), {Key: k, Del: true, Val: []byte(k)}, {}})
				s.Do([]api.Op{del(k)})
				s.Get(k)
				s.Keys(k, math.MaxInt)
				s.Keys(k, math.MinInt)
				s.Check()
				s.Pack()
				s.Live()
				s.Clean()
				s.Seq()
			}
			is(t, open(t, j, x), mapOf(t, s))
		}
	}
	// one device as both
	for n := -1; n < 40; n++ {
		d := sect.New(1000)
		s := open(t, d, sect.New(100))
		do(t, s, put("a", "1"))
		d.Fuse(n)
		for range 3 {
			s, e := Open(d, d)
			if e != api.OK {
				// An index that was made anew took the journal away.
				break
			}
			s.Do([]api.Op{put("b", "2")})
			s.Check()
			s.Pack()
			s.Check()
			s.Keys("", 10)
		}
	}
	// devices of nothing but noise
	rnd := rand.New(rand.NewSource(1))
	for range 200 {
		j, x := sect.New(200), sect.New(200)
		for i, d := range []*sect.Dev{j, x} {
			for _, name := range []string{"j000001", "j000002", "p"}[i*2 : i+2] {
				d.Make(name)
				for k := range rnd.Intn(60) {
					var s [64]byte
					rnd.Read(s[:rnd.Intn(64)])
					d.Write(name, k, s)
				}
			}
		}
		s := open(t, j, x)
		is(t, s, nil)
		check(t, s)
	}
}

func FuzzCalls(f *testing.F) {
	rnd := rand.New(rand.NewSource(2))
	for range 10 {
		b := make([]byte, 200)
		rnd.Read(b)
		f.Add(b)
	}
	f.Fuzz(func(t *testing.T, b []byte) { run(t, b) })
}

func FuzzOpen(f *testing.F) {
	rnd := rand.New(rand.NewSource(3))
	for range 10 {
		b := make([]byte, 100)
		rnd.Read(b)
		f.Add(b)
	}
	f.Fuzz(func(t *testing.T, b []byte) { anyBatches(t, b) })
}
