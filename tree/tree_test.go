package tree

import (
	"bytes"
	"encoding/binary"
	"maps"
	"math"
	"math/rand"
	"slices"
	"strconv"
	"strings"
	"testing"

	"waybill/api"
	"waybill/node"
	"waybill/page"
	"waybill/sect"
)

// plain is a tree that is read from its file as 11.1 says it, word for word.
type plain struct {
	f     *page.File
	ok    bool
	rows  []api.Row
	met   map[int]int
	deep  []int // of each leaf
	pages []int
}

// plainOpen reads the tree of a file.
func plainOpen(f *page.File) *plain {
	p := &plain{f: f, ok: true, met: map[int]int{}}
	m := f.Meta()
	if m.Root != 0 {
		p.below(m.Root, 1)
	}
	for i, r := range p.rows {
		p.ok = p.ok && (i == 0 || p.rows[i-1].Key < r.Key)
	}
	for _, deep := range p.deep {
		p.ok = p.ok && deep == p.deep[0]
	}
	p.ok = p.ok && len(p.rows) == m.Count
	p.pages = slices.Sorted(maps.Keys(p.met))
	return p
}

// below tells the keys below a page.
func (p *plain) below(id, deep int) []string {
	b, e := p.f.Read(id)
	n, ok := node.Parse(b)
	if e != api.OK || !ok || p.met[id] > 0 {
		p.ok = false
		return nil
	}
	p.met[id]++
	var keys, ahead []string
	for i, r := range n.Rows {
		now := []string{r.Key}
		if n.Leaf {
			p.rows = append(p.rows, api.Row{Key: r.Key, Val: r.Val})
		} else {
			now = p.below(r.Page, deep+1)
		}
		for _, k := range now {
			p.ok = p.ok && r.Key <= k
		}
		for _, k := range ahead {
			p.ok = p.ok && (i == 0 || r.Key > k)
		}
		ahead = now
		keys = append(keys, now...)
	}
	if n.Leaf {
		p.deep = append(p.deep, deep)
	}
	return keys
}

// high tells how many rows of nodes there are, be they empty.
func (p *plain) high() int {
	if len(p.deep) == 0 {
		return 0
	}
	return p.deep[0]
}

// openFile opens the file of a device where that must go well.
func openFile(t testing.TB, d *sect.Dev) *page.File {
	t.Helper()
	f, e := page.Open(d)
	if e != api.OK {
		t.Fatal(e)
	}
	return f
}

// open opens the tree of a device where that must go well.
func open(t testing.TB, d *sect.Dev) (*Tree, *page.File) {
	t.Helper()
	f := openFile(t, d)
	r, e := Open(f)
	if e != api.OK || r == nil {
		t.Fatal(r, e)
	}
	return r, f
}

// rowsOf tells a map's rows, rising.
func rowsOf(m map[string]string) []api.Row {
	var l []api.Row
	for _, k := range slices.Sorted(maps.Keys(m)) {
		l = append(l, api.Row{Key: k, Val: m[k]})
	}
	return l
}

// is holds a tree against a map, by Rows, Count, and a Get of each key.
func is(t testing.TB, r *Tree, m map[string]string) {
	t.Helper()
	l, e := r.Rows("", math.MaxInt)
	if e != api.OK || !slices.Equal(l, rowsOf(m)) || r.Count() != len(m) {
		t.Fatal(e, r.Count(), len(m), l)
	}
	for k, v := range m {
		if got, ok, e := r.Get(k); got != v || !ok || e != api.OK {
			t.Fatal(k, got, ok, e)
		}
	}
}

// sound holds what a tree has at hand against what its root leads to: nothing else is kept, and each node may be a page.
func sound(t testing.TB, r *Tree) {
	t.Helper()
	met := 0
	var down func(id int)
	down = func(id int) {
		n, ok := r.hand[numberOf(id)]
		if !ok {
			return
		}
		met++
		if !node.Ok(n) {
			t.Fatal("no node", n)
		}
		for _, x := range n.Rows {
			if !n.Leaf {
				down(x.Page)
			}
		}
	}
	down(r.now.root)
	gone := slices.Sorted(slices.Values(r.gone))
	if met != len(r.hand) || len(slices.Compact(gone)) != len(r.gone) {
		t.Fatal(met, len(r.hand), r.gone)
	}
	for _, id := range gone {
		if !slices.Contains(r.pages, id) {
			t.Fatal(id, r.pages)
		}
	}
}

// lasts holds what a Commit left in the file against a map, and what is in use against what is free.
func lasts(t testing.TB, r *Tree, f *page.File, m map[string]string) *plain {
	t.Helper()
	p := plainOpen(f)
	if !p.ok || !slices.Equal(p.rows, rowsOf(m)) {
		t.Fatal(p.ok, p.rows, len(m))
	}
	used(t, r, f, p.pages)
	return p
}

// used holds Pages against what should be in use; all else is free.
func used(t testing.TB, r *Tree, f *page.File, want []int) {
	t.Helper()
	l, e := r.Pages()
	if e != api.OK || !slices.Equal(l, want) {
		t.Fatal(e, l, want)
	}
	all := slices.Concat([]int{0, 1}, l, f.Free())
	slices.Sort(all)
	for i, id := range all {
		if i != id {
			t.Fatal(id, "is both, or neither", l, f.Free())
		}
	}
	if len(all) != f.Len() {
		t.Fatal(len(all), f.Len())
	}
}

// image tells all that can be seen of a device.
func image(d *sect.Dev) string {
	var out strings.Builder
	for _, name := range d.Names() {
		out.WriteString(name + "=")
		for k := range d.Len(name) {
			s, e := d.Read(name, k)
			out.WriteString(strconv.Itoa(int(e)))
			out.Write(s[:])
		}
		out.WriteString(";")
	}
	return out.String()
}

// texts tells what pages have.
func texts(f *page.File, ids []int) []string {
	var l []string
	for _, id := range ids {
		b, e := f.Read(id)
		l = append(l, string(b)+strconv.Itoa(int(e)))
	}
	return l
}

// x tells a text of n bytes.
func x(n int) string {
	return strings.Repeat("x", n)
}

// two tells a number in two octets.
func two(n int) string {
	return string([]byte{byte(n >> 8), byte(n)})
}

// styles are kinds of keys, each of numbers up to 65,535.
var styles = []func(n int) string{
	two,
	func(n int) string { return x(128) + two(n) },
	func(n int) string { return two(n) + x(128) },
	func(n int) string { return two(n) + x(n*31%129) },
	func(n int) string { return two(n*257) + strings.Repeat("\xff", n%7*n%129) },
	func(n int) string { return strconv.Itoa(n) },
	func(n int) string { return x(n%100) + two(n) + x(n%19) },
}

// val tells a value of a number.
func val(n int) string {
	return strings.Repeat(string(rune('0'+n%75)), n*7%21)
}

// The document's example.
func TestExample(t *testing.T) {
	r, _ := open(t, sect.New(100))
	if e := r.Put("a", "its value"); e != api.OK {
		t.Error(e)
	}
	if v, ok, e := r.Get("a"); v != "its value" || !ok || e != api.OK {
		t.Error(v, ok, e)
	}
}

// 11.1: a new file has an empty tree.
func TestEmpty(t *testing.T) {
	d := sect.New(100)
	r, f := open(t, d)
	before := image(d)
	for range 2 {
		is(t, r, nil)
		used(t, r, f, nil)
		if v, ok, e := r.Get("a"); v != "" || ok || e != api.OK || r.High() != 0 || r.Count() != 0 {
			t.Error(v, ok, e)
		}
		if ok, e := r.Delete("a"); ok || e != api.OK {
			t.Error(ok, e)
		}
		if e := r.Back(); e != api.OK {
			t.Error(e)
		}
		if image(d) != before || f.Meta() != (api.Meta{Gen: 1}) {
			t.Error("something was written")
		}
	}
	// An empty one is committed, too.
	for i := range 4 {
		if e := r.Commit(uint64(i)); e != api.OK || f.Meta() != (api.Meta{Gen: uint64(i) + 2, Mark: uint64(i)}) {
			t.Error(e, f.Meta())
		}
		lasts(t, r, f, nil)
	}
	r, _ = open(t, d)
	is(t, r, nil)
}

// 11.1: which keys and values there are; others change nothing.
func TestArgs(t *testing.T) {
	m := map[string]string{"b": "1", "\x00": "", "\xff": "\x00", x(130): x(20)}
	for _, commit := range []bool{false, true} {
		d := sect.New(1000)
		r, f := open(t, d)
		for k, v := range m {
			if e := r.Put(k, v); e != api.OK {
				t.Error(k, e)
			}
		}
		if commit {
			r.Commit(1)
		}
		for _, c := range [][2]string{{"", ""}, {"", x(20)}, {"", x(21)}, {x(131), ""}, {x(131), x(21)}, {x(255), ""}, {x(256), ""}, {x(100000), ""}, {"b", x(21)}, {"c", x(21)}, {"b", x(255)}, {"b", x(100000)}} {
			if e := r.Put(c[0], c[1]); e != api.ErrArg {
				t.Error(c, e)
			}
		}
		// What can't be a key is just not there.
		for _, k := range []string{"", x(131), x(255), x(256), x(100000), "bb", "a", "\x00\x00", x(129)} {
			if v, ok, e := r.Get(k); v != "" || ok || e != api.OK {
				t.Error(k, v, ok, e)
			}
			if ok, e := r.Delete(k); ok || e != api.OK {
				t.Error(k, ok, e)
			}
		}
		is(t, r, m)
		sound(t, r)
		if e := r.Commit(2); e != api.OK {
			t.Error(e)
		}
		lasts(t, r, f, m)
		again, _ := open(t, d)
		is(t, again, m)
	}
}

// 11.1: every length of a key and of a value is kept; a value is put in the stead of another one.
func TestLengths(t *testing.T) {
	d := sect.New(20000)
	r, f := open(t, d)
	m := map[string]string{}
	for round := range 3 {
		for n := 1; n <= 130; n++ {
			k, v := x(n), strings.Repeat(string(rune('a'+round)), (n+7*round)%21)
			if e := r.Put(k, v); e != api.OK {
				t.Fatal(n, e)
			}
			m[k] = v
		}
		is(t, r, m)
		sound(t, r)
		if e := r.Commit(7); e != api.OK {
			t.Fatal(e)
		}
		lasts(t, r, f, m)
	}
}

// 11.1: rows from any key on, as many as are asked for.
func TestRows(t *testing.T) {
	r, _ := open(t, sect.New(5000))
	m := map[string]string{}
	for n := range 150 {
		k := two(n*3) + x(n%9)
		m[k] = val(n)
		r.Put(k, val(n))
		if n == 70 {
			r.Commit(1)
		}
	}
	all := rowsOf(m)
	froms := []string{"", "\x00", "\x00\x00", "\x00\x01", "\xff", x(130), x(131), x(1000), "\xff" + x(200)}
	for n := range 460 {
		froms = append(froms, two(n), two(n)+"x", two(n)+"y")
	}
	for _, from := range froms {
		i := slices.IndexFunc(all, func(r api.Row) bool { return r.Key >= from })
		if i < 0 {
			i = len(all)
		}
		for _, n := range []int{math.MinInt, -1, 0, 1, 2, 7, 8, 30, 149, 150, 151, math.MaxInt} {
			want := all[i:]
			want = want[:min(max(n, 0), len(want))]
			if l, e := r.Rows(from, n); e != api.OK || !slices.Equal(l, want) {
				t.Fatalf("%q %d: %d %d %d", from, n, e, len(l), len(want))
			}
		}
	}
}

// 11.1: what is there is committed with its mark; a Back tells what it was.
func TestCommitAndBack(t *testing.T) {
	d := sect.New(20000)
	r, f := open(t, d)
	now, kept := map[string]string{}, map[string]string{}
	rnd := rand.New(rand.NewSource(11))
	for i := range 300 {
		for range rnd.Intn(30) {
			k := styles[3](rnd.Intn(120))
			if rnd.Intn(2) == 0 {
				_, there := now[k]
				if ok, e := r.Delete(k); ok != there || e != api.OK {
					t.Fatal(i, k, ok, e)
				}
				delete(now, k)
			} else {
				v := val(rnd.Intn(1000))
				if e := r.Put(k, v); e != api.OK {
					t.Fatal(i, k, e)
				}
				now[k] = v
			}
		}
		is(t, r, now)
		sound(t, r)
		// All of this is nothing to what lasts.
		lasts(t, r, f, kept)
		meta := f.Meta()
		if rnd.Intn(2) == 0 {
			if e := r.Back(); e != api.OK || f.Meta() != meta {
				t.Fatal(i, e, f.Meta())
			}
			now = maps.Clone(kept)
		} else {
			mark := rnd.Uint64()
			if e := r.Commit(mark); e != api.OK {
				t.Fatal(i, e)
			}
			kept = maps.Clone(now)
			if got := f.Meta(); got.Gen != meta.Gen+1 || got.Mark != mark || got.Count != len(kept) {
				t.Fatal(i, got)
			}
		}
		is(t, r, kept)
		sound(t, r)
		if p := lasts(t, r, f, kept); len(kept) > 0 && p.high() != r.High() {
			t.Fatal(i, p.high(), r.High())
		}
		if len(r.hand) > 0 || len(r.gone) > 0 || len(r.spare) > 0 {
			t.Fatal(i, "something is still at hand")
		}
		if i%10 == 0 {
			r, f = open(t, d)
			is(t, r, kept)
		}
	}
}

// 11.1: Back to what Open found, and to nothing.
func TestBackToOpen(t *testing.T) {
	d := sect.New(1000)
	r, f := open(t, d)
	r.Put("a", "1")
	if r.High() != 1 || r.Count() != 1 {
		t.Error(r.High(), r.Count())
	}
	r.Back()
	is(t, r, nil)
	if r.High() != 0 {
		t.Error(r.High())
	}
	r.Put("b", "2")
	r.Commit(3)
	r, f = open(t, d)
	r.Delete("b")
	is(t, r, nil)
	used(t, r, f, []int{2})
	r.Back()
	is(t, r, map[string]string{"b": "2"})
	if r.High() != 1 {
		t.Error(r.High())
	}
	r.Delete("b")
	r.Put("c", "")
	r.Back()
	is(t, r, map[string]string{"b": "2"})
	if e := r.Commit(4); e != api.OK || f.Meta() != (api.Meta{Gen: 3, Root: 2, Count: 1, Mark: 4}) {
		t.Error(e, f.Meta())
	}
}

// 11.1, 11.2: what is put as it is already, or taken away without being there, needs no page.
func TestNothingNew(t *testing.T) {
	r, f := open(t, sect.New(5000))
	m := map[string]string{}
	for n := range 100 {
		m[styles[3](n)] = val(n)
		r.Put(styles[3](n), val(n))
	}
	r.Commit(1)
	ids, _ := r.Pages()
	for k, v := range m {
		r.Put(k, v)
		r.Delete(k + "?")
	}
	if len(r.hand) > 0 || len(r.gone) > 0 {
		t.Error(len(r.hand), r.gone)
	}
	r.Commit(2)
	if l, _ := r.Pages(); !slices.Equal(l, ids) || f.Meta().Mark != 2 {
		t.Error(l, ids)
	}
	lasts(t, r, f, m)
}

// order tells n numbers, of four kinds: rising, falling, from both ends, in any order.
func order(kind, n int) []int {
	l := make([]int, n)
	for i := range l {
		l[i] = i
	}
	switch kind {
	case 1:
		slices.Reverse(l)
	case 2:
		for i := range l {
			l[i] = i / 2
			if i%2 == 1 {
				l[i] = n - 1 - i/2
			}
		}
	case 3:
		rand.New(rand.NewSource(int64(n))).Shuffle(n, func(i, j int) { l[i], l[j] = l[j], l[i] })
	}
	return l
}

// single does one Put or Delete and a Commit behind it, and holds what both write against 11.2: none; nothing that is kept, and only as many pages as may be.
func single(t testing.TB, d *sect.Dev, r *Tree, f *page.File, do func() bool) {
	t.Helper()
	was, _ := r.Pages()
	old, high := texts(f, was), r.High()
	d.Fuse(0) // what writes would fail
	if !do() {
		t.Fatal("it failed")
	}
	d.Fuse(-1)
	if e := r.Commit(5); e != api.OK {
		t.Fatal(e)
	}
	now, _ := r.Pages()
	fresh := 0
	for _, id := range now {
		if !slices.Contains(was, id) {
			fresh++
		}
	}
	if fresh > 4+4*max(high, r.High()) {
		t.Fatal(fresh, high, r.High())
	}
	if !slices.Equal(texts(f, was), old) {
		t.Fatal("what was kept is written over")
	}
}

// made holds the size of a tree that this package made against 11.2.
func made(t testing.TB, r *Tree, f *page.File, n, greatest int) int {
	t.Helper()
	l, _ := r.Pages()
	greatest = max(greatest, len(l))
	if len(l) > 3*n || n == 0 && len(l) > 0 || r.High() > 60 || f.Len() > 2+2*greatest {
		t.Fatal(n, len(l), r.High(), f.Len(), greatest)
	}
	// Both bounds hold since this does of each page.
	for _, id := range l {
		if x, e := r.node(id); e != api.OK || len(x.Rows) == 0 || !x.Leaf && len(x.Rows) == 1 {
			t.Fatal(id, x, e)
		}
	}
	return greatest
}

// 11.1, 11.2: trees that grow and shrink key by key, of all kinds of keys, in all kinds of orders.
func TestGrowAndShrink(t *testing.T) {
	t.Parallel()
	const n = 100
	for style, key := range styles {
		for kind := range 16 {
			d := sect.New(20000)
			r, f := open(t, d)
			m := map[string]string{}
			greatest := 0
			for i, k := range slices.Concat(order(kind%4, n), order(kind/4, n)) {
				k := key(k)
				single(t, d, r, f, func() bool {
					if i < n {
						m[k] = val(i)
						return r.Put(k, val(i)) == api.OK
					}
					delete(m, k)
					ok, e := r.Delete(k)
					return ok && e == api.OK
				})
				greatest = made(t, r, f, len(m), greatest)
				if i%30 == 7 {
					is(t, r, m)
					lasts(t, r, f, m)
				}
			}
			is(t, r, nil)
			lasts(t, r, f, nil)
			if f.Meta().Root != 0 || r.High() != 0 {
				t.Fatal(style, kind, f.Meta())
			}
		}
	}
}

// 11.2: a great tree of the greatest keys, and what is left of it when most are gone, whichever these are.
func TestGreat(t *testing.T) {
	t.Parallel()
	for style := range 3 {
		key := styles[style]
		d := sect.New(api.MaxSects)
		r, f := open(t, d)
		m := map[string]string{}
		const n = 2500
		greatest := 0
		for i := range n {
			k := key(i * 7919 % n)
			m[k] = x(20)
			if e := r.Put(k, x(20)); e != api.OK {
				t.Fatal(i, e)
			}
			if i%500 == 499 {
				r.Commit(1)
				greatest = made(t, r, f, len(m), greatest)
			}
		}
		sound(t, r)
		is(t, r, m)
		lasts(t, r, f, m)
		for i := range n {
			if i%100 == 0 {
				continue
			}
			k := key(i)
			delete(m, k)
			if ok, e := r.Delete(k); !ok || e != api.OK {
				t.Fatal(i, ok, e)
			}
			if i%500 == 499 {
				r.Commit(1)
				greatest = made(t, r, f, len(m), greatest)
			}
		}
		sound(t, r)
		r.Commit(2)
		made(t, r, f, len(m), greatest)
		is(t, r, m)
		lasts(t, r, f, m)
		// 25 keys are left: they are not each in a page of its own.
		if l, _ := r.Pages(); style == 0 && len(l) > 5 || len(l) > 25 {
			t.Error(style, len(l))
		}
	}
}

// 11.2: in trees that are mixed for long, no bound is broken.
func TestMixed(t *testing.T) {
	t.Parallel()
	for style, key := range styles {
		d := sect.New(20000)
		r, f := open(t, d)
		m := map[string]string{}
		rnd := rand.New(rand.NewSource(int64(style)))
		greatest := 0
		for i := range 1500 {
			k := key(rnd.Intn(160))
			del := rnd.Intn(100) < 35+30*(i/250%2)
			single(t, d, r, f, func() bool {
				if del {
					_, there := m[k]
					delete(m, k)
					ok, e := r.Delete(k)
					return ok == there && e == api.OK
				}
				m[k] = val(rnd.Intn(1000))
				return r.Put(k, m[k]) == api.OK
			})
			greatest = made(t, r, f, len(m), greatest)
			if i%100 == 0 {
				is(t, r, m)
				lasts(t, r, f, m)
				again, _ := open(t, d.Copy())
				is(t, again, m)
			}
		}
	}
}

// 11.2: Put, Delete and all that looks write nothing, not a sector, and use nothing of a Fuse.
func TestWritesNothing(t *testing.T) {
	d := sect.New(5000)
	r, _ := open(t, d)
	for n := range 100 {
		r.Put(styles[3](n), val(n))
	}
	r.Commit(1)
	before := image(d)
	d.Fuse(1)
	for n := range 200 {
		r.Put(styles[3](n), "new")
		r.Delete(styles[3](n * 3 % 200))
		r.Get(styles[3](n))
		r.Rows("", n)
		r.Pages()
		r.High()
		r.Count()
	}
	r.Back()
	if image(d) != before || d.Make("x") != api.OK || d.Make("y") != api.ErrPower {
		t.Error("something was written")
	}
}

// leaf and inner make nodes.
func leaf(keys ...string) api.Node {
	n := api.Node{Leaf: true}
	for _, k := range keys {
		n.Rows = append(n.Rows, api.Row{Key: k, Val: "v"})
	}
	return n
}

func inner(rows ...api.Row) api.Node { return api.Node{Rows: rows} }

func row(k string, id int) api.Row { return api.Row{Key: k, Page: id} }

// byHand makes a file of these pages, from page 2 on; one that is no node is of one octet.
func byHand(t testing.TB, d *sect.Dev, root, count int, l []api.Node) *page.File {
	t.Helper()
	f := openFile(t, d)
	var ids []int
	for _, n := range l {
		b, ok := node.Append(n)
		if !ok {
			b = []byte{9}
		}
		id, e := f.Put(b)
		if e != api.OK {
			t.Fatal(e)
		}
		ids = append(ids, id)
	}
	if e := f.Commit(root, count, 0, ids); e != api.OK {
		t.Fatal(e)
	}
	return f
}

// 11.1: which pages are a tree.
func TestOpen(t *testing.T) {
	none := api.Node{}
	for i, c := range []struct {
		ok    bool
		count int
		l     []api.Node
	}{
		{true, 1, []api.Node{leaf("a")}},
		{true, 0, []api.Node{leaf()}},
		{true, 3, []api.Node{leaf("\x00", "a", "\xff")}},
		// The count.
		{false, 0, []api.Node{leaf("a")}},
		{false, 2, []api.Node{leaf("a")}},
		{false, 1, []api.Node{leaf()}},
		{false, 1 << 62, []api.Node{leaf()}},
		{false, 3, []api.Node{inner(row("a", 3), row("c", 4)), leaf("a", "b"), leaf("c", "d")}},
		{true, 4, []api.Node{inner(row("a", 3), row("c", 4)), leaf("a", "b"), leaf("c", "d")}},
		{false, 5, []api.Node{inner(row("a", 3), row("c", 4)), leaf("a", "b"), leaf("c", "d")}},
		// Pages that are none, or not there.
		{false, 0, []api.Node{none}},
		{false, 1, []api.Node{inner(row("a", 3), row("b", 4)), leaf("a"), none}},
		{false, 1, []api.Node{inner(row("a", 3), row("b", 4)), none, leaf("b")}},
		{false, 1, []api.Node{inner(row("a", 3), row("b", 4)), leaf("a")}},
		{false, 1, []api.Node{inner(row("a", 3), row("b", 5)), leaf("a")}},
		{false, 1, []api.Node{inner(row("a", 3), row("b", 1<<32-1)), leaf("a")}},
		{false, 1, []api.Node{inner(row("a", 3), row("b", 1<<31)), leaf("a")}},
		// Pages that are met twice.
		{false, 0, []api.Node{inner(row("a", 2))}},
		{false, 2, []api.Node{inner(row("a", 3), row("b", 3)), leaf("a")}},
		{false, 0, []api.Node{inner(row("a", 3), row("b", 3)), leaf()}},
		{false, 0, []api.Node{inner(row("a", 3)), inner(row("a", 2))}},
		{false, 1, []api.Node{inner(row("a", 3), row("b", 4)), leaf("a"), inner(row("b", 3))}},
		{false, 0, []api.Node{inner(row("a", 3), row("b", 4)), inner(row("a", 5)), inner(row("b", 5)), leaf()}},
		// Keys of rows: at most the least one below.
		{true, 4, []api.Node{inner(row("\x00", 3), row("bb", 4)), leaf("a", "b"), leaf("c", "d")}},
		{false, 4, []api.Node{inner(row("aa", 3), row("c", 4)), leaf("a", "b"), leaf("c", "d")}},
		{false, 4, []api.Node{inner(row("a", 3), row("cc", 4)), leaf("a", "b"), leaf("c", "d")}},
		{false, 4, []api.Node{inner(row("a", 3), row("d", 4)), leaf("a", "b"), leaf("c", "d")}},
		{false, 4, []api.Node{inner(row("a", 3), row("e", 4)), leaf("a", "b"), leaf("c", "d")}},
		// And above each of the row ahead.
		{false, 4, []api.Node{inner(row("a", 3), row("b", 4)), leaf("a", "b"), leaf("c", "d")}},
		{false, 4, []api.Node{inner(row("A", 3), row("a", 4)), leaf("a", "b"), leaf("c", "d")}},
		{true, 4, []api.Node{inner(row("A", 3), row("b\x00", 4)), leaf("a", "b"), leaf("c", "d")}},
		{false, 4, []api.Node{inner(row("a", 4), row("c", 3)), leaf("a", "b"), leaf("c", "d")}},
		{false, 2, []api.Node{inner(row("a", 3), row("b", 4)), leaf("b"), leaf("b")}},
		// Through all rows of nodes, too.
		{true, 2, []api.Node{inner(row("a", 3), row("b", 4)), inner(row("a", 5)), inner(row("b", 6)), leaf("a"), leaf("b")}},
		{true, 2, []api.Node{inner(row("a", 3), row("b", 4)), inner(row("a", 5)), inner(row("A", 6)), leaf("a"), leaf("b")}},
		{false, 2, []api.Node{inner(row("a", 3), row("b", 4)), inner(row("a", 5)), inner(row("c", 6)), leaf("a"), leaf("b")}},
		{false, 2, []api.Node{inner(row("a", 3), row("bb", 4)), inner(row("a", 5)), inner(row("b", 6)), leaf("a"), leaf("b")}},
		{false, 2, []api.Node{inner(row("a", 3), row("b", 4)), inner(row("a", 5)), inner(row("b", 6)), leaf("c"), leaf("b")}},
		{false, 2, []api.Node{inner(row("a", 3), row("b", 4)), inner(row("a", 5)), inner(row("b", 6)), leaf("b"), leaf("c")}},
		{false, 3, []api.Node{inner(row("a", 3), row("c", 4)), inner(row("a", 5), row("b", 6)), inner(row("c", 7)), leaf("a"), leaf("c"), leaf("d")}},
		{false, 3, []api.Node{inner(row("a", 3), row("c", 4)), inner(row("a", 5), row("x", 6)), inner(row("c", 7)), leaf("a", "d"), leaf(), leaf("e")}},
		{true, 3, []api.Node{inner(row("a", 3), row("c", 4)), inner(row("a", 5), row("x", 6)), inner(row("c", 7)), leaf("a", "b"), leaf(), leaf("e")}},
		// Empty leaves have no key that could be wrong.
		{true, 0, []api.Node{inner(row("a", 3), row("b", 4)), leaf(), leaf()}},
		{true, 1, []api.Node{inner(row("a", 3), row("b", 4), row("c", 5)), leaf(), leaf("b"), leaf()}},
		{true, 2, []api.Node{inner(row("a", 3), row("b", 4), row("c", 5)), leaf("a"), leaf(), leaf("d")}},
		{false, 2, []api.Node{inner(row("a", 3), row("b", 4), row("c", 5)), leaf("b"), leaf(), leaf("d")}},
		{true, 1, []api.Node{inner(row("a", 3), row("b", 4)), inner(row("x", 5), row("y", 6)), inner(row("A", 7), row("b", 8)), leaf(), leaf(), leaf(), leaf("b")}},
		// Nodes of one row.
		{true, 1, []api.Node{inner(row("a", 3)), leaf("a")}},
		{true, 1, []api.Node{inner(row("A", 3)), inner(row("a", 4)), leaf("a")}},
		// Leaves that are not equally deep.
		{false, 2, []api.Node{inner(row("a", 3), row("b", 4)), leaf("a"), inner(row("b", 5)), leaf("b")}},
		{false, 2, []api.Node{inner(row("a", 3), row("b", 4)), inner(row("a", 5)), leaf("b"), leaf("a")}},
		{false, 0, []api.Node{inner(row("a", 3), row("b", 4)), leaf(), inner(row("b", 5)), leaf()}},
	} {
		d := sect.New(1000)
		f := byHand(t, d, 2, c.count, c.l)
		p := plainOpen(f)
		// One page more is in use, and one free, until Open sees to it.
		spare, _ := f.Put(nil)
		free := f.Free()
		before := image(d)
		r, e := Open(f)
		if p.ok != c.ok || c.ok && (e != api.OK || r == nil) || !c.ok && (e != api.ErrTree || r != nil) {
			t.Error(i, p.ok, r, e)
			continue
		}
		if image(d) != before {
			t.Error(i, "it wrote")
		}
		if !c.ok {
			if !slices.Equal(f.Free(), free) {
				t.Error(i, f.Free())
			}
			continue
		}
		used(t, r, f, p.pages)
		if !slices.Contains(f.Free(), spare) {
			t.Error(i, f.Free())
		}
		if l, e := r.Rows("", 99); e != api.OK || !slices.Equal(l, p.rows) || r.Count() != c.count {
			t.Error(i, l, e)
		}
		if want := p.high(); c.count > 0 && r.High() != want || c.count == 0 && r.High() != 0 {
			t.Error(i, r.High(), want)
		}
		// It is committed as it is.
		if e := r.Commit(9); e != api.OK || f.Meta() != (api.Meta{Gen: 3, Root: 2, Count: c.count, Mark: 9}) {
			t.Error(i, e, f.Meta())
		}
		used(t, r, f, p.pages)
	}
}

// 11.1: a Root of none has no key.
func TestOpenNone(t *testing.T) {
	for count := range 3 {
		f := openFile(t, sect.New(100))
		if e := f.Commit(0, count, 0, nil); e != api.OK {
			t.Fatal(e)
		}
		r, e := Open(f)
		if count == 0 && (r == nil || e != api.OK) || count > 0 && (r != nil || e != api.ErrTree) {
			t.Error(count, r, e)
		}
	}
}

// spoil makes the sector k of the file bad, and opens the file again.
func spoil(t testing.TB, d *sect.Dev, k int) *page.File {
	t.Helper()
	s, _ := d.Read("p", k)
	d.Write("p", k, s)
	d.Crash([]int{2})
	if _, e := d.Read("p", k); e != api.ErrBad {
		t.Fatal(k, e)
	}
	return openFile(t, d)
}

// 11.1: a page of a tree that can't be read is told, ahead of all that is wrong with it; other pages are nothing to it.
func TestOpenBad(t *testing.T) {
	good := []api.Node{inner(row("a", 3), row("c", 4)), leaf("a", "b"), leaf("c", "d"), leaf("e")}
	wrong := []api.Node{inner(row("b", 3), row("c", 4)), leaf("a", "b"), leaf("c", "d"), leaf("e")}
	broken := []api.Node{inner(row("a", 3), row("c", 4)), {}, leaf("c", "d"), leaf("e")}
	for i, l := range [][]api.Node{good, wrong, broken} {
		for id := 2; id < 6; id++ {
			for sector := range 8 {
				d := sect.New(1000)
				byHand(t, d, 2, 4, l)
				f := spoil(t, d, 8*id+sector)
				want := api.ErrBad
				switch {
				case id == 5 && i == 0:
					want = api.OK
				case id == 5:
					want = api.ErrTree
				}
				if r, e := Open(f); e != want || (r != nil) != (want == api.OK) {
					t.Error(i, id, sector, r, e)
				}
			}
		}
	}
}

// A page that can't be read any more is told by what would read it, which then changes nothing.
func TestBadLater(t *testing.T) {
	for n := range 40 {
		d := sect.New(5000)
		r, f := open(t, d)
		m := map[string]string{}
		for k := range 60 {
			m[styles[1](k)] = "v"
			r.Put(styles[1](k), "v")
		}
		r.Commit(1)
		r.Put(styles[1](7), "w")
		m[styles[1](7)] = "w"
		ids, _ := r.Pages()
		if n >= len(ids) {
			break
		}
		before := len(r.hand)
		spoil(t, d, 8*ids[n]+7)
		bad := 0
		for k := range 60 {
			k := styles[1](k)
			v, ok, e := r.Get(k)
			if e == api.OK && (v != m[k] || !ok) || e != api.OK && (e != api.ErrBad || v != "" || ok) {
				t.Fatal(n, v, ok, e)
			}
			if e == api.ErrBad {
				bad++
				if e := r.Put(k, "z"); e != api.ErrBad {
					t.Fatal(n, e)
				}
			}
			// A Delete may need the page beside it, too.
			if ok, e := r.Delete(k); e != api.OK && (e != api.ErrBad || ok) || e == api.OK && (bad > 0 && !ok) {
				t.Fatal(n, ok, e)
			} else if e == api.OK {
				if e := r.Put(k, m[k]); e != api.OK {
					t.Fatal(n, e)
				}
			}
			if r.Count() != 60 {
				t.Fatal(n, r.Count())
			}
		}
		if l, e := r.Rows("", 100); bad > 0 && (len(l) > 0 || e != api.ErrBad) || bad == 0 && e != api.OK {
			t.Fatal(n, bad, len(l), e)
		}
		sound(t, r)
		if before == 0 || f.Meta().Mark != 1 {
			t.Fatal(before, f.Meta())
		}
	}
}

// hands tells trees that are made by hand of any kind: most of them are such as Open takes, but none as this package makes them.
type hands struct {
	r    *rand.Rand
	keys []string
	l    []api.Node
}

// below is what stands for a node that was made: its page, and the keys below it.
type below struct {
	id   int
	keys []string
}

// key tells a key that may stand at a row of c, behind one whose key was last, with these keys below it.
func (h *hands) key(c below, last string, ahead []string) string {
	from, to := 0, len(h.keys)
	for from < to && (h.keys[from] <= last || len(ahead) > 0 && h.keys[from] <= ahead[len(ahead)-1]) {
		from++
	}
	for len(c.keys) > 0 && to > from && h.keys[to-1] > c.keys[0] {
		to--
	}
	if from == to || h.r.Intn(150) == 0 {
		return h.keys[h.r.Intn(len(h.keys))]
	}
	if h.r.Intn(2) == 0 {
		to = min(to, from+3)
	}
	return h.keys[from+h.r.Intn(to-from)]
}

// leaves makes leaves of some of the keys, many of them empty.
func (h *hands) leaves(width int) []below {
	var l []below
	at := 0
	for range 1 + h.r.Intn(8) {
		n := max(0, h.r.Intn(width+2)-2)
		var keys []string
		for ; n > 0 && at < len(h.keys); n-- {
			keys = append(keys, h.keys[at])
			at += 1 + h.r.Intn(5)
		}
		l = append(l, h.add(leaf(keys...), keys))
	}
	return l
}

func (h *hands) add(n api.Node, keys []string) below {
	h.l = append(h.l, n)
	return below{len(h.l) + 1, keys}
}

// above makes nodes above others.
func (h *hands) above(l []below, width int) []below {
	var up []below
	for len(l) > 0 {
		n := min(len(l), 1+h.r.Intn(width))
		var rows []api.Row
		var keys, ahead []string
		last := ""
		for _, c := range l[:n] {
			last = h.key(c, last, ahead)
			rows = append(rows, row(last, c.id))
			ahead, keys = c.keys, append(keys, c.keys...)
		}
		l = l[n:]
		up = append(up, h.add(inner(rows...), keys))
	}
	return up
}

// make makes a tree, and tells its root and how many keys it has.
func (h *hands) make(width int) (int, int) {
	l := h.leaves(width)
	for high := 1; len(l) > 1 || high < 5 && h.r.Intn(3) == 0; high++ {
		l = h.above(l, width)
	}
	return l[0].id, len(l[0].keys)
}

// universe tells keys that rise, each so long at most.
func universe(most int) []string {
	var l []string
	for a := range 6 {
		l = append(l, string(rune('a'+a)))
		for b := range 6 {
			l = append(l, string(rune('a'+a))+string(rune('a'+b)))
		}
	}
	for i := range l {
		l[i] += strings.Repeat("\x01", max(0, most-2-i%3*30))
	}
	slices.Sort(l)
	return l
}

// 11.1, 11.2: trees that were made by hand are opened just where they are such; and they go on as any other: what Put and Delete make of them is opened again, and a Commit writes no more than it may.
func TestByHand(t *testing.T) {
	t.Parallel()
	rnd := rand.New(rand.NewSource(5))
	count := map[bool]int{}
	for i := range 2100 {
		h := &hands{r: rnd, keys: universe([]int{2, 60, 130}[i%3])}
		width := []int{3, 4, 3}[i%3]
		root, n := h.make(width)
		if rnd.Intn(40) == 0 {
			n += rnd.Intn(3) - 1
		}
		d := sect.New(4000)
		f := byHand(t, d, root, max(n, 0), h.l)
		p := plainOpen(f)
		count[p.ok]++
		r, e := Open(f)
		if (e == api.OK) != p.ok || !p.ok && e != api.ErrTree {
			t.Fatal(i, p.ok, e, h.l)
		}
		if !p.ok {
			continue
		}
		used(t, r, f, p.pages)
		goOn(t, d, r, f, p, rnd, h.keys)
	}
	if count[true] < 500 || count[false] < 100 {
		t.Error(count)
	}
}

// goOn does many a Put and Delete to a tree that was made by hand, each with a Commit behind it.
func goOn(t testing.TB, d *sect.Dev, r *Tree, f *page.File, p *plain, rnd *rand.Rand, keys []string) {
	t.Helper()
	m := map[string]string{}
	for _, x := range p.rows {
		m[x.Key] = x.Val
	}
	high := p.high()
	steps, most := 1+rnd.Intn(30), rnd.Intn(11)
	for range steps {
		was, _ := r.Pages()
		for range 1 + rnd.Intn(3)/2*rnd.Intn(4) {
			k := keys[rnd.Intn(len(keys))]
			if rnd.Intn(10) < most {
				m[k] = val(rnd.Intn(99))
				if e := r.Put(k, m[k]); e != api.OK {
					t.Fatal(e)
				}
			} else {
				_, there := m[k]
				delete(m, k)
				if ok, e := r.Delete(k); ok != there || e != api.OK {
					t.Fatal(ok, e)
				}
			}
			sound(t, r)
			was = append(was, -1) // each may have its own
		}
		is(t, r, m)
		if e := r.Commit(1); e != api.OK {
			t.Fatal(e)
		}
		q := lasts(t, r, f, m)
		is(t, r, m)
		fresh := 0
		for _, id := range q.pages {
			if !slices.Contains(was, id) {
				fresh++
			}
		}
		ops := 0
		for _, id := range was {
			if id < 0 {
				ops++
			}
		}
		if ops == 1 && fresh > 4+4*max(high, q.high()) {
			t.Fatal(fresh, high, q.high())
		}
		high = q.high()
		if len(m) == 0 && (f.Meta().Root != 0 && q.high() == 0 || r.High() != 0) {
			t.Fatal(f.Meta(), r.High())
		}
	}
	again, e := Open(f)
	if e != api.OK {
		t.Fatal(e)
	}
	is(t, again, m)
}

// 11.1, 11.2, 11.4: a tree by hand that is as deep as a device allows: each row of nodes has one node, of one row.
func TestDeep(t *testing.T) {
	for _, n := range []int{61, 5000} {
		d := sect.New(api.MaxSects)
		var l []api.Node
		for i := range n - 1 {
			l = append(l, inner(row("a", i+3)))
		}
		l = append(l, leaf("a", "b"))
		f := byHand(t, d, 2, 2, l)
		r, e := Open(f)
		if e != api.OK || r.High() != n {
			t.Fatal(n, e)
		}
		is(t, r, map[string]string{"a": "v", "b": "v"})
		single(t, d, r, f, func() bool { return r.Put("A", "w") == api.OK })
		lasts(t, r, f, map[string]string{"A": "w", "a": "v", "b": "v"})
		single(t, d, r, f, func() bool { ok, _ := r.Delete("a"); return ok })
		lasts(t, r, f, map[string]string{"A": "w", "b": "v"})
		if r.High() > n {
			t.Error(n, r.High())
		}
		r.Delete("A")
		r.Delete("b")
		if e := r.Commit(1); e != api.OK || f.Meta().Root != 0 || len(f.Free())+2 != f.Len() {
			t.Error(n, e, f.Meta())
		}
	}
}

// device makes a device of so many sectors, of which a file of another name takes some.
func device(t testing.TB, most, taken int) *sect.Dev {
	t.Helper()
	d := sect.New(most)
	d.Make("other")
	for k := range taken {
		if e := d.Write("other", k, [64]byte{}); e != api.OK {
			t.Fatal(e)
		}
	}
	d.Sync("other")
	return d
}

// 11.1, W4: what has no room changes nothing: neither the map, nor what is in use; with room it goes well.
func TestFull(t *testing.T) {
	t.Parallel()
	full := 0
	for style := range 4 {
		key := styles[style]
		for room := 0; room < 140; room += 3 {
			d := device(t, 400, 400-16-room)
			r, f := open(t, d)
			m, kept := map[string]string{}, map[string]string{}
			for i := range 40 {
				for k := range 1 + i%4 {
					k := key(i + k*50)
					m[k] = val(i)
					r.Put(k, val(i))
				}
				meta := f.Meta()
				was, _ := r.Pages()
				old := texts(f, was)
				e := r.Commit(uint64(i))
				is(t, r, m)
				sound(t, r)
				if e == api.OK {
					kept = maps.Clone(m)
					lasts(t, r, f, kept)
					continue
				}
				full++
				if e != api.ErrFull || f.Meta() != meta || !slices.Equal(texts(f, was), old) {
					t.Fatal(style, room, i, e, f.Meta(), meta)
				}
				used(t, r, f, was)
				lasts(t, r, f, kept)
				if i%3 == 0 {
					// Fewer keys may have room again, and none has always.
					for k := range m {
						r.Delete(k)
					}
					clear(m)
					is(t, r, m)
					if i%2 == 0 {
						r.Back()
						m = maps.Clone(kept)
						is(t, r, m)
					}
					if e := r.Commit(7); e != api.OK {
						t.Fatal(style, room, i, e)
					}
					kept = maps.Clone(m)
					lasts(t, r, f, kept)
				}
			}
			again, _ := open(t, d.Copy())
			is(t, again, kept)
			d.Drop("other")
			if e := r.Commit(8); e != api.OK {
				t.Fatal(style, room, e)
			}
			lasts(t, r, f, m)
		}
	}
	if full < 500 {
		t.Error(full)
	}
}

// 11.1: the greatest Gen is the last one; what is committed behind it changes nothing.
func TestBound(t *testing.T) {
	d := sect.New(1000)
	r, _ := open(t, d)
	m := map[string]string{}
	for n := range 20 {
		m[styles[1](n)] = "v"
		r.Put(styles[1](n), "v")
	}
	r.Commit(1) // Gen 2
	r.Commit(1) // Gen 3, in page 1
	s, _ := d.Read("p", 8)
	binary.BigEndian.PutUint64(s[8:], math.MaxUint64)
	d.Write("p", 8, s)
	r, f := open(t, d)
	is(t, r, m)
	if f.Meta().Gen != math.MaxUint64 {
		t.Fatal(f.Meta())
	}
	for n := range 3 {
		kept := maps.Clone(m)
		was, _ := r.Pages()
		for k := range 10 * n {
			m[two(k)] = "w"
			r.Put(two(k), "w")
		}
		before := f.Meta()
		if e := r.Commit(9); e != api.ErrBound || f.Meta() != before {
			t.Error(n, e, f.Meta())
		}
		is(t, r, m)
		used(t, r, f, was)
		r.Back()
		is(t, r, kept)
		m = kept
	}
}

// 11.1: without power a Commit changes nothing of the map, and a later one goes well if the device had not begun to write what tells of it.
func TestPower(t *testing.T) {
	well := map[bool]int{}
	for n := range 120 {
		d := sect.New(2000)
		r, f := open(t, d)
		m := map[string]string{}
		for k := range 25 {
			m[styles[1](k)] = "v"
			r.Put(styles[1](k), "v")
		}
		if e := r.Commit(1); e != api.OK {
			t.Fatal(e)
		}
		kept := maps.Clone(m)
		was, _ := r.Pages()
		old := texts(f, was)
		for k := range 9 {
			m[styles[1](k*3)] = "w"
			r.Put(styles[1](k*3), "w")
			delete(m, styles[1](k))
			r.Delete(styles[1](k))
		}
		d.Fuse(n)
		e := r.Commit(2)
		d.Fuse(-1)
		if e != api.OK && e != api.ErrPower {
			t.Fatal(n, e)
		}
		is(t, r, m)
		sound(t, r)
		if !slices.Equal(texts(f, was), old) {
			t.Fatal(n, "what was kept is written over")
		}
		if e == api.OK {
			lasts(t, r, f, m)
			continue
		}
		if l, e := r.Pages(); !slices.Equal(l, was) || e != api.OK || f.Meta().Mark != 1 {
			t.Fatal(n, l, e, f.Meta())
		}
		again := r.Commit(3)
		is(t, r, m)
		well[again == api.OK]++
		if again == api.OK {
			lasts(t, r, f, m)
		} else if again != api.ErrPower {
			t.Fatal(n, again)
		}
		r.Back()
		if again == api.OK {
			is(t, r, m)
		} else {
			is(t, r, kept)
		}
	}
	if well[true] == 0 || well[false] == 0 {
		t.Error(well)
	}
}

// picks are ways to lose sectors: all, none, the first few in each way, and others at random.
func picks(n int) [][]int {
	var l [][]int
	for i := range 9 {
		for rest := range 3 {
			l = append(l, append([]int{i % 3, i / 3}, slices.Repeat([]int{rest}, n)...))
		}
	}
	r := rand.New(rand.NewSource(int64(n)))
	for range 6 {
		one := make([]int, n)
		for k := range one {
			one[k] = r.Intn(3)
		}
		l = append(l, one)
	}
	return l
}

// rounds does rounds of changes with a Commit each, and tells the map of the last one that went well, and of the one that was going on.
func rounds(t testing.TB, r *Tree, m map[string]string, n, salt int) (sure, more map[string]string) {
	sure = maps.Clone(m)
	m = maps.Clone(m)
	rnd := rand.New(rand.NewSource(int64(salt)))
	for range n {
		for range 1 + rnd.Intn(6) {
			k := styles[1](rnd.Intn(40))
			if rnd.Intn(3) == 0 {
				delete(m, k)
				r.Delete(k)
			} else {
				m[k] = val(rnd.Intn(99))
				r.Put(k, m[k])
			}
		}
		switch e := r.Commit(uint64(salt)); e {
		case api.OK:
			sure = maps.Clone(m)
		case api.ErrPower:
			return sure, m
		default:
			t.Fatal(e)
		}
	}
	return sure, sure
}

// 11.3, W3: a crash at any call, with any sectors lost or bad, leaves the map of the last Commit that went well, or of the one that was going on. From there it goes on, and may fall again.
func TestCrash(t *testing.T) {
	t.Parallel()
	which := map[bool]int{}
	back := func(d *sect.Dev, sure, more map[string]string, where ...any) (*Tree, map[string]string) {
		r, f := open(t, d)
		l, e := r.Rows("", 1000)
		if e != api.OK {
			t.Fatal(where, e)
		}
		now := sure
		if !slices.Equal(l, rowsOf(sure)) {
			now = more
		}
		is(t, r, now)
		lasts(t, r, f, now)
		if !maps.Equal(sure, more) {
			which[maps.Equal(now, sure)]++
		}
		return r, now
	}
	for n := range 150 {
		d := sect.New(2000)
		r, _ := open(t, d)
		m := map[string]string{}
		for k := range 20 {
			m[styles[1](k)] = "v"
			r.Put(styles[1](k), "v")
		}
		r.Commit(0)
		d.Fuse(n)
		sure, more := rounds(t, r, m, 4, 1)
		for i, pick := range picks(100) {
			c := d.Copy()
			c.Crash(pick)
			r, now := back(c, sure, more, n, i)
			if (n*7+i)%4 > 0 {
				continue
			}
			c.Fuse((n + i*11) % 120)
			sure, more := rounds(t, r, now, 3, n+i)
			c.Crash(slices.Concat(pick[i%5:], pick))
			back(c, sure, more, n, i, "again")
		}
	}
	if which[true] == 0 || which[false] == 0 {
		t.Error(which)
	}
}

// 11.3: a tree that is opened anew, without a crash, behind a Commit that the power cut.
func TestReopened(t *testing.T) {
	for n := range 150 {
		d := sect.New(2000)
		r, _ := open(t, d)
		d.Fuse(n)
		sure, more := rounds(t, r, map[string]string{}, 4, 3)
		d.Fuse(-1)
		r, f := open(t, d)
		l, _ := r.Rows("", 1000)
		now := sure
		if !slices.Equal(l, rowsOf(sure)) {
			now = more
		}
		is(t, r, now)
		lasts(t, r, f, now)
		// It lasts, whatever is written and lost behind it.
		d.Fuse(5 + n%60)
		next, last := rounds(t, r, now, 1, 4)
		for _, pick := range picks(100) {
			c := d.Copy()
			c.Crash(pick)
			r, _ := open(t, c)
			if l, _ := r.Rows("", 1000); !slices.Equal(l, rowsOf(next)) && !slices.Equal(l, rowsOf(last)) {
				t.Fatal(n, l)
			}
		}
	}
}

// Rule 3: what is answered is nobody else's.
func TestAnswered(t *testing.T) {
	d := sect.New(1000)
	r, f := open(t, d)
	m := map[string]string{}
	for n := range 20 {
		m[styles[1](n)] = "v"
		r.Put(styles[1](n), "v")
	}
	for range 2 {
		for _, n := range []int{1, 5, 20, 30} {
			l, _ := r.Rows("", n)
			for l = l[:cap(l)]; len(l) > 0; l = l[1:] {
				l[0] = api.Row{Key: "z", Val: "z", Page: 1}
			}
		}
		is(t, r, m)
		r.Commit(1)
		ids, _ := r.Pages()
		want := slices.Clone(ids)
		for l := ids[:cap(ids)]; len(l) > 0; l = l[1:] {
			l[0] = 77
		}
		if l, _ := r.Pages(); !slices.Equal(l, want) {
			t.Error(l, want)
		}
		r.Put("a", "b")
		m["a"] = "b"
		if e := r.Commit(2); e != api.OK {
			t.Error(e)
		}
		lasts(t, r, f, m)
	}
	// Neither is it changed by what comes behind.
	l, _ := r.Rows("", 100)
	ids, _ := r.Pages()
	was, pages := slices.Clone(l), slices.Clone(ids)
	for n := range 20 {
		r.Delete(styles[1](n))
		r.Put(two(n), "n")
	}
	r.Commit(3)
	if !slices.Equal(l, was) || !slices.Equal(ids, pages) {
		t.Error(l, ids)
	}
}

// Two trees are nothing to one another, nor are other files of the device.
func TestApart(t *testing.T) {
	d := device(t, 1000, 100)
	r, f := open(t, d)
	s, g := open(t, sect.New(1000))
	for n := range 30 {
		r.Put(two(n), "r")
		s.Put(two(n), "s")
		s.Delete(two(n / 2))
	}
	r.Commit(1)
	s.Commit(2)
	if f.Meta().Count != 30 || g.Meta().Count != 15 || d.Len("other") != 100 {
		t.Error(f.Meta(), g.Meta())
	}
	if v, _, _ := r.Get(two(20)); v != "r" {
		t.Error(v)
	}
	if v, _, _ := s.Get(two(20)); v != "s" {
		t.Error(v)
	}
}

// Rule 6: what is done alike is written alike, octet for octet.
func TestAlike(t *testing.T) {
	var want string
	for range 5 {
		d := sect.New(5000)
		r, _ := open(t, d)
		rounds(t, r, map[string]string{}, 30, 8)
		if now := image(d); want != "" && now != want {
			t.Fatal("not alike")
		} else {
			want = now
		}
	}
}

// reader takes what is done from octets; noughts, where they are all taken.
type reader struct{ b []byte }

func (r *reader) next() int {
	if len(r.b) == 0 {
		return 0
	}
	c := r.b[0]
	r.b = r.b[1:]
	return int(c)
}

func (r *reader) key() string {
	n := r.next()
	switch n % 8 {
	case 0:
		return strings.Repeat(string([]byte{byte(r.next())}), n*9%134)
	case 1:
		return "k"
	case 2:
		return two(r.next()) + x(n)
	}
	return styles[n/8%len(styles)](r.next() % 64)
}

// world is a tree, and maps that tell what it should be: now, at the last Commit, and at each one since that the power cut.
type world struct {
	d         *sect.Dev
	r         *Tree
	f         *page.File
	now, kept map[string]string
	cut       []map[string]string
}

// reopen opens the tree again, and tells that it is one that it may be.
func (w *world) reopen(t testing.TB) {
	w.d.Fuse(-1)
	w.r, w.f = open(t, w.d)
	l, e := w.r.Rows("", math.MaxInt)
	at := slices.IndexFunc(append(w.cut, w.kept), func(m map[string]string) bool { return slices.Equal(l, rowsOf(m)) })
	if e != api.OK || at < 0 {
		t.Fatal(e, l)
	}
	w.now = append(w.cut, w.kept)[at]
	w.kept, w.cut = maps.Clone(w.now), nil
	lasts(t, w.r, w.f, w.kept)
}

// commit does a Commit, and holds what came of it against what may be.
func (w *world) commit(t testing.TB, mark uint64) {
	was, _ := w.r.Pages()
	old, meta := texts(w.f, was), w.f.Meta()
	e := w.r.Commit(mark)
	if !slices.Equal(texts(w.f, was), old) {
		t.Fatal("what was kept is written over")
	}
	switch e {
	case api.OK:
		w.kept, w.cut = maps.Clone(w.now), nil
		if m := w.f.Meta(); m.Mark != mark || m.Gen != meta.Gen+1 {
			t.Fatal(m, meta)
		}
		lasts(t, w.r, w.f, w.kept)
	case api.ErrFull:
		used(t, w.r, w.f, was)
		if w.f.Meta() != meta {
			t.Fatal(w.f.Meta(), meta)
		}
	case api.ErrPower:
		w.cut = append(w.cut, maps.Clone(w.now))
	default:
		t.Fatal(e)
	}
}

// step does one thing.
func (w *world) step(t testing.TB, r *reader) {
	switch op := r.next() % 20; op {
	default:
		k, v := r.key(), x(r.next()%22)
		e := w.r.Put(k, v)
		if bad := k == "" || len(k) > 130 || len(v) > 20; bad && e != api.ErrArg || !bad && e != api.OK {
			t.Fatal(k, v, e)
		} else if !bad {
			w.now[k] = v
		}
	case 8, 9, 10, 11:
		k := r.key()
		if l := rowsOf(w.now); op > 9 && len(l) > 0 {
			k = l[r.next()%len(l)].Key
		}
		_, there := w.now[k]
		delete(w.now, k)
		if ok, e := w.r.Delete(k); ok != there || e != api.OK {
			t.Fatal(k, ok, e)
		}
	case 12:
		k := r.key()
		want, there := w.now[k]
		if v, ok, e := w.r.Get(k); v != want || ok != there || e != api.OK {
			t.Fatal(k, v, ok, e)
		}
	case 13, 14:
		w.commit(t, uint64(r.next()))
	case 15:
		if e := w.r.Back(); e != api.OK {
			t.Fatal(e)
		}
		w.now = maps.Clone(w.kept)
	case 16:
		w.d.Fuse(r.next()%100 - 20)
	case 17:
		l := make([]int, r.next()%100)
		for k := range l {
			l[k] = r.next()
		}
		w.d.Crash(l)
		w.reopen(t)
	case 18:
		w.reopen(t)
	case 19:
		w.d.Fuse(-1)
		w.d.Drop("other")
		w.d.Make("other")
		for range r.next() * 2 {
			w.d.Write("other", w.d.Len("other"), [64]byte{})
		}
		w.d.Sync("other")
	}
}

// run does to a tree what some octets say, and holds it against maps behind each step.
func run(t testing.TB, b []byte) {
	r := &reader{b}
	d := sect.New([]int{16, 24, 40, 60, 100, 500, 2000}[r.next()%7])
	w := &world{d: d, now: map[string]string{}, kept: map[string]string{}}
	w.r, w.f = open(t, d)
	for len(r.b) > 0 {
		w.step(t, r)
		if w.r.Count() != len(w.now) {
			t.Fatal(w.r.Count(), len(w.now))
		}
		sound(t, w.r)
		if l, e := w.r.Rows("", math.MaxInt); e != api.OK || !slices.Equal(l, rowsOf(w.now)) {
			t.Fatal(e, l, rowsOf(w.now))
		}
	}
}

// 11.1 to 11.4: long rows of calls, right and wrong, on devices with much room and with little, with crashes.
func TestRuns(t *testing.T) {
	t.Parallel()
	rnd := rand.New(rand.NewSource(17))
	for range 400 {
		b := make([]byte, 700)
		rnd.Read(b)
		run(t, b)
	}
}

// anyPages tells a file of pages that octets tell, with nodes that are true ones for the most part.
func anyPages(t testing.TB, b []byte) (*sect.Dev, *page.File) {
	r := &reader{b}
	n := 1 + r.next()%9
	var l []api.Node
	for range n {
		var x api.Node
		x.Leaf = r.next()%2 == 0
		for k := r.next() % 5; k > 0; k-- {
			key := string([]byte{byte('a' + len(x.Rows) + r.next()%4)})
			if x.Leaf {
				x.Rows = append(x.Rows, api.Row{Key: key})
			} else {
				x.Rows = append(x.Rows, row(key, 2+r.next()%(n+1)))
			}
		}
		l = append(l, x)
	}
	d := sect.New(1000)
	return d, byHand(t, d, 2+r.next()%n, r.next()%9, l)
}

// 11.1, 11.4: pages of anything are opened just where a plain reading says so; what is opened goes on.
func opens(t testing.TB, b []byte) bool {
	d, f := anyPages(t, b)
	p := plainOpen(f)
	r, e := Open(f)
	if p.ok != (e == api.OK) || !p.ok && (e != api.ErrTree || r != nil) {
		t.Fatal(p.ok, e)
	}
	if !p.ok {
		return false
	}
	used(t, r, f, p.pages)
	goOn(t, d, r, f, p, rand.New(rand.NewSource(int64(len(b)))), universe(2+len(b)%129))
	return true
}

func TestAnyPages(t *testing.T) {
	t.Parallel()
	rnd := rand.New(rand.NewSource(19))
	good := 0
	for range 20000 {
		b := make([]byte, 20+rnd.Intn(60))
		rnd.Read(b)
		if opens(t, b) {
			good++
		}
	}
	if good < 300 {
		t.Error(good)
	}
}

// 11.4: no call panics, and each ends, on pages that are nearly a tree.
func TestNoPanic(t *testing.T) {
	rnd := rand.New(rand.NewSource(23))
	opened := 0
	for i := range 3000 {
		f := openFile(t, sect.New(1000))
		var ids []int
		for range 1 + rnd.Intn(5) {
			b := []byte([]string{"\x01\x00\x00", "\x01\x00\x01\x01a\x00", "\x01\x00\x02\x01a\x00\x01b\x00", "\x02\x00\x01\x01a\x00\x00\x00\x03", "\x02\x00\x02\x01a\x00\x00\x00\x03\x01b\x00\x00\x00\x04"}[rnd.Intn(5)])
			if rnd.Intn(3) == 0 {
				b[rnd.Intn(len(b))] = byte(rnd.Intn(256))
			}
			id, _ := f.Put(b)
			ids = append(ids, id)
		}
		f.Commit(ids[rnd.Intn(len(ids))], rnd.Intn(3), 0, ids)
		r, e := Open(f)
		if ok := plainOpen(f).ok; ok != (e == api.OK) || (r == nil) == ok {
			t.Fatal(i, e)
		}
		if r == nil {
			continue
		}
		opened++
		for _, k := range []string{"", "\x00", "a", "b", x(130), x(131), "\xff"} {
			r.Get(k)
			r.Put(k, k)
			r.Put(k, "")
			r.Delete(k)
			r.Rows(k, math.MinInt)
			r.Rows(k, math.MaxInt)
			r.Commit(math.MaxUint64)
			r.Pages()
		}
	}
	if opened < 200 {
		t.Error(opened)
	}
}

// 11.1 to 11.4: any row of calls.
func FuzzCalls(f *testing.F) {
	f.Add([]byte{})
	f.Add([]byte{6, 0, 3, 1, 5, 0, 4, 2, 9, 13, 1, 10, 3, 13, 2, 15, 17, 3, 1, 2, 0, 12, 3})
	f.Add([]byte{1, 0, 11, 1, 20, 1, 11, 2, 20, 2, 11, 3, 20, 13, 1, 16, 30, 3, 11, 4, 20, 13, 2, 17, 40, 1, 2, 0, 1, 2})
	f.Add(bytes.Repeat([]byte{5, 19, 3, 20}, 60))
	f.Fuzz(func(t *testing.T, b []byte) { run(t, b[:min(len(b), 800)]) })
}

// 11.1, 11.4: any pages.
func FuzzOpen(f *testing.F) {
	f.Add([]byte{})
	f.Add([]byte{2, 1, 2, 0, 1, 0, 2, 0, 1, 0, 0, 1, 1, 0, 2})
	f.Fuzz(func(t *testing.T, b []byte) { opens(t, b[:min(len(b), 200)]) })
}
