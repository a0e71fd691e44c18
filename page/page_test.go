package page

import (
	"bytes"
	"encoding/binary"
	"math"
	"slices"
	"strconv"
	"strings"
	"testing"

	"waybill/api"
	"waybill/sect"
)

// plainSector tells a meta's first sector as 9.1 says it, octet for octet.
func plainSector(gen, root, count, mark uint64) [64]byte {
	var s [64]byte
	copy(s[:], "waybill1")
	binary.BigEndian.PutUint64(s[8:], gen)
	binary.BigEndian.PutUint64(s[16:], root)
	binary.BigEndian.PutUint64(s[24:], count)
	binary.BigEndian.PutUint64(s[32:], mark)
	return s
}

// plainMeta tells which meta 9.1 asks for; Gen 0, if none.
func plainMeta(d *sect.Dev) api.Meta {
	var best api.Meta
	pages := uint64(d.Len("p")) / 8
	if pages < 2 {
		return best
	}
	for page := range uint64(2) {
		s, e := d.Read("p", int(8*page))
		if e != api.OK || string(s[:8]) != "waybill1" {
			continue
		}
		gen, root := binary.BigEndian.Uint64(s[8:]), binary.BigEndian.Uint64(s[16:])
		count, mark := binary.BigEndian.Uint64(s[24:]), binary.BigEndian.Uint64(s[32:])
		if gen == 0 || gen%2 != page || root == 1 || root > 1 && root >= pages || count > 1<<62 {
			continue
		}
		if [24]byte(s[40:]) == [24]byte{} && gen > best.Gen {
			best = api.Meta{Gen: gen, Root: int(root), Count: int(count), Mark: mark}
		}
	}
	return best
}

// What a page of the plain file is.
const (
	used = iota
	free
	put
)

// plain is a file as 9.1 and 9.2 say it, word for word, on a device of its own.
type plain struct {
	d    *sect.Dev
	meta api.Meta
	is   []int // what each page is
	dead bool
}

func plainOpen(d *sect.Dev) (*plain, api.Errno) {
	if !slices.Contains(d.Names(), "p") {
		if e := d.Make("p"); e != api.OK {
			return nil, e
		}
		for k := range 16 {
			var s [64]byte
			if k == 8 {
				s = plainSector(1, 0, 0, 0)
			}
			if e := d.Write("p", k, s); e != api.OK {
				if e == api.ErrFull {
					d.Drop("p") // rule 8
				}
				return nil, e
			}
		}
	}
	if e := d.Sync("p"); e != api.OK {
		return nil, e
	}
	m := plainMeta(d)
	if m.Gen == 0 {
		return nil, api.ErrMeta
	}
	return &plain{d: d, meta: m, is: make([]int, d.Len("p")/8)}, api.OK
}

func (p *plain) Read(id int) ([]byte, api.Errno) {
	if id < 2 || id >= len(p.is) {
		return nil, api.ErrArg
	}
	var b []byte
	for k := range 8 {
		s, e := p.d.Read("p", 8*id+k)
		if e == api.ErrBad {
			return nil, e
		}
		b = append(b, s[:]...)
	}
	return b, api.OK
}

func (p *plain) rising(ids []int) bool {
	last := 1
	for _, id := range ids {
		if id <= last || id >= len(p.is) {
			return false
		}
		last = id
	}
	return true
}

func (p *plain) Keep(ids []int) api.Errno {
	if !p.rising(ids) {
		return api.ErrArg
	}
	for id := 2; id < len(p.is); id++ {
		p.is[id] = free
	}
	for _, id := range ids {
		p.is[id] = used
	}
	return api.OK
}

func (p *plain) Put(b []byte) (int, api.Errno) {
	if p.dead {
		return 0, api.ErrPower
	}
	if len(b) > 512 {
		return 0, api.ErrArg
	}
	id := slices.Index(p.is, free)
	if id < 0 {
		id = len(p.is)
	}
	whole := append(slices.Clone(b), make([]byte, 512-len(b))...)
	for k := range 8 {
		if e := p.d.Write("p", 8*id+k, [64]byte(whole[64*k:])); e != api.OK {
			return 0, e
		}
	}
	if id == len(p.is) {
		p.is = append(p.is, put)
	}
	p.is[id] = put
	return id, api.OK
}

func (p *plain) Commit(root, count int, mark uint64, ids []int) api.Errno {
	if p.dead {
		return api.ErrPower
	}
	if !p.rising(ids) || root != 0 && !slices.Contains(ids, root) || count < 0 || count > 1<<62 {
		return api.ErrArg
	}
	if p.meta.Gen+1 == 0 {
		return api.ErrBound
	}
	gen := p.meta.Gen + 1
	e := p.d.Sync("p")
	if e == api.OK {
		e = p.d.Write("p", int(gen&1)*8, plainSector(gen, uint64(root), uint64(count), mark))
	}
	if e == api.OK {
		e = p.d.Sync("p")
	}
	if e != api.OK {
		p.dead = true
		return e
	}
	p.meta = api.Meta{Gen: gen, Root: root, Count: count, Mark: mark}
	return p.Keep(ids)
}

func (p *plain) Drop() {
	for id := range p.is {
		if p.is[id] == put {
			p.is[id] = free
		}
	}
}

func (p *plain) Free() []int {
	var l []int
	for id := range p.is {
		if p.is[id] == free {
			l = append(l, id)
		}
	}
	return l
}

// open opens a device where that must go well.
func open(t testing.TB, d *sect.Dev) *File {
	t.Helper()
	f, e := Open(d)
	if e != api.OK || f == nil {
		t.Fatal(f, e)
	}
	return f
}

// puts puts pages of these texts, where that must go well.
func puts(t testing.TB, f *File, l ...string) []int {
	t.Helper()
	var ids []int
	for _, s := range l {
		id, e := f.Put([]byte(s))
		if e != api.OK {
			t.Fatal(s, e)
		}
		ids = append(ids, id)
	}
	return ids
}

// text tells a page's text without the noughts behind it; "!" and the error, if it can't be read.
func text(f *File, id int) string {
	b, e := f.Read(id)
	if e != api.OK {
		return "!" + strconv.Itoa(int(e))
	}
	if len(b) != 512 {
		return "!!" + strconv.Itoa(len(b))
	}
	return strings.TrimRight(string(b), "\x00")
}

// numbers tells numbers as a text.
func numbers(l []int) string {
	var out []string
	for _, n := range l {
		out = append(out, strconv.Itoa(n))
	}
	return strings.Join(out, " ")
}

// image tells all that can be seen of a device.
func image(d *sect.Dev) string {
	var out strings.Builder
	for _, name := range d.Names() {
		out.WriteString(name + "=")
		for k := range d.Len(name) {
			s, e := d.Read(name, k)
			out.WriteString(strconv.Itoa(int(e)))
			out.Write(s[:])
		}
		out.WriteString(";")
	}
	return out.String()
}

// whole tells n octets, each 64 of which are others than those ahead of them.
func whole(n int) []byte {
	b := make([]byte, n)
	for i := range b {
		b[i] = byte(i*5+i/64) | 1
	}
	return b
}

// device makes a device whose file has so many sectors, all of noughts but those told.
func device(t testing.TB, sectors int, l map[int][64]byte) *sect.Dev {
	t.Helper()
	d := sect.New(sectors + 100)
	d.Make("p")
	for k := range sectors {
		if e := d.Write("p", k, l[k]); e != api.OK {
			t.Fatal(k, e)
		}
	}
	d.Sync("p")
	return d
}

// fill takes so many sectors of a device away, by a file of another name.
func fill(t testing.TB, d *sect.Dev, sectors int) {
	t.Helper()
	d.Make("other")
	for range sectors {
		if e := d.Write("other", d.Len("other"), [64]byte{1}); e != api.OK {
			t.Fatal(e)
		}
	}
	d.Sync("other")
}

// spoil makes a sector of the file bad.
func spoil(t testing.TB, d *sect.Dev, k int) {
	t.Helper()
	d.Sync("p")
	d.Write("p", k, [64]byte{1})
	d.Crash([]int{2})
	if _, e := d.Read("p", k); e != api.ErrBad {
		t.Fatal(k, e)
	}
}

// 9.1: a new file, octet for octet; it lasts.
func TestMade(t *testing.T) {
	for _, most := range []int{16, 17, 1000} {
		d := sect.New(most)
		f := open(t, d)
		if f.Meta() != (api.Meta{Gen: 1}) || f.Len() != 2 || len(f.Free()) != 0 {
			t.Error(most, f.Meta(), f.Len(), f.Free())
		}
		d.Crash(nil)
		if d.Len("p") != 16 || len(d.Names()) != 1 {
			t.Error(most, d.Len("p"), d.Names())
		}
		for k := range 16 {
			var want [64]byte
			if k == 8 {
				copy(want[:], "waybill1\x00\x00\x00\x00\x00\x00\x00\x01")
			}
			if s, e := d.Read("p", k); s != want || e != api.OK {
				t.Errorf("%d %d: %q %d", most, k, s, e)
			}
		}
		before := image(d)
		if g := open(t, d); g.Meta() != f.Meta() || g.Len() != 2 || len(g.Free()) != 0 || image(d) != before {
			t.Error(most, g.Meta(), g.Len(), g.Free())
		}
	}
}

// 9.1, rule 8: where the file has no room, it is not begun.
func TestMadeFull(t *testing.T) {
	for taken := range 40 {
		d := sect.New(40)
		fill(t, d, taken)
		before := image(d)
		for range 2 {
			f, e := Open(d)
			if taken <= 24 && (e != api.OK || f == nil || d.Used() != taken+16) {
				t.Error(taken, e)
			}
			if taken > 24 && (e != api.ErrFull || f != nil || image(d) != before || d.Used() != taken) {
				t.Error(taken, e, d.Used())
			}
		}
		d.Crash(slices.Repeat([]int{1}, 40))
		if taken > 24 && image(d) != before {
			t.Error(taken)
		}
		d.Drop("other")
		open(t, d)
	}
	for _, most := range []int{-1, 0, 1, 15} {
		d := sect.New(most)
		if f, e := Open(d); f != nil || e != api.ErrFull || len(d.Names()) != 0 {
			t.Error(most, e, d.Names())
		}
	}
}

// 9.1, 9.3: the file's making is cut anywhere: it is there behind a crash, or there is no meta.
func TestMadeCut(t *testing.T) {
	for n := range 20 {
		for pick := range 3 * 3 * 3 {
			d := sect.New(100)
			d.Fuse(n)
			f, e := Open(d)
			if n >= 18 && (f == nil || e != api.OK) || n < 18 && (f != nil || e != api.ErrPower) {
				t.Fatal(n, e)
			}
			if want := min(max(n-1, 0), 16); d.Len("p") != want {
				t.Error(n, d.Len("p"), want)
			}
			// The first eight sectors, the meta, and those behind it.
			l := slices.Concat(slices.Repeat([]int{pick % 3}, 8), []int{pick / 3 % 3}, slices.Repeat([]int{pick / 9}, 7))
			d.Crash(l)
			there := n == 0 || n >= 18 || n == 17 && pick/3%3 == 1 && pick/9 != 0
			f, e = Open(d)
			if there && (f == nil || e != api.OK || f.Meta() != (api.Meta{Gen: 1}) || f.Len() != 2) || !there && (f != nil || e != api.ErrMeta) {
				t.Error(n, pick, e)
			}
		}
	}
}

// 9.1: a file that is there is synced, too, ahead of all else, and the error of that is told.
func TestOpenSyncs(t *testing.T) {
	d := sect.New(100)
	f := open(t, d)
	ids := puts(t, f, "a")
	f.Commit(ids[0], 1, 1, ids)
	d.Write("p", 8, plainSector(3, 0, 0, 7))
	for range 2 {
		d.Fuse(0)
		if g, e := Open(d); g != nil || e != api.ErrPower {
			t.Error(g, e)
		}
	}
	d.Fuse(2)
	if g := open(t, d); g.Meta() != (api.Meta{Gen: 3, Mark: 7}) {
		t.Error(g.Meta())
	}
	// One call was left.
	if d.Make("x") != api.OK || d.Make("y") != api.ErrPower {
		t.Error("more than a Sync, or none")
	}
	d.Crash(nil)
	if g := open(t, d); g.Meta() != (api.Meta{Gen: 3, Mark: 7}) {
		t.Error("it did not last", g.Meta())
	}
	// ErrPower is ahead of ErrMeta.
	d = device(t, 3, nil)
	d.Fuse(0)
	if g, e := Open(d); g != nil || e != api.ErrPower {
		t.Error(g, e)
	}
	d.Fuse(-1)
	if g, e := Open(d); g != nil || e != api.ErrMeta {
		t.Error(g, e)
	}
}

// 9.1: which of two metas holds.
func TestMetas(t *testing.T) {
	type meta struct{ gen, root, count, mark uint64 }
	const most = math.MaxUint64
	none := meta{}
	for i, c := range []struct {
		zero, one, want meta
	}{
		{none, meta{gen: 1}, meta{gen: 1}},
		{none, none, none},
		{meta{gen: 2}, none, meta{gen: 2}},
		{meta{gen: 2}, meta{gen: 1}, meta{gen: 2}},
		{meta{gen: 2}, meta{gen: 3}, meta{gen: 3}},
		{meta{gen: 2}, meta{gen: 1001}, meta{gen: 1001}},
		{meta{gen: 1000}, meta{gen: 1}, meta{gen: 1000}},
		{meta{gen: most - 1}, meta{gen: most}, meta{gen: most}},
		{meta{gen: most - 1}, meta{gen: 1}, meta{gen: most - 1}},
		{meta{gen: 256}, meta{gen: 255}, meta{gen: 256}},
		{meta{gen: 1 << 63}, meta{gen: 1<<63 - 1}, meta{gen: 1 << 63}},
		// of the other page, or of none
		{meta{gen: 3}, meta{gen: 1}, meta{gen: 1}},
		{meta{gen: 2}, meta{gen: 4}, meta{gen: 2}},
		{meta{gen: 1}, meta{gen: 2}, none},
		{meta{gen: 0}, meta{gen: 0}, none},
		// roots: of a page that is there, but a meta
		{meta{gen: 2, root: 2}, meta{gen: 1}, meta{gen: 2, root: 2}},
		{meta{gen: 2, root: 4}, meta{gen: 1}, meta{gen: 2, root: 4}},
		{meta{gen: 2, root: 5}, meta{gen: 1}, meta{gen: 1}},
		{meta{gen: 2, root: 1}, meta{gen: 1}, meta{gen: 1}},
		{meta{gen: 2, root: most}, meta{gen: 1}, meta{gen: 1}},
		{meta{gen: 2, root: 1 << 63}, meta{gen: 1}, meta{gen: 1}},
		{meta{gen: 2, root: 1 << 32}, meta{gen: 1}, meta{gen: 1}},
		{meta{gen: 2, root: 1<<32 + 2}, meta{gen: 1}, meta{gen: 1}},
		// counts
		{meta{gen: 2, count: 1 << 62}, meta{gen: 1}, meta{gen: 2, count: 1 << 62}},
		{meta{gen: 2, count: 1<<62 + 1}, meta{gen: 1}, meta{gen: 1}},
		{meta{gen: 2, count: 1 << 63}, meta{gen: 1}, meta{gen: 1}},
		{meta{gen: 2, count: most}, meta{gen: 1}, meta{gen: 1}},
		{meta{gen: 2, count: 5}, meta{gen: 1}, meta{gen: 2, count: 5}},
		// a mark may be any
		{meta{gen: 2, mark: most}, meta{gen: 1}, meta{gen: 2, mark: most}},
		{meta{gen: 2}, meta{gen: 3, root: 3, count: 9, mark: 1 << 63}, meta{gen: 3, root: 3, count: 9, mark: 1 << 63}},
	} {
		// Five pages, and a part of another that is none.
		for part := range 8 {
			d := device(t, 40+part, map[int][64]byte{0: plainSector(c.zero.gen, c.zero.root, c.zero.count, c.zero.mark), 8: plainSector(c.one.gen, c.one.root, c.one.count, c.one.mark)})
			f, e := Open(d)
			if c.want == none {
				if f != nil || e != api.ErrMeta {
					t.Error(i, part, e)
				}
				continue
			}
			want := api.Meta{Gen: c.want.gen, Root: int(c.want.root), Count: int(c.want.count), Mark: c.want.mark}
			if e != api.OK || f.Meta() != want || f.Len() != 5 || len(f.Free()) != 0 {
				t.Error(i, part, e)
			}
		}
	}
}

// 9.1: a meta with any of its octets changed is none, or is just another one.
func TestMetaOctets(t *testing.T) {
	for page := range 2 {
		for k := range 64 {
			for x := range 256 {
				l := map[int][64]byte{0: plainSector(6, 2, 3, 4), 8: plainSector(5, 3, 4, 5)}
				s := l[8*page]
				s[k] ^= byte(x)
				l[8*page] = s
				d := device(t, 32, l)
				f, e := Open(d)
				if e != api.OK || f.Meta() != plainMeta(d) {
					t.Fatal(page, k, x, e)
				}
			}
		}
	}
}

// 9.1: only a meta's first sector says what it is.
func TestMetaSectors(t *testing.T) {
	for k := range 16 {
		for _, bad := range []bool{false, true} {
			d := device(t, 32, map[int][64]byte{0: plainSector(4, 2, 1, 1), 8: plainSector(3, 3, 2, 2)})
			if bad {
				spoil(t, d, k)
			} else {
				d.Write("p", k, [64]byte{63: 1})
			}
			want := api.Meta{Gen: 4, Root: 2, Count: 1, Mark: 1}
			if k == 0 {
				want = api.Meta{Gen: 3, Root: 3, Count: 2, Mark: 2}
			}
			if f := open(t, d); f.Meta() != want {
				t.Error(k, bad, f.Meta())
			}
		}
	}
	d := device(t, 32, map[int][64]byte{0: plainSector(4, 2, 1, 1), 8: plainSector(3, 3, 2, 2)})
	spoil(t, d, 0)
	spoil(t, d, 8)
	if f, e := Open(d); f != nil || e != api.ErrMeta {
		t.Error(e)
	}
}

// 9.1: how many pages a file of any length has; no file of fewer than two has a meta.
func TestLengths(t *testing.T) {
	for n := range 60 {
		d := device(t, n, map[int][64]byte{0: plainSector(2, 0, 0, 0), 8: plainSector(1, 0, 0, 0)})
		before := image(d)
		f, e := Open(d)
		if n < 16 {
			if f != nil || e != api.ErrMeta {
				t.Error(n, e)
			}
		} else if e != api.OK || f.Len() != n/8 || len(f.Free()) != 0 || f.Meta().Gen != 2 {
			t.Error(n, e)
		}
		if image(d) != before {
			t.Error(n, "something changed")
		}
	}
	// The next page then begins where the part of one is.
	for part := range 8 {
		d := device(t, 24+part, map[int][64]byte{8: plainSector(1, 0, 0, 0), 25: {1}})
		f := open(t, d)
		if id, e := f.Put(whole(500)); id != 3 || e != api.OK || f.Len() != 4 || d.Len("p") != 32 || text(f, 3) != string(whole(500)) {
			t.Error(part, id, e, d.Len("p"))
		}
	}
}

// 9.1: what is read, and of what nothing is.
func TestRead(t *testing.T) {
	d := sect.New(1000)
	f := open(t, d)
	for _, id := range []int{math.MinInt, -1, 0, 1, 2, 3, math.MaxInt / 8, math.MaxInt} {
		if b, e := f.Read(id); b != nil || e != api.ErrArg {
			t.Error(id, b, e)
		}
	}
	puts(t, f, "a", "b", "c")
	f.Keep([]int{3})
	// What is free can be read as well.
	for id, want := range map[int]string{-1: "!1", 0: "!1", 1: "!1", 2: "a", 3: "b", 4: "c", 5: "!1", 1<<61 + 2: "!1", math.MinInt/8 + 2: "!1"} {
		if got := text(f, id); got != want {
			t.Error(id, got)
		}
	}
	for k := range 8 {
		d := device(t, 48, map[int][64]byte{8: plainSector(1, 0, 0, 0), 24: {'x'}, 31: {63: 'y'}, 32: {'z'}})
		spoil(t, d, 24+k)
		f := open(t, d)
		if b, e := f.Read(3); b != nil || e != api.ErrBad {
			t.Error(k, b, e)
		}
		if text(f, 2) != "" || text(f, 4) != "z" || f.Len() != 6 {
			t.Error(k, text(f, 2), text(f, 4))
		}
		// A page that is bad is as good as any, once it is written over.
		f.Keep(nil)
		puts(t, f, "p", "q")
		if text(f, 3) != "q" {
			t.Error(k, text(f, 3))
		}
	}
}

// 9.2: pages of all lengths are put, octet for octet, noughts behind.
func TestPutLengths(t *testing.T) {
	for n := range 520 {
		d := sect.New(100)
		f := open(t, d)
		puts(t, f, strings.Repeat("x", 512), "between")
		f.Keep([]int{3})
		before := image(d)
		for _, want := range []int{2, 4} {
			id, e := f.Put(whole(n))
			if n > 512 {
				if id != 0 || e != api.ErrArg || image(d) != before || f.Len() != 4 || numbers(f.Free()) != "2" {
					t.Error(n, id, e)
				}
				continue
			}
			if id != want || e != api.OK {
				t.Error(n, id, e)
			}
			b, e := f.Read(id)
			if e != api.OK || len(b) != 512 || !bytes.Equal(b[:n], whole(n)) || !bytes.Equal(b[n:], make([]byte, 512-n)) {
				t.Error(n, id, e)
			}
			for k := range 8 {
				if s, _ := d.Read("p", 8*id+k); !bytes.Equal(s[:], b[64*k:64*k+64]) {
					t.Error(n, id, k)
				}
			}
		}
		if text(f, 3) != "between" {
			t.Error(n, text(f, 3))
		}
	}
}

// 9.2: the least free page is put, then a new one at the end.
func TestPutOrder(t *testing.T) {
	d := sect.New(1000)
	f := open(t, d)
	if ids := puts(t, f, "a", "b", "c", "d", "e", "f", "g"); numbers(ids) != "2 3 4 5 6 7 8" || f.Len() != 9 || len(f.Free()) != 0 {
		t.Error(ids, f.Len())
	}
	if e := f.Keep([]int{2, 4, 7}); e != api.OK || numbers(f.Free()) != "3 5 6 8" {
		t.Error(e, f.Free())
	}
	for i, want := range []struct {
		id        int
		free, all string
	}{{3, "5 6 8", "aAcdefg"}, {5, "6 8", "aAcBefg"}, {6, "8", "aAcBCfg"}, {8, "", "aAcBCfD"}, {9, "", "aAcBCfDE"}, {10, "", "aAcBCfDEF"}} {
		id, e := f.Put([]byte{'A' + byte(i)})
		all := ""
		for id := 2; id < f.Len(); id++ {
			all += text(f, id)
		}
		if id != want.id || e != api.OK || numbers(f.Free()) != want.free || all != want.all {
			t.Error(i, id, e, f.Free(), all)
		}
	}
	// Opened again none is free, until something is kept.
	g := open(t, d)
	if len(g.Free()) != 0 || g.Len() != 11 {
		t.Error(g.Free(), g.Len())
	}
	if ids := puts(t, g, "x"); numbers(ids) != "11" {
		t.Error(ids)
	}
	if e := g.Keep(nil); e != api.OK || numbers(g.Free()) != "2 3 4 5 6 7 8 9 10 11" {
		t.Error(e, g.Free())
	}
}

// 9.2: where there is no room for a page at the end, what was begun of it is none; free pages can be put all the same.
func TestPutFull(t *testing.T) {
	for room := range 17 {
		d := sect.New(24 + room)
		f := open(t, d)
		puts(t, f, "a")
		for i := range 2 {
			id, e := f.Put(whole(512))
			if fits := 8*(i+1) <= room; fits && (id != 3+i || e != api.OK) || !fits && (id != 0 || e != api.ErrFull) {
				t.Error(room, i, id, e)
			}
		}
		pages := 3 + room/8
		for range 2 {
			if id, e := f.Put(nil); room < 16 && (id != 0 || e != api.ErrFull) || f.Len() != 3+room/8 {
				t.Error(room, id, e, f.Len())
			}
			if got := text(f, pages); got != "!1" || len(f.Free()) != 0 {
				t.Error(room, got, f.Free())
			}
		}
		f.Drop()
		if id, e := f.Put([]byte("b")); id != 2 || e != api.OK || text(f, 2) != "b" {
			t.Error(room, id, e)
		}
		// It is not dead, and a file with a part of a page is opened as it was.
		if e := f.Commit(2, 1, 1, []int{2}); e != api.OK {
			t.Error(room, e)
		}
		d.Crash(nil)
		g := open(t, d)
		if g.Meta() != (api.Meta{Gen: 2, Root: 2, Count: 1, Mark: 1}) || g.Len() != pages || text(g, 2) != "b" {
			t.Error(room, g.Meta(), g.Len())
		}
	}
	// Once there is room, the page that was begun is put whole.
	for taken := range 8 {
		d := sect.New(24)
		f := open(t, d)
		fill(t, d, 8-taken)
		if id, e := f.Put(whole(512)); taken < 8 && (id != 0 || e != api.ErrFull) || f.Len() != 2 {
			t.Error(taken, id, e)
		}
		d.Drop("other")
		if id, e := f.Put(whole(512)); id != 2 || e != api.OK || text(f, 2) != string(whole(512)) || d.Used() != 24 {
			t.Error(taken, id, e)
		}
	}
}

// 9.2: a Put that lost its power put nothing: the page is none, or free as it was; it makes the file not dead.
func TestPutCut(t *testing.T) {
	for n := range 8 {
		d := sect.New(100)
		f := open(t, d)
		puts(t, f, "a", "b", "c")
		for _, keep := range [][]int{{2, 3, 4}, {2, 4}, {4}} {
			f.Keep(keep)
			free := numbers(f.Free())
			for range 2 {
				d.Fuse(n)
				if id, e := f.Put(whole(512)); id != 0 || e != api.ErrPower || f.Len() != 5 || numbers(f.Free()) != free || text(f, 5) != "!1" {
					t.Error(n, keep, id, e, f.Len(), f.Free())
				}
			}
			d.Fuse(-1)
			want := map[int]int{3: 5, 2: 3, 1: 2}[len(keep)]
			if want == 5 {
				c := d.Copy()
				f := open(t, c)
				if id, e := f.Put([]byte("d")); id != want || e != api.OK || text(f, want) != "d" || f.Len() != 6 {
					t.Error(n, keep, id, e)
				}
			} else if id, e := f.Put([]byte("d")); id != want || e != api.OK || text(f, want) != "d" || f.Len() != 5 {
				t.Error(n, keep, id, e)
			}
		}
	}
	// ErrArg is ahead of what the device tells.
	d := sect.New(16)
	f := open(t, d)
	d.Fuse(0)
	if id, e := f.Put(make([]byte, 513)); id != 0 || e != api.ErrArg {
		t.Error(id, e)
	}
	if id, e := f.Put(nil); id != 0 || e != api.ErrPower {
		t.Error(id, e)
	}
	d.Fuse(-1)
	if id, e := f.Put(nil); id != 0 || e != api.ErrFull {
		t.Error(id, e)
	}
}

// 9.2: what may be kept; an error leaves all as it was, also what was Put.
func TestKeep(t *testing.T) {
	for _, c := range []struct {
		ids  []int
		free string // "no": ErrArg
	}{
		{nil, "2 3 4 5 6"}, {[]int{}, "2 3 4 5 6"}, {[]int{2}, "3 4 5 6"}, {[]int{6}, "2 3 4 5"}, {[]int{2, 3, 4, 5, 6}, ""}, {[]int{2, 4, 6}, "3 5"}, {[]int{3, 5}, "2 4 6"}, {[]int{5, 6}, "2 3 4"},
		{[]int{0}, "no"}, {[]int{1}, "no"}, {[]int{-1}, "no"}, {[]int{7}, "no"}, {[]int{math.MaxInt}, "no"}, {[]int{math.MinInt}, "no"},
		{[]int{3, 3}, "no"}, {[]int{3, 2}, "no"}, {[]int{2, 3, 7}, "no"}, {[]int{1, 2}, "no"}, {[]int{0, 2}, "no"}, {[]int{2, 4, 3, 6}, "no"}, {[]int{2, 2, 2}, "no"}, {[]int{6, 5, 4, 3, 2}, "no"}, {[]int{2, 1}, "no"}, {[]int{2, math.MinInt}, "no"}, {[]int{-5, 3}, "no"},
	} {
		for _, commit := range []bool{false, true} {
			d := sect.New(1000)
			f := open(t, d)
			puts(t, f, "a", "b", "c", "d", "e")
			f.Keep([]int{2, 4, 6})
			puts(t, f, "B")
			before := image(d)
			e := api.OK
			if commit {
				e = f.Commit(0, 0, 0, c.ids)
			} else {
				e = f.Keep(c.ids)
			}
			if c.free == "no" {
				if e != api.ErrArg || numbers(f.Free()) != "5" || image(d) != before || f.Meta().Gen != 1 {
					t.Error(c.ids, commit, e, f.Free())
				}
				f.Drop()
				if numbers(f.Free()) != "3 5" {
					t.Error(c.ids, commit, f.Free())
				}
				continue
			}
			if e != api.OK || numbers(f.Free()) != c.free || f.Len() != 7 {
				t.Error(c.ids, commit, e, f.Free())
			}
			f.Drop()
			if numbers(f.Free()) != c.free || !commit && image(d) != before {
				t.Error(c.ids, commit, f.Free())
			}
		}
	}
	// A file of metas alone has nothing that could be kept.
	f := open(t, sect.New(100))
	if f.Keep([]int{2}) != api.ErrArg || f.Keep(nil) != api.OK || len(f.Free()) != 0 {
		t.Error(f.Free())
	}
}

// Keep and Drop write nothing, and use nothing of a Fuse.
func TestKeepAndDropWriteNothing(t *testing.T) {
	d := sect.New(1000)
	f := open(t, d)
	puts(t, f, "a", "b")
	before := image(d)
	d.Fuse(0)
	if f.Keep([]int{3}) != api.OK || numbers(f.Free()) != "2" {
		t.Error(f.Free())
	}
	f.Drop()
	if f.Keep([]int{2}) != api.OK || numbers(f.Free()) != "3" || image(d) != before || text(f, 2) != "a" || f.Len() != 4 {
		t.Error(f.Free())
	}
	d.Fuse(1)
	f.Keep(nil)
	f.Drop()
	if d.Make("x") != api.OK {
		t.Error("the Fuse was used")
	}
	// Nor do they make anything last.
	d.Crash(nil)
	if d.Len("p") != 16 {
		t.Error(d.Len("p"))
	}
}

// 9.2: Drop frees just what was Put since the last Commit, or Keep, or Drop.
func TestDrop(t *testing.T) {
	d := sect.New(1000)
	f := open(t, d)
	f.Drop()
	if len(f.Free()) != 0 {
		t.Error(f.Free())
	}
	puts(t, f, "a", "b")
	f.Keep([]int{2})
	f.Drop()
	if numbers(f.Free()) != "3" {
		t.Error(f.Free())
	}
	if ids := puts(t, f, "c", "d", "e"); numbers(ids) != "3 4 5" {
		t.Error(ids)
	}
	f.Drop()
	f.Drop()
	if numbers(f.Free()) != "3 4 5" || f.Len() != 6 || text(f, 4) != "d" {
		t.Error(f.Free(), f.Len())
	}
	if ids := puts(t, f, "f", "g"); numbers(ids) != "3 4" || numbers(f.Free()) != "5" {
		t.Error(ids, f.Free())
	}
	if e := f.Commit(2, 0, 0, []int{2, 4}); e != api.OK || numbers(f.Free()) != "3 5" {
		t.Error(e, f.Free())
	}
	f.Drop()
	if ids := puts(t, f, "h"); numbers(ids) != "3" {
		t.Error(ids)
	}
	// A Commit that was refused freed nothing, and kept nothing.
	if e := f.Commit(3, 0, 0, []int{4}); e != api.ErrArg || numbers(f.Free()) != "5" {
		t.Error(e, f.Free())
	}
	f.Drop()
	if numbers(f.Free()) != "3 5" {
		t.Error(f.Free())
	}
}

// 9.2: the errors of Commit; each leaves all as it was and the file not dead.
func TestCommitErrors(t *testing.T) {
	d := sect.New(1000)
	f := open(t, d)
	puts(t, f, "a", "b", "c")
	before := image(d)
	for i, c := range []struct {
		root, count int
		ids         []int
	}{
		{1, 0, []int{2}}, {-1, 0, []int{2}}, {3, 0, []int{2}}, {3, 0, []int{2, 4}}, {2, 0, nil}, {5, 0, []int{2, 3, 4}}, {math.MaxInt, 0, []int{2}}, {math.MinInt, 0, nil},
		{0, -1, nil}, {0, math.MinInt, nil}, {0, 1<<62 + 1, nil}, {2, math.MaxInt, []int{2}}, {2, -1, []int{2}},
		{2, 0, []int{2, 5}}, {3, 0, []int{3, 2}}, {2, 0, []int{1, 2}}, {1, 0, []int{1}}, {0, 0, []int{0}}, {5, 0, []int{5}}, {2, 0, []int{2, 2}},
	} {
		for _, fuse := range []int{0, -1} {
			d.Fuse(fuse)
			if e := f.Commit(c.root, c.count, 9, c.ids); e != api.ErrArg || image(d) != before || f.Meta() != (api.Meta{Gen: 1}) || len(f.Free()) != 0 {
				t.Error(i, e, f.Meta(), f.Free())
			}
		}
	}
	d.Crash(nil)
	if d.Len("p") != 16 {
		t.Error("something was synced")
	}
	f = open(t, d)
	puts(t, f, "a")
	if e := f.Commit(2, 1<<62, math.MaxUint64, []int{2}); e != api.OK || f.Meta() != (api.Meta{Gen: 2, Root: 2, Count: 1 << 62, Mark: math.MaxUint64}) {
		t.Error(e, f.Meta())
	}
}

// 9.2: the greatest Gen is the last one; its ErrBound comes behind ErrArg, ahead of the device's errors, and makes the file not dead.
func TestCommitBound(t *testing.T) {
	d := device(t, 24, map[int][64]byte{0: plainSector(math.MaxUint64-1, 2, 1, 5), 16: {'a'}})
	f := open(t, d)
	if e := f.Commit(2, 1, 6, []int{2}); e != api.OK || f.Meta() != (api.Meta{Gen: math.MaxUint64, Root: 2, Count: 1, Mark: 6}) {
		t.Error(e, f.Meta())
	}
	if s, _ := d.Read("p", 8); s != plainSector(math.MaxUint64, 2, 1, 6) {
		t.Errorf("%q", s)
	}
	puts(t, f, "b")
	before := image(d)
	for _, fuse := range []int{0, -1} {
		d.Fuse(fuse)
		if e := f.Commit(3, 1, 7, []int{3}); e != api.ErrBound || image(d) != before || f.Meta().Mark != 6 || len(f.Free()) != 0 {
			t.Error(fuse, e, f.Meta())
		}
		if e := f.Commit(4, 1, 7, []int{3}); e != api.ErrArg {
			t.Error(fuse, e)
		}
	}
	if id, e := f.Put([]byte("c")); id != 4 || e != api.OK {
		t.Error(id, e)
	}
	d.Crash(nil)
	if g := open(t, d); g.Meta() != f.Meta() || text(g, 2) != "a" || g.Len() != 3 {
		t.Error(g.Meta(), g.Len())
	}
}

// 9.1, 9.2: each Commit writes one sector, of the page of its Gen, and all that is ahead of it lasts.
func TestCommits(t *testing.T) {
	d := sect.New(1000)
	f := open(t, d)
	old := plainSector(1, 0, 0, 0)
	for gen := uint64(2); gen < 40; gen++ {
		id, e := f.Put([]byte(strconv.Itoa(int(gen))))
		if e != api.OK || id != 2+int(gen)%2 {
			t.Fatal(gen, id, e)
		}
		d.Fuse(3)
		if e := f.Commit(id, int(gen)*3, gen<<40, []int{id}); e != api.OK {
			t.Fatal(gen, e)
		}
		if e := d.Make("x"); e != api.ErrPower {
			t.Error(gen, e)
		}
		d.Crash(nil)
		want := plainSector(gen, uint64(id), gen*3, gen<<40)
		s, _ := d.Read("p", 8*int(gen%2))
		r, _ := d.Read("p", 8-8*int(gen%2))
		if s != want || r != old {
			t.Errorf("%d: %q %q", gen, s, r)
		}
		for k := range 16 {
			if s, e := d.Read("p", k); k%8 > 0 && (s != [64]byte{} || e != api.OK) {
				t.Error(gen, k, s, e)
			}
		}
		old = want
		f = open(t, d)
		if f.Meta() != (api.Meta{Gen: gen, Root: id, Count: int(gen) * 3, Mark: gen << 40}) || text(f, id) != strconv.Itoa(int(gen)) || f.Len() != min(4, int(gen)+1) {
			t.Error(gen, f.Meta(), text(f, id), f.Len())
		}
		f.Keep([]int{id})
	}
	// No root, and nothing or something kept.
	for _, ids := range [][]int{{2}, nil, {2, 3}, {3}} {
		gen := f.Meta().Gen
		if e := f.Commit(0, 0, 0, ids); e != api.OK || f.Meta() != (api.Meta{Gen: gen + 1}) || len(f.Free()) != 2-len(ids) {
			t.Error(ids, e, f.Meta(), f.Free())
		}
	}
	// What is free may be kept again, and what was not Put may be the root.
	f.Keep(nil)
	if e := f.Commit(3, 0, 0, []int{2, 3}); e != api.OK || f.Meta().Root != 3 || len(f.Free()) != 0 {
		t.Error(e, f.Meta())
	}
}

// 9.2: an error of the device in a Commit is told; from then on each call that writes tells ErrPower, whatever is asked, and the others go on.
func TestDead(t *testing.T) {
	for n := range 4 {
		d := sect.New(1000)
		f := open(t, d)
		puts(t, f, "a", "b")
		f.Commit(2, 1, 1, []int{2})
		puts(t, f, "c", "d")
		d.Fuse(n)
		e := f.Commit(3, 2, 2, []int{3, 4})
		if n == 3 {
			if e != api.OK || f.Meta().Gen != 3 || numbers(f.Free()) != "2" {
				t.Error(e, f.Meta(), f.Free())
			}
			continue
		}
		if e != api.ErrPower || f.Meta() != (api.Meta{Gen: 2, Root: 2, Count: 1, Mark: 1}) || len(f.Free()) != 0 || f.Len() != 5 {
			t.Error(n, e, f.Meta(), f.Free())
		}
		d.Fuse(-1)
		before := image(d)
		for range 2 {
			for _, size := range []int{0, 512, 513, 5000} {
				if id, e := f.Put(make([]byte, size)); id != 0 || e != api.ErrPower {
					t.Error(n, size, id, e)
				}
			}
			for _, ids := range [][]int{nil, {2}, {3}, {3, 2}, {99}} {
				for _, count := range []int{0, -1} {
					if e := f.Commit(3, count, 0, ids); e != api.ErrPower {
						t.Error(n, ids, e)
					}
				}
			}
		}
		if image(d) != before || f.Meta().Gen != 2 {
			t.Error(n, "something changed")
		}
		if text(f, 2) != "a" || text(f, 3) != "c" || text(f, 4) != "d" {
			t.Error(n, text(f, 2), text(f, 3), text(f, 4))
		}
		f.Drop()
		if numbers(f.Free()) != "3 4" {
			t.Error(n, f.Free())
		}
		if f.Keep([]int{2, 2}) != api.ErrArg || f.Keep([]int{2, 4}) != api.OK || numbers(f.Free()) != "3" {
			t.Error(n, f.Free())
		}
		// Opened again it is as any.
		g := open(t, d)
		want := api.Meta{Gen: 2, Root: 2, Count: 1, Mark: 1}
		if n == 2 {
			want = api.Meta{Gen: 3, Root: 3, Count: 2, Mark: 2}
		}
		if g.Meta() != want {
			t.Error(n, g.Meta())
		}
		d.Crash(nil)
		if g := open(t, d); g.Meta() != want {
			t.Error(n, "it did not last", g.Meta())
		}
	}
}

// kept is a state that a Commit made last: its meta, and what its pages have.
type kept struct {
	meta  api.Meta
	ids   []int
	texts []string
}

// holds tells whether a file has this meta, and its pages what they had.
func (k kept) holds(f *File) bool {
	if f.Meta() != k.meta {
		return false
	}
	for i, id := range k.ids {
		if text(f, id) != k.texts[i] {
			return false
		}
	}
	return true
}

// goOn does rounds of puts and Commits from a state on, and tells the last one that went well, and the one that was begun.
func goOn(f *File, now kept, rounds, salt int) (kept, kept) {
	if f.Keep(now.ids) != api.OK {
		panic("what was kept can be kept")
	}
	for round := range rounds {
		next := kept{meta: api.Meta{Gen: now.meta.Gen + 1, Count: round, Mark: uint64(salt)}}
		// Each second page is left, the others are written anew.
		for i, id := range now.ids {
			if i%2 == 1 {
				next.ids, next.texts = append(next.ids, id), append(next.texts, now.texts[i])
			}
		}
		for i := range 3 - round%2 {
			s := strconv.Itoa(salt) + "/" + strconv.Itoa(round) + "/" + strconv.Itoa(i) + strings.Repeat("=", 240*i)
			id, e := f.Put([]byte(s))
			if e != api.OK {
				if e != api.ErrPower {
					panic("only the power may be lost")
				}
				return now, now
			}
			at, _ := slices.BinarySearch(next.ids, id)
			next.ids, next.texts = slices.Insert(next.ids, at, id), slices.Insert(next.texts, at, s)
		}
		next.meta.Root = next.ids[0]
		if e := f.Commit(next.meta.Root, next.meta.Count, next.meta.Mark, next.ids); e != api.OK {
			return now, next
		}
		now = next
	}
	return now, now
}

// picks are ways to lose sectors: all, none, the first few in each way, and others at random.
func picks(n int) [][]int {
	var l [][]int
	for i := range 9 {
		for rest := range 3 {
			l = append(l, append([]int{i % 3, i / 3}, slices.Repeat([]int{rest}, n)...))
		}
	}
	state := uint64(n)
	for range 6 {
		one := make([]int, n)
		for k := range one {
			state = state*6364136223846793005 + 1442695040888963407
			one[k] = int(state >> 60)
		}
		l = append(l, one)
	}
	return l
}

// 9.3, W3: a crash at any call, with any sectors lost or bad, leaves the last Commit that went well, or the one that was begun: all of it. From there it goes on, and may fall again.
func TestCrash(t *testing.T) {
	both := map[bool]int{}
	for n := range 100 {
		d := sect.New(1000)
		f := open(t, d)
		d.Fuse(n)
		sure, more := goOn(f, kept{meta: api.Meta{Gen: 1}}, 4, 1)
		for i, pick := range picks(60) {
			c := d.Copy()
			c.Crash(pick)
			g := open(t, c)
			if !sure.holds(g) && !more.holds(g) {
				t.Fatal(n, i, g.Meta(), sure.meta, more.meta)
			}
			now := sure
			if !now.holds(g) {
				now = more
			}
			if more.meta != sure.meta {
				both[now.meta == more.meta]++
			}
			if (n*7+i)%5 > 0 {
				continue
			}
			c.Fuse((n + i*3) % 60)
			sure, more := goOn(g, now, 3, 2)
			c.Crash(slices.Concat(pick, pick))
			h := open(t, c)
			if !sure.holds(h) && !more.holds(h) {
				t.Fatal(n, i, "again", h.Meta(), sure.meta, more.meta)
			}
		}
	}
	if both[false] == 0 || both[true] == 0 {
		t.Error(both)
	}
}

// 9.3: opened again without a crash, what is read then is what lasts, whatever is Put and lost behind it.
func TestReopened(t *testing.T) {
	for n := range 100 {
		d := sect.New(1000)
		f := open(t, d)
		d.Fuse(n)
		sure, more := goOn(f, kept{meta: api.Meta{Gen: 1}}, 4, 1)
		d.Fuse(-1)
		g := open(t, d)
		now := sure
		if !now.holds(g) {
			now = more
		}
		if !now.holds(g) {
			t.Fatal(n, g.Meta())
		}
		g.Keep(now.ids)
		for range 6 {
			puts(t, g, "over")
		}
		for i, pick := range picks(60) {
			c := d.Copy()
			c.Crash(pick)
			if h := open(t, c); !now.holds(h) {
				t.Fatal(n, i, h.Meta(), now.meta)
			}
		}
	}
}

// 9.2: what the last Commit kept is not written over, until the next one went well.
func TestNotWrittenOver(t *testing.T) {
	d := sect.New(1000)
	f := open(t, d)
	ids := puts(t, f, "a", "b", "c", "d")
	f.Commit(2, 0, 0, []int{2, 4})
	f.Drop()
	for i := range 20 {
		id, e := f.Put([]byte("x"))
		if e != api.OK || slices.Contains([]int{0, 1, 2, 4}, id) {
			t.Error(i, id, e)
		}
		if i%7 == 0 {
			f.Drop()
		}
	}
	if text(f, 2) != "a" || text(f, 4) != "c" || len(ids) != 4 {
		t.Error(text(f, 2), text(f, 4))
	}
	d.Crash(nil)
	if g := open(t, d); g.Meta().Gen != 2 || text(g, 2) != "a" || text(g, 4) != "c" {
		t.Error(g.Meta(), text(g, 2), text(g, 4))
	}
}

// Rule 3: what is handed in is neither changed nor kept; what is answered is nobody else's.
func TestHandedIn(t *testing.T) {
	f := open(t, sect.New(1000))
	room := []byte("abcdefgh")
	f.Put(room[:3])
	f.Put(room[:5])
	f.Put(room)
	if string(room) != "abcdefgh" {
		t.Error(string(room))
	}
	clear(room)
	if text(f, 2) != "abc" || text(f, 3) != "abcde" || text(f, 4) != "abcdefgh" {
		t.Error(text(f, 2), text(f, 3), text(f, 4))
	}
	b, _ := f.Read(2)
	b[0] = 'z'
	clear(b[:cap(b)])
	if text(f, 2) != "abc" {
		t.Error(text(f, 2))
	}
	ids := []int{2, 4, 77, 78}
	for _, commit := range []bool{false, true} {
		if commit {
			f.Commit(2, 0, 0, ids[:2])
		} else {
			f.Keep(ids[:2])
		}
		if numbers(ids) != "2 4 77 78" {
			t.Error(ids)
		}
		ids[0], ids[1] = 5, 3
		free := f.Free()
		if numbers(free) != "3" || f.Meta().Root == 5 {
			t.Error(commit, free)
		}
		for free = free[:cap(free)]; len(free) > 0; free = free[1:] {
			free[0] = 2
		}
		if numbers(f.Free()) != "3" {
			t.Error(commit, f.Free())
		}
		ids[0], ids[1] = 2, 4
	}
	// Neither is what Free told changed by what comes behind.
	free := f.Free()
	puts(t, f, "x", "y")
	f.Keep(nil)
	if numbers(free) != "3" {
		t.Error(free)
	}
}

// Looking writes nothing, and uses nothing of a Fuse.
func TestLooking(t *testing.T) {
	d := sect.New(1000)
	f := open(t, d)
	puts(t, f, "a")
	before := image(d)
	d.Fuse(1)
	f.Meta()
	f.Read(2)
	f.Free()
	f.Len()
	if image(d) != before || d.Make("x") != api.OK {
		t.Error("something changed")
	}
}

// Other files of the device are nothing to the pages, and two devices nothing to one another.
func TestApart(t *testing.T) {
	d, c := sect.New(1000), sect.New(1000)
	for _, name := range []string{"P", "p ", "pp", "q", "a"} {
		d.Make(name)
		d.Write(name, 0, plainSector(3, 0, 0, 0))
	}
	f, g := open(t, d), open(t, c)
	puts(t, f, "a")
	f.Commit(2, 0, 0, []int{2})
	puts(t, g, "b", "c")
	if f.Meta().Gen != 2 || g.Meta().Gen != 1 || text(f, 2) != "a" || text(g, 2) != "b" || f.Len() != 3 || g.Len() != 4 {
		t.Error(f.Meta(), g.Meta())
	}
	// What is written of another file is not synced.
	d.Crash(nil)
	if d.Len("q") != 0 || d.Len("p") != 24 || open(t, d).Meta().Gen != 2 {
		t.Error(d.Len("q"), d.Len("p"))
	}
}

// 9.1, 9.2: as many pages as a device can have.
func TestMany(t *testing.T) {
	d := sect.New(api.MaxSects + 5)
	f := open(t, d)
	var even []int
	for id := 2; id < api.MaxSects/8; id++ {
		if got, e := f.Put([]byte(strconv.Itoa(id))); got != id || e != api.OK {
			t.Fatal(id, got, e)
		}
		if id%2 == 0 {
			even = append(even, id)
		}
	}
	if id, e := f.Put(nil); id != 0 || e != api.ErrFull || f.Len() != 12500 {
		t.Error(id, e, f.Len())
	}
	// A Commit needs no room.
	last := even[len(even)-1]
	if e := f.Commit(last, 1, 1, even); e != api.OK || len(f.Free()) != len(even) {
		t.Error(e, len(f.Free()))
	}
	d.Crash(nil)
	g := open(t, d)
	if g.Meta() != (api.Meta{Gen: 2, Root: last, Count: 1, Mark: 1}) || text(g, last) != strconv.Itoa(last) || g.Len() != 12500 {
		t.Error(g.Meta(), text(g, last), g.Len())
	}
	g.Keep(even)
	for i := range even {
		if id, e := g.Put(nil); id != 3+2*i || e != api.OK {
			t.Fatal(i, id, e)
		}
	}
	if id, e := g.Put(nil); id != 0 || e != api.ErrFull {
		t.Error(id, e)
	}
}

// reader takes what is done from octets; noughts, where they are all taken.
type reader struct{ b []byte }

func (r *reader) next() int {
	if len(r.b) == 0 {
		return 0
	}
	c := r.b[0]
	r.b = r.b[1:]
	return int(c)
}

// ids tells page numbers, most of them rising pages of a file of so many.
func (r *reader) ids(pages int) []int {
	var l []int
	for id := 2; id < pages; id++ {
		if r.next()%3 > 0 {
			l = append(l, id)
		}
	}
	switch r.next() % 12 {
	case 0:
		l = append(l, r.next()-3)
	case 1:
		slices.Reverse(l)
	case 2:
		l = slices.Insert(l, 0, r.next()%4)
	}
	return l
}

// run does to a file and to the plain one what some octets say, each on a device of its own, and holds them against each other behind each.
func run(t testing.TB, b []byte) {
	r := &reader{b}
	most := []int{15, 16, 20, 40, 67, 100, 1000}[r.next()%7]
	d, c := sect.New(most), sect.New(most)
	var f *File
	var p *plain
	for i := 0; len(r.b) > 0; i++ {
		op := r.next() % 16
		where := strconv.Itoa(i) + ", " + strconv.Itoa(op)
		if f == nil || op < 2 {
			if op == 1 && r.next()%3 == 0 {
				change(d, c, r)
			}
			if op == 0 {
				l := make([]int, r.next()%40)
				for k := range l {
					l[k] = r.next()
				}
				d.Crash(l)
				c.Crash(l)
			}
			var e, want api.Errno
			f, e = Open(d)
			p, want = plainOpen(c)
			if e != want || image(d) != image(c) || (f == nil) != (p == nil) {
				t.Fatal(where, e, want)
			}
			if f == nil {
				mend(d, c, r)
				continue
			}
		} else {
			step(t, where, op, f, p, d, c, r)
		}
		if f.Meta() != p.meta || f.Len() != len(p.is) || numbers(f.Free()) != numbers(p.Free()) || image(d) != image(c) {
			t.Fatal(where, f.Meta(), p.meta, f.Len(), len(p.is), f.Free(), p.Free())
		}
	}
}

// change changes an octet of a meta on both devices, or makes a sector of it that of another page.
func change(d, c *sect.Dev, r *reader) {
	k := 8 * (r.next() % 2)
	s, _ := d.Read("p", k+8*(r.next()%2))
	s[8+r.next()%36] += byte(r.next() % 4)
	d.Write("p", k, s)
	c.Write("p", k, s)
}

// mend makes room on both devices, or takes away what can't be opened; the power may then fail in the next Open.
func mend(d, c *sect.Dev, r *reader) {
	for _, x := range []*sect.Dev{d, c} {
		x.Fuse(-1)
	}
	name := []string{"p", "other"}[r.next()%2]
	d.Drop(name)
	c.Drop(name)
	if n := r.next()%60 - 30; n >= 0 {
		d.Fuse(n)
		c.Fuse(n)
	}
}

// step does one thing to both.
func step(t testing.TB, where string, op int, f *File, p *plain, d, c *sect.Dev, r *reader) {
	switch op {
	case 2, 3, 4, 5, 6:
		b := whole(r.next() * (1 + r.next()%3) % 515)
		id, e := f.Put(b)
		want, w := p.Put(b)
		if id != want || e != w {
			t.Fatal(where, id, e, want, w)
		}
	case 7, 8, 9:
		ids := r.ids(f.Len())
		root := 0
		if len(ids) > 0 && r.next()%4 > 0 {
			root = ids[r.next()%len(ids)] + r.next()%9/8
		}
		count, mark := r.next()-5, uint64(r.next())
		if e, want := f.Commit(root, count, mark, ids), p.Commit(root, count, mark, ids); e != want {
			t.Fatal(where, e, want)
		}
	case 10:
		ids := r.ids(f.Len())
		if e, want := f.Keep(ids), p.Keep(ids); e != want {
			t.Fatal(where, e, want)
		}
	case 11:
		f.Drop()
		p.Drop()
	case 12:
		n := r.next()%40 - 15
		d.Fuse(n)
		c.Fuse(n)
	case 13, 14:
		id := r.next()%(f.Len()+4) - 2
		b, e := f.Read(id)
		want, w := p.Read(id)
		if !bytes.Equal(b, want) || e != w {
			t.Fatal(where, id, e, w)
		}
	case 15:
		// Room is taken away by a file beside it, which is nothing to the pages.
		for _, x := range []*sect.Dev{d, c} {
			x.Make("other")
			x.Write("other", x.Len("other"), [64]byte{})
		}
	}
}

// 9.1 to 9.4: long rows of calls, right and wrong, are answered as the plain file answers them.
func TestRows(t *testing.T) {
	state := uint64(3)
	for range 400 {
		b := make([]byte, 400)
		for i := range b {
			state = state*6364136223846793005 + 1442695040888963407
			b[i] = byte(state >> 56)
		}
		run(t, b)
	}
}

// 9.4: no call panics, and each ends, on devices that are full of anything.
func TestNoPanic(t *testing.T) {
	state := uint64(11)
	random := func() int {
		state = state*6364136223846793005 + 1442695040888963407
		return int(state >> 40)
	}
	numbers := []int{math.MinInt, math.MinInt + 1, math.MinInt / 8, -1, 0, 1, 2, 3, 1 << 61, math.MaxInt / 8, math.MaxInt - 1, math.MaxInt}
	opened := 0
	for range 400 {
		d := sect.New(random() % 90)
		d.Make("p")
		for k := range random() % 90 {
			s := plainSector(uint64(random()%5), uint64(random()%4), uint64(random()%3), 0)
			if random()%8 == 0 {
				s[random()%64] = byte(random())
			}
			d.Write("p", k, s)
		}
		d.Crash([]int{1, 1, 2, 1, 1, 1, 1, 0, 1, 1, 2, 1, 1, 1, 1, 1, 1, 1, 1, 1, 1, 1})
		f, e := Open(d)
		if (f == nil) != (e != api.OK) || f != nil && f.Meta() != plainMeta(d) || f == nil && plainMeta(d).Gen != 0 {
			t.Fatal(e, plainMeta(d))
		}
		if f == nil {
			continue
		}
		opened++
		for _, n := range numbers {
			f.Read(n)
			f.Keep([]int{n})
			f.Put(make([]byte, random()%600))
			f.Commit(n, 0, 0, []int{n})
			f.Commit(0, n, 0, nil)
			f.Keep(numbers)
			f.Drop()
			f.Free()
			d.Fuse(n)
		}
	}
	if opened < 50 {
		t.Error(opened)
	}
}

// 9.1 to 9.4: any row of calls.
func FuzzCalls(f *testing.F) {
	f.Add([]byte{})
	f.Add([]byte{6, 1, 2, 90, 2, 2, 10, 1, 7, 1, 1, 5, 1, 0, 9, 7, 2, 30, 1, 11, 2, 3, 0, 12, 16, 8, 1, 0, 1, 5, 0, 9, 7, 0, 3, 1, 2, 0})
	f.Add([]byte{2, 1, 15, 15, 2, 9, 0, 13, 4, 0, 2, 1, 1})
	f.Fuzz(func(t *testing.T, b []byte) { run(t, b[:min(len(b), 600)]) })
}
