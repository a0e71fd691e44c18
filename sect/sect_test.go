package sect

import (
	"math"
	"slices"
	"strconv"
	"strings"
	"testing"

	"waybill/api"
)

// cell is a sector of the plain device: what is read of it, and what lasts of it (0: nothing, 1: old, 2: it is bad).
type cell struct {
	now, old [64]byte
	lasts    int
	bad      bool // what is read
	written  bool // and not synced
}

// plain is a device as 7.1 and 7.2 say it, word for word, with no eye to steps.
type plain struct {
	most, left int
	fused      bool
	files      map[string][]cell
}

func newPlain(most int) *plain {
	return &plain{most: min(max(most, 0), 100000), files: map[string][]cell{}}
}

// try is what each of the calls that may be cut does: nothing but ErrPower, or what it has to.
func (p *plain) try(f func() api.Errno) api.Errno {
	if p.fused && p.left == 0 {
		return api.ErrPower
	}
	e := f()
	if e == api.OK && p.fused {
		p.left--
	}
	return e
}

func (p *plain) Make(name string) api.Errno {
	return p.try(func() api.Errno {
		if len(name) < 1 || len(name) > 20 {
			return api.ErrArg
		}
		if _, ok := p.files[name]; ok {
			return api.ErrExists
		}
		p.files[name] = []cell{}
		return api.OK
	})
}

func (p *plain) Drop(name string) api.Errno {
	return p.try(func() api.Errno {
		if _, ok := p.files[name]; !ok {
			return api.ErrNoFile
		}
		delete(p.files, name)
		return api.OK
	})
}

func (p *plain) Write(name string, k int, s [64]byte) api.Errno {
	return p.try(func() api.Errno {
		l, ok := p.files[name]
		if !ok {
			return api.ErrNoFile
		}
		if k < 0 || k > len(l) {
			return api.ErrArg
		}
		if k == len(l) {
			if p.Used() >= p.most {
				return api.ErrFull
			}
			l = append(l, cell{})
		}
		l[k].now, l[k].bad, l[k].written = s, false, true
		p.files[name] = l
		return api.OK
	})
}

func (p *plain) Read(name string, k int) ([64]byte, api.Errno) {
	l, ok := p.files[name]
	if !ok {
		return [64]byte{}, api.ErrNoFile
	}
	if k < 0 || k >= len(l) {
		return [64]byte{}, api.ErrArg
	}
	if l[k].bad {
		return [64]byte{}, api.ErrBad
	}
	return l[k].now, api.OK
}

func (p *plain) Sync(name string) api.Errno {
	return p.try(func() api.Errno {
		l, ok := p.files[name]
		if !ok {
			return api.ErrNoFile
		}
		for k := range l {
			if l[k].written {
				l[k].old, l[k].lasts, l[k].written = l[k].now, 1, false
			}
		}
		return api.OK
	})
}

func (p *plain) Fuse(n int) {
	p.fused, p.left = n >= 0, n
}

func (p *plain) Crash(pick []int) {
	at := 0
	for _, name := range p.Names() {
		l := p.files[name]
		for k := range l {
			if !l[k].written {
				continue
			}
			what := 0
			if at < len(pick) {
				what = (pick[at]%3 + 3) % 3
			}
			at++
			switch what {
			case 1:
				l[k].old, l[k].lasts = l[k].now, 1
			case 2:
				l[k].lasts = 2
			}
		}
		end := 0
		for k := range l {
			if l[k].lasts > 0 {
				end = k + 1
			}
		}
		l = l[:end]
		for k := range l {
			if l[k].lasts != 1 {
				l[k] = cell{lasts: 2, bad: true}
			} else {
				l[k] = cell{lasts: 1, now: l[k].old, old: l[k].old}
			}
		}
		p.files[name] = l
	}
	p.fused = false
}

func (p *plain) Names() []string {
	var l []string
	for name := range p.files {
		l = append(l, name)
	}
	slices.Sort(l)
	return l
}

func (p *plain) Len(name string) int {
	return len(p.files[name])
}

func (p *plain) Used() int {
	n := 0
	for _, l := range p.files {
		n += len(l)
	}
	return n
}

func (p *plain) Copy() *plain {
	c := *p
	c.files = map[string][]cell{}
	for name, l := range p.files {
		c.files[name] = slices.Clone(l)
	}
	return &c
}

// sec is a sector of that octet, at its beginning and at its end.
func sec(c byte) [64]byte {
	return [64]byte{0: c, 1: 1, 63: c}
}

// told is all that a device tells of what it has: each file, its sectors as letters (a point for a bad one).
func told(t testing.TB, d *Dev) string {
	t.Helper()
	out := ""
	sum := 0
	for _, name := range d.Names() {
		out += name + ":"
		for k := range d.Len(name) {
			s, e := d.Read(name, k)
			switch {
			case e == api.ErrBad && s == [64]byte{}:
				out += "."
			case e == api.OK && s == sec(s[0]):
				out += string([]byte{s[0]})
			default:
				t.Errorf("%s %d: %v, %v", name, k, s, e)
			}
		}
		sum += d.Len(name)
		if _, e := d.Read(name, d.Len(name)); e != api.ErrArg {
			t.Errorf("%s behind its end: %v", name, e)
		}
		out += " "
	}
	if sum != d.Used() {
		t.Errorf("Used %d of %d", d.Used(), sum)
	}
	return out
}

// same holds a device against the plain one.
func same(t testing.TB, d *Dev, p *plain, where string) {
	t.Helper()
	if !slices.Equal(d.Names(), p.Names()) {
		t.Fatalf("%s: names %q, not %q", where, d.Names(), p.Names())
	}
	if d.Used() != p.Used() || d.Most() != p.most {
		t.Fatalf("%s: used %d of %d, not %d of %d", where, d.Used(), d.Most(), p.Used(), p.most)
	}
	for _, name := range append(p.Names(), "", "none") {
		if d.Len(name) != p.Len(name) {
			t.Fatalf("%s: %q has %d, not %d", where, name, d.Len(name), p.Len(name))
		}
		for k := -1; k <= p.Len(name)+1; k++ {
			s, e := d.Read(name, k)
			if ps, pe := p.Read(name, k); s != ps || e != pe {
				t.Fatalf("%s: %q %d: %v %v, not %v %v", where, name, k, s, e, ps, pe)
			}
		}
	}
}

// want holds errors against each other, in their order.
func want(t *testing.T, got, e []api.Errno) {
	t.Helper()
	if !slices.Equal(got, e) {
		t.Errorf("%v, not %v", got, e)
	}
}

// fill writes letters into a file, from a sector on.
func fill(t *testing.T, d *Dev, name string, from int, letters string) {
	t.Helper()
	for i := range len(letters) {
		if e := d.Write(name, from+i, sec(letters[i])); e != api.OK {
			t.Fatalf("%s %d: %v", name, from+i, e)
		}
	}
}

// synced is a device with one file, f, that has these letters, which last.
func synced(t *testing.T, letters string) *Dev {
	t.Helper()
	d := New(20)
	d.Make("f")
	fill(t, d, "f", 0, letters)
	if e := d.Sync("f"); e != api.OK {
		t.Fatal(e)
	}
	return d
}

// 7.1: at most that many sectors; below 0 none, above 100,000 held there.
func TestMost(t *testing.T) {
	for _, c := range []struct{ most, want int }{
		{0, 0}, {1, 1}, {-1, 0}, {math.MinInt, 0}, {99999, 99999}, {100000, 100000}, {100001, 100000}, {math.MaxInt, 100000},
	} {
		d := New(c.most)
		if d.Most() != c.want || d.Used() != 0 || len(d.Names()) != 0 {
			t.Errorf("New(%d): %d %d %q", c.most, d.Most(), d.Used(), d.Names())
		}
	}
	d := New(-7)
	want(t, []api.Errno{d.Make("f"), d.Write("f", 0, sec('a')), d.Write("f", 1, sec('a')), d.Sync("f"), d.Drop("f")}, []api.Errno{api.OK, api.ErrFull, api.ErrArg, api.OK, api.OK})
}

// 7.1: as many sectors as there may ever be, in one file, and no more; what is synced then is just what was written.
func TestGreatDevice(t *testing.T) {
	d := New(math.MaxInt)
	d.Make("f")
	for k := range 100000 {
		if e := d.Write("f", k, sec(byte(k))); e != api.OK {
			t.Fatal(k, e)
		}
	}
	want(t, []api.Errno{d.Write("f", 100000, sec(0)), d.Write("f", 99999, sec('z')), d.Sync("f"), d.Write("f", 50000, sec('y'))}, []api.Errno{api.ErrFull, api.OK, api.OK, api.OK})
	for range 50000 {
		if e := d.Sync("f"); e != api.OK {
			t.Fatal(e)
		}
	}
	d.Crash(nil)
	if s, e := d.Read("f", 99999); s != sec('z') || e != api.OK || d.Used() != 100000 {
		t.Error(s, e, d.Used())
	}
	if e := d.Drop("f"); e != api.OK || d.Used() != 0 {
		t.Error(e, d.Used())
	}
}

// 7.1: names of 1 to 20 bytes, of any bytes; ErrArg of no name ahead of ErrExists; an empty file.
func TestMake(t *testing.T) {
	long := strings.Repeat("n", 20)
	d := New(3)
	for _, c := range []struct {
		name string
		e    api.Errno
	}{
		{"", api.ErrArg}, {long + "n", api.ErrArg}, {strings.Repeat("x", 5000), api.ErrArg}, {long, api.OK}, {"a", api.OK}, {"a", api.ErrExists}, {long, api.ErrExists}, {"\x00", api.OK}, {"\xff\xfe", api.OK}, {"a/b", api.OK}, {"a ", api.OK}, {strings.Repeat("é", 10), api.OK}, {strings.Repeat("é", 11), api.ErrArg}, {"A", api.OK}, {"", api.ErrArg},
	} {
		if e := d.Make(c.name); e != c.e {
			t.Errorf("%q: %v", c.name, e)
		}
	}
	if l := d.Names(); !slices.Equal(l, []string{"\x00", "A", "a", "a ", "a/b", long, strings.Repeat("é", 10), "\xff\xfe"}) {
		t.Errorf("%q", l)
	}
	for _, name := range d.Names() {
		if d.Len(name) != 0 {
			t.Error(name)
		}
	}
	fill(t, d, "a", 0, "xy")
	if d.Make("a") != api.ErrExists || d.Len("a") != 2 || d.Len("A") != 0 {
		t.Error("a file that is there was touched")
	}
}

// 7.1: Drop's error; it is gone with all that it had, and its name and its room are there again.
func TestDrop(t *testing.T) {
	d := New(4)
	d.Make("a")
	d.Make("b")
	fill(t, d, "a", 0, "xyz")
	d.Sync("a")
	fill(t, d, "a", 1, "q")
	fill(t, d, "b", 0, "m")
	want(t, []api.Errno{d.Drop("c"), d.Drop(""), d.Write("b", 1, sec('n')), d.Drop("a"), d.Drop("a"), d.Sync("a"), d.Write("a", 0, sec('x'))}, []api.Errno{api.ErrNoFile, api.ErrNoFile, api.ErrFull, api.OK, api.ErrNoFile, api.ErrNoFile, api.ErrNoFile})
	if _, e := d.Read("a", 0); e != api.ErrNoFile {
		t.Error(e)
	}
	if s := told(t, d); s != "b:m " || d.Used() != 1 {
		t.Error(s, d.Used())
	}
	want(t, []api.Errno{d.Make("a"), d.Write("a", 1, sec('k'))}, []api.Errno{api.OK, api.ErrArg})
	if s := told(t, d); s != "a: b:m " {
		t.Error(s)
	}
	fill(t, d, "a", 0, "k")
	fill(t, d, "b", 1, "no")
	if s := told(t, d); s != "a:k b:mno " {
		t.Error(s)
	}
	// What the dropped file had lasting is nothing to the new one of its name.
	d.Crash(nil)
	if s := told(t, d); s != "a: b: " {
		t.Error(s)
	}
}

// 7.1: nor is what the dropped file had written and not synced.
func TestDropWritten(t *testing.T) {
	for _, c := range []struct {
		pick []int
		want string
	}{{nil, "f: "}, {[]int{1}, "f:a "}, {[]int{2}, "f:. "}, {[]int{1, 1}, "f:ab "}, {[]int{0, 2}, "f:.. "}} {
		d := synced(t, "")
		fill(t, d, "f", 0, "xyz")
		d.Drop("f")
		d.Make("f")
		fill(t, d, "f", 0, "ab")
		d.Crash(c.pick)
		if s := told(t, d); s != c.want {
			t.Errorf("%v: %s", c.pick, s)
		}
		fill(t, d, "f", d.Len("f"), "k")
		d.Sync("f")
		d.Crash(nil)
		if s := told(t, d); s != strings.TrimSpace(c.want)+"k " {
			t.Errorf("%v: then %s", c.pick, s)
		}
	}
}

// 7.1: Write's errors, in their order, and what it does: any sector there is, or the next.
func TestWrite(t *testing.T) {
	d := New(3)
	d.Make("a")
	d.Make("b")
	fill(t, d, "a", 0, "xy")
	for _, c := range []struct {
		name string
		k    int
		e    api.Errno
	}{
		{"none", 0, api.ErrNoFile}, {"", 0, api.ErrNoFile}, {"none", -1, api.ErrNoFile}, {"a", -1, api.ErrArg}, {"a", 3, api.ErrArg}, {"a", math.MinInt, api.ErrArg}, {"a", math.MaxInt, api.ErrArg}, {"b", 1, api.ErrArg}, {"b", 0, api.OK}, {"a", 2, api.ErrFull}, {"b", 1, api.ErrFull}, {"a", 3, api.ErrArg}, {"a", -1, api.ErrArg}, {"none", 0, api.ErrNoFile}, {"a", 0, api.OK}, {"a", 1, api.OK}, {"b", 0, api.OK},
	} {
		if e := d.Write(c.name, c.k, sec('w')); e != c.e {
			t.Errorf("%q %d: %v", c.name, c.k, e)
		}
	}
	if s := told(t, d); s != "a:ww b:w " {
		t.Error(s)
	}
	all := [64]byte{}
	for i := range all {
		all[i] = byte(255 - i)
	}
	d.Write("a", 1, all)
	if s, e := d.Read("a", 1); s != all || e != api.OK {
		t.Error(s, e)
	}
	all[5] = 0
	d.Sync("a")
	if s, _ := d.Read("a", 1); s[5] != 250 {
		t.Error("kept")
	}
}

// 7.1: Read's errors, with nothing beside them; of a new file's 0, ErrArg.
func TestRead(t *testing.T) {
	d := New(9)
	d.Make("a")
	if s, e := d.Read("a", 0); e != api.ErrArg || s != [64]byte{} {
		t.Error(s, e)
	}
	fill(t, d, "a", 0, "xyz")
	d.Crash([]int{1, 2, 1})
	for _, c := range []struct {
		name string
		k    int
		e    api.Errno
		s    [64]byte
	}{
		{"none", 0, api.ErrNoFile, [64]byte{}}, {"", -1, api.ErrNoFile, [64]byte{}}, {"a", -1, api.ErrArg, [64]byte{}}, {"a", 3, api.ErrArg, [64]byte{}}, {"a", math.MinInt, api.ErrArg, [64]byte{}}, {"a", math.MaxInt, api.ErrArg, [64]byte{}}, {"a", 1, api.ErrBad, [64]byte{}}, {"a", 0, api.OK, sec('x')}, {"a", 2, api.OK, sec('z')},
	} {
		if s, e := d.Read(c.name, c.k); s != c.s || e != c.e {
			t.Errorf("%q %d: %v %v", c.name, c.k, s, e)
		}
	}
}

// 7.1: a bad sector is good again once it is written, and again what lasted if that isn't synced.
func TestBadIsWritten(t *testing.T) {
	d := synced(t, "")
	fill(t, d, "f", 0, "xyz")
	d.Crash([]int{2, 2, 2})
	if s := told(t, d); s != "f:... " {
		t.Error(s)
	}
	fill(t, d, "f", 1, "k")
	if s := told(t, d); s != "f:.k. " {
		t.Error(s)
	}
	d.Crash(nil)
	if s := told(t, d); s != "f:... " {
		t.Error(s)
	}
	fill(t, d, "f", 2, "m")
	d.Sync("f")
	d.Crash([]int{2, 2, 2})
	if s := told(t, d); s != "f:..m " {
		t.Error(s)
	}
}

// 7.1: Sync's error; it makes just its file's sectors last.
func TestSync(t *testing.T) {
	d := New(9)
	d.Make("a")
	d.Make("b")
	fill(t, d, "a", 0, "xy")
	fill(t, d, "b", 0, "mn")
	want(t, []api.Errno{d.Sync("c"), d.Sync(""), d.Sync("b"), d.Sync("b")}, []api.Errno{api.ErrNoFile, api.ErrNoFile, api.OK, api.OK})
	fill(t, d, "b", 1, "o")
	if s := told(t, d); s != "a:xy b:mo " {
		t.Error(s)
	}
	d.Crash(nil)
	if s := told(t, d); s != "a: b:mn " {
		t.Error(s)
	}
}

// 7.1: Len and Used, of none, behind writes over, drops and crashes too; a crash gives room back.
func TestUsed(t *testing.T) {
	d := New(3)
	if d.Len("a") != 0 || d.Len("") != 0 || d.Used() != 0 {
		t.Error(d.Len("a"), d.Used())
	}
	d.Make("a")
	d.Make("b")
	fill(t, d, "a", 0, "x")
	d.Sync("a")
	fill(t, d, "a", 0, "y")
	fill(t, d, "b", 0, "mn")
	if d.Len("a") != 1 || d.Len("b") != 2 || d.Used() != 3 || d.Write("a", 1, sec('z')) != api.ErrFull {
		t.Error(d.Len("a"), d.Len("b"), d.Used())
	}
	d.Crash([]int{1})
	if d.Len("a") != 1 || d.Len("b") != 0 || d.Used() != 1 {
		t.Error(d.Len("a"), d.Len("b"), d.Used())
	}
	fill(t, d, "a", 1, "zz")
	if d.Used() != 3 || d.Write("b", 0, sec('m')) != api.ErrFull {
		t.Error(d.Used())
	}
}

// 7.1, rule 3: what Names tells is new memory; nothing done to it changes the device.
func TestNamesAreNew(t *testing.T) {
	d := New(1)
	for _, name := range []string{"c", "a", "b"} {
		d.Make(name)
	}
	l := d.Names()
	m := d.Names()
	for i := range l {
		l[i] = "z"
	}
	_ = append(l[:0], "q", "r", "s")
	if !slices.Equal(m, []string{"a", "b", "c"}) || !slices.Equal(d.Names(), m) {
		t.Error(m, d.Names())
	}
}

// 7.1, rule 8: a call that tells an error has done nothing.
func TestErrorsChangeNothing(t *testing.T) {
	d := New(3)
	d.Make("a")
	fill(t, d, "a", 0, "xy")
	d.Sync("a")
	d.Make("b")
	fill(t, d, "b", 0, "m")
	fill(t, d, "a", 1, "z")
	for range 2 {
		want(t, []api.Errno{d.Make(""), d.Make("a"), d.Drop("c"), d.Write("c", 0, sec('q')), d.Write("a", -1, sec('q')), d.Write("a", 3, sec('q')), d.Write("a", 2, sec('q')), d.Write("b", 1, sec('q')), d.Sync("c")},
			[]api.Errno{api.ErrArg, api.ErrExists, api.ErrNoFile, api.ErrNoFile, api.ErrArg, api.ErrArg, api.ErrFull, api.ErrFull, api.ErrNoFile})
		if s := told(t, d); s != "a:xz b:m " || d.Used() != 3 {
			t.Error(s)
		}
	}
	d.Crash([]int{1, 1, 2, 2, 2, 2})
	if s := told(t, d); s != "a:xz b:m " {
		t.Error(s)
	}
}

// 7.2: n more calls that went well are done, whichever they are; then each tells ErrPower, ahead of all, and does nothing.
func TestFuse(t *testing.T) {
	for n := range 9 {
		d := New(2)
		d.Make("old")
		d.Fuse(n)
		calls := []func() api.Errno{
			func() api.Errno { return d.Make("a") },
			func() api.Errno { return d.Write("a", 0, sec('x')) },
			func() api.Errno { return d.Write("a", 0, sec('y')) },
			func() api.Errno { return d.Sync("a") },
			func() api.Errno { return d.Sync("a") },
			func() api.Errno { return d.Write("old", 0, sec('m')) },
			func() api.Errno { return d.Drop("a") },
			func() api.Errno { return d.Make("b") },
		}
		states := []string{"old: ", "a: old: ", "a:x old: ", "a:y old: ", "a:y old: ", "a:y old: ", "a:y old:m ", "old:m ", "b: old:m "}
		for i, call := range calls {
			e := call()
			if i < n && e != api.OK || i >= n && e != api.ErrPower {
				t.Errorf("fuse %d, call %d: %v", n, i, e)
			}
			if s := told(t, d); s != states[min(i+1, n)] {
				t.Errorf("fuse %d, call %d: %s", n, i, s)
			}
		}
	}
}

// 7.2: calls that tell an error aren't counted, nor are those that only look; behind the last, ErrPower is ahead of every other error.
func TestFuseCounts(t *testing.T) {
	d := New(2)
	d.Make("a")
	fill(t, d, "a", 0, "xy")
	d.Fuse(2)
	for range 5 {
		want(t, []api.Errno{d.Make(""), d.Make("a"), d.Drop("b"), d.Write("b", 0, sec('q')), d.Write("a", 7, sec('q')), d.Write("a", 2, sec('q')), d.Sync("b")},
			[]api.Errno{api.ErrArg, api.ErrExists, api.ErrNoFile, api.ErrNoFile, api.ErrArg, api.ErrFull, api.ErrNoFile})
		told(t, d)
		d.Most()
		d.Copy()
	}
	want(t, []api.Errno{d.Sync("a"), d.Make("b")}, []api.Errno{api.OK, api.OK})
	for range 3 {
		want(t, []api.Errno{d.Make(""), d.Make("a"), d.Make("c"), d.Drop("a"), d.Drop("q"), d.Write("q", 0, sec('q')), d.Write("a", 7, sec('q')), d.Write("a", 2, sec('q')), d.Write("a", 0, sec('q')), d.Sync("a"), d.Sync("q")}, slices.Repeat([]api.Errno{api.ErrPower}, 11))
	}
	if s := told(t, d); s != "a:xy b: " || d.Used() != 2 || d.Most() != 2 {
		t.Error(s)
	}
	if _, e := d.Read("a", 2); e != api.ErrArg {
		t.Error(e)
	}
}

// 7.2: a later Fuse holds in place of the one ahead; below 0 it is none, and so it is behind a crash.
func TestFuseAnew(t *testing.T) {
	d := New(2)
	d.Fuse(0)
	want(t, []api.Errno{d.Make("a")}, []api.Errno{api.ErrPower})
	d.Fuse(1)
	want(t, []api.Errno{d.Make("a"), d.Make("b")}, []api.Errno{api.OK, api.ErrPower})
	for _, n := range []int{-1, -2, math.MinInt} {
		d.Fuse(0)
		d.Fuse(n)
		for range 100 {
			want(t, []api.Errno{d.Sync("a")}, []api.Errno{api.OK})
		}
	}
	d.Fuse(math.MaxInt)
	want(t, []api.Errno{d.Sync("a"), d.Sync("a")}, []api.Errno{api.OK, api.OK})
	for _, n := range []int{0, 1} {
		d.Fuse(n)
		d.Crash(nil)
		want(t, []api.Errno{d.Sync("a"), d.Sync("a"), d.Sync("a")}, []api.Errno{api.OK, api.OK, api.OK})
	}
}

// 7.2: what a crash leaves of a file's sectors, by what was synced, what was written over that, and the picks.
func TestCrash(t *testing.T) {
	for _, c := range []struct {
		old, written string
		pick         []int
		want         string
	}{
		{"", "", nil, "f: "},
		{"", "", []int{1, 2}, "f: "},
		{"", "abc", nil, "f: "},
		{"", "abc", []int{}, "f: "},
		{"", "abc", []int{0, 0, 0}, "f: "},
		{"", "abc", []int{1, 1, 1}, "f:abc "},
		{"", "abc", []int{1, 1}, "f:ab "},
		{"", "abc", []int{0, 1}, "f:.b "},
		{"", "abc", []int{0, 0, 1}, "f:..c "},
		{"", "abc", []int{0, 0, 2}, "f:... "},
		{"", "abc", []int{2}, "f:. "},
		{"", "abc", []int{0, 2}, "f:.. "},
		{"", "abc", []int{1, 0, 1}, "f:a.c "},
		{"xyz", "", []int{2, 2, 2}, "f:xyz "},
		{"xyz", "abc", nil, "f:xyz "},
		{"xyz", "abc", []int{1, 0, 2}, "f:ay. "},
		{"xyz", "abc", []int{2, 1, 0}, "f:.bz "},
		{"xyz", "ab", []int{1, 1, 2}, "f:abz "},
		{"xyz", "abcd", []int{0, 0, 0, 2}, "f:xyz. "},
		{"xyz", "abcde", []int{0, 0, 0, 0, 1}, "f:xyz.e "},
		{"xyz", "xyz", []int{2, 2, 2}, "f:... "},
		{"xyz", "abc", []int{3, 4, 5}, "f:xb. "},
		{"xyz", "abc", []int{-1, -2, -3}, "f:.bz "},
		{"xyz", "abc", []int{math.MaxInt, math.MinInt, 0}, "f:abz "},
	} {
		d := synced(t, c.old)
		fill(t, d, "f", 0, c.written)
		pick := append(slices.Clone(c.pick), 7)[:len(c.pick)]
		d.Crash(pick)
		if s := told(t, d); s != c.want {
			t.Errorf("%s %s %v: %s", c.old, c.written, c.pick, s)
		}
		if !slices.Equal(pick, c.pick) || pick[:len(pick)+1][len(pick)] != 7 {
			t.Errorf("%v: handed in and changed", pick)
		}
		// All that is there lasts.
		d.Crash([]int{2, 2, 2, 2, 2, 2})
		d.Sync("f")
		d.Crash([]int{2, 2, 2, 2, 2, 2})
		if s := told(t, d); s != c.want {
			t.Errorf("%s %s %v: then %s", c.old, c.written, c.pick, s)
		}
	}
}

// 7.2: picks go by files' names rising, then by k rising, whatever the order of making and writing; each sector that was written takes one, however often it was; one that was synced since, or whose file is gone, takes none.
func TestPickOrder(t *testing.T) {
	d := New(20)
	for _, name := range []string{"b", "gone", "a", "B", "aa", "s"} {
		d.Make(name)
	}
	fill(t, d, "b", 0, "1")
	fill(t, d, "gone", 0, "23")
	fill(t, d, "s", 0, "45")
	fill(t, d, "aa", 0, "6")
	fill(t, d, "b", 1, "78")
	fill(t, d, "a", 0, "9u")
	fill(t, d, "B", 0, "v")
	fill(t, d, "b", 0, "w")
	d.Sync("s")
	fill(t, d, "b", 0, "x")
	fill(t, d, "s", 1, "y")
	d.Drop("gone")
	// By B 0, a 0, a 1, aa 0, b 0, b 1, b 2, s 1.
	d.Crash([]int{1, 2, 1, 1, 2, 0, 1, 1, 2})
	if s := told(t, d); s != "B:v a:.u aa:6 b:..8 s:4y " {
		t.Error(s)
	}
}

// 7.2: of sectors that were written from the last to the first, the picks go by k all the same.
func TestPickOrderBackward(t *testing.T) {
	d := synced(t, "abcd")
	for _, k := range []int{3, 1, 2, 0} {
		fill(t, d, "f", k, "z")
	}
	d.Crash([]int{1, 0, 2})
	if s := told(t, d); s != "f:zb.d " {
		t.Error(s)
	}
}

// 7.2: Make and Drop last at once.
func TestMakeAndDropLast(t *testing.T) {
	d := New(5)
	d.Make("a")
	d.Make("b")
	fill(t, d, "b", 0, "xy")
	d.Sync("b")
	d.Drop("b")
	d.Make("c")
	d.Crash(nil)
	if s := told(t, d); s != "a: c: " {
		t.Error(s)
	}
}

// Copy: what isn't synced, what lasts beneath it and the Fuse are the copy's too; from then on each goes on for itself.
func TestCopy(t *testing.T) {
	d := synced(t, "xyz")
	fill(t, d, "f", 1, "q")
	d.Make("g")
	d.Fuse(3)
	c := d.Copy()
	if told(t, c) != told(t, d) || c.Most() != 20 || c.Used() != 3 {
		t.Error(told(t, c))
	}
	want(t, []api.Errno{c.Write("f", 0, sec('k')), c.Make("h"), c.Drop("g"), c.Sync("f")}, []api.Errno{api.OK, api.OK, api.OK, api.ErrPower})
	if s := told(t, d); s != "f:xqz g: " {
		t.Error(s)
	}
	want(t, []api.Errno{d.Write("f", 2, sec('m')), d.Write("f", 0, sec('n')), d.Write("g", 0, sec('o')), d.Sync("f")}, []api.Errno{api.OK, api.OK, api.OK, api.ErrPower})
	if s := told(t, c); s != "f:kqz h: " {
		t.Error(s)
	}
	cc := c.Copy()
	c.Crash([]int{1, 2})
	if s := told(t, c); s != "f:k.z h: " {
		t.Error(s)
	}
	cc.Crash([]int{0, 1})
	if s := told(t, cc); s != "f:xqz h: " {
		t.Error(s)
	}
	d.Crash([]int{0, 0, 1, 2})
	if s := told(t, d); s != "f:xym g:. " {
		t.Error(s)
	}
}

// Copy: which sectors were written is each one's own, too.
func TestCopyWritten(t *testing.T) {
	d := synced(t, "12345678")
	for k := range 7 {
		fill(t, d, "f", k, "abcdefgh"[k:k+1])
		c := d.Copy()
		e := d.Copy()
		fill(t, c, "f", 7, "C")
		fill(t, e, "f", k, "E")
		f := d.Copy()
		fill(t, f, "f", k+1, "F")
		for i, x := range []*Dev{c, e, f} {
			x.Crash(slices.Repeat([]int{1}, 8))
			over := []string{"abcdefgh"[:k+1] + "12345678"[k+1:7] + "C", "abcdefgh"[:k] + "E" + "12345678"[k+1:], "abcdefgh"[:k+1] + "F" + "12345678"[k+2:]}[i]
			if s := told(t, x); s != "f:"+over+" " {
				t.Error(k, s, over)
			}
		}
	}
	d.Crash(nil)
	if s := told(t, d); s != "f:12345678 " {
		t.Error(s)
	}
}

// states are all that can be left of a file behind a crash, by what lasts of it and what was written (0: not) over that.
func states(old, written string) map[string]int {
	all := []string{""}
	for k := range len(written) {
		options := []string{"."}
		if k < len(old) {
			options = []string{old[k : k+1]}
		} else {
			options[0] = "_"
		}
		if written[k] != '0' {
			options = append(options, written[k:k+1], ".")
		}
		var longer []string
		for _, s := range all {
			for _, o := range options {
				longer = append(longer, s+o)
			}
		}
		all = longer
	}
	out := map[string]int{}
	for _, s := range all {
		out["f:"+strings.ReplaceAll(strings.TrimRight(s, "_"), "_", ".")+" "]++
	}
	return out
}

// 7.3, W3: behind a crash at any call, with any picks, what was synced lasts, and each other sector is old, new, or known to be bad; each of these can come to be.
func TestOldNewOrBad(t *testing.T) {
	for _, c := range []struct {
		old, over string
	}{
		{"", "abcd"}, {"w", "abcd"}, {"wxyz", "0b00"}, {"wx", "a0cd"}, {"wxyz", "a0c0"}, {"wxyz", "abcd"}, {"wxyz", "0000"},
	} {
		for cut := 0; cut <= 4; cut++ {
			done := c.over[:cut] + "0000"[cut:]
			seen := map[string]int{}
			for n := range 81 {
				d := synced(t, c.old)
				d.Fuse(cut - strings.Count(c.over[:cut], "0"))
				for k := range 4 {
					if c.over[k] != '0' {
						d.Write("f", k, sec(c.over[k]))
					}
				}
				d.Crash([]int{n % 3, n / 3 % 3, n / 9 % 3, n / 27})
				seen[told(t, d)]++
			}
			can := states(c.old, done[:max(len(c.old), len(strings.TrimRight(done, "0")))])
			for s := range seen {
				if can[s] == 0 {
					t.Errorf("%q %q: %s", c.old, done, s)
				}
			}
			for s := range can {
				if seen[s] == 0 {
					t.Errorf("%q %q: never %s", c.old, done, s)
				}
			}
		}
	}
}

// run does to a device and to the plain one what some octets say, and holds them against each other behind each.
func run(t testing.TB, b []byte) {
	next := func() int {
		if len(b) == 0 {
			return 0
		}
		c := b[0]
		b = b[1:]
		return int(c)
	}
	most := next()%12 - 1
	d, p := New(most), newPlain(most)
	names := []string{"a", "b", "a", "b", "a", "c", strings.Repeat("d", 20), "", strings.Repeat("d", 21)}
	for i := 0; len(b) > 0; i++ {
		op := next() % 17
		name := names[next()%len(names)]
		var e, want api.Errno
		switch op {
		case 0, 1:
			e, want = d.Make(name), p.Make(name)
		case 2:
			e, want = d.Drop(name), p.Drop(name)
		case 3, 4, 5, 6, 7, 8:
			k, c := next()%(p.Len(name)+3)-1, byte(next())
			e, want = d.Write(name, k, sec(c)), p.Write(name, k, sec(c))
		case 9, 10:
			e, want = d.Sync(name), p.Sync(name)
		case 11:
			n := next()%80 - 60
			d.Fuse(n)
			p.Fuse(n)
		case 12, 13:
			pick := make([]int, next()%9)
			for i := range pick {
				pick[i] = next() - 128
			}
			d.Crash(pick)
			p.Crash(pick)
		case 14:
			d, p = d.Copy(), p.Copy()
		case 15:
			// What is done to a copy is nothing to the device.
			c := d.Copy()
			c.Fuse(-1)
			c.Crash([]int{2, 1, 2, 1})
			c.Make("c")
			c.Write("c", 0, sec('c'))
			c.Sync("c")
			c.Drop("a")
		case 16:
			// Nor what is done to both, one behind the other.
			c := d.Copy()
			for k := range c.Len(name) {
				c.Write(name, c.Len(name)-1-k, sec('c'))
			}
		}
		where := strconv.Itoa(i) + ", " + strconv.Itoa(op)
		if e != want {
			t.Fatalf("%s: %v, not %v", where, e, want)
		}
		same(t, d, p, where)
	}
}

// 7.1, 7.2: long rows of calls, right and wrong, held against the plain device.
func TestRows(t *testing.T) {
	x := uint64(7)
	for range 400 {
		b := make([]byte, 400)
		for i := range b {
			x = x*6364136223846793005 + 1442695040888963407
			b[i] = byte(x >> 40)
		}
		run(t, b)
	}
}

// 7.4: no call panics, whatever it is given.
func TestNoPanic(t *testing.T) {
	numbers := []int{math.MinInt, math.MinInt + 1, -1, 0, 1, 2, 100000, math.MaxInt - 1, math.MaxInt}
	names := []string{"", "a", "b", "\x00", strings.Repeat("n", 20), strings.Repeat("n", 100000)}
	for _, most := range numbers {
		d := New(most)
		for _, fuse := range numbers {
			d.Fuse(fuse)
			for _, name := range names {
				d.Drop(name)
				d.Sync(name)
				d.Make(name)
				d.Len(name)
				for _, k := range numbers {
					d.Read(name, k)
					d.Write(name, k, [64]byte{})
				}
			}
			d.Copy().Crash(numbers)
			d.Crash(nil)
			d.Crash(append(slices.Repeat([]int{1}, 3), numbers...))
		}
	}
}

// 7.1 to 7.4: any row of calls.
func FuzzCalls(f *testing.F) {
	f.Add([]byte{})
	f.Add([]byte{9, 0, 0, 3, 0, 1, 'x', 3, 0, 2, 'y', 9, 0, 3, 0, 1, 'z', 12, 0, 2, 130, 129})
	f.Fuzz(func(t *testing.T, b []byte) { run(t, b) })
}
