package jour

import (
	"bytes"
	"encoding/binary"
	"math"
	"regexp"
	"slices"
	"strconv"
	"strings"
	"testing"

	"waybill/api"
	"waybill/sect"
)

// plainSectors tells the sectors of a batch as 8.1 says them, octet for octet.
func plainSectors(seq uint64, kind int, b []byte) [][64]byte {
	count := (len(b) + 47) / 48
	if count == 0 {
		count = 1
	}
	var l [][64]byte
	for i := range count {
		part := b[48*i:]
		if len(part) > 48 {
			part = part[:48]
		}
		var s [64]byte
		binary.BigEndian.PutUint64(s[0:], seq)
		binary.BigEndian.PutUint16(s[8:], uint16(i))
		binary.BigEndian.PutUint16(s[10:], uint16(count))
		s[12] = byte(kind)
		binary.BigEndian.PutUint16(s[14:], uint16(len(part)))
		copy(s[16:], part)
		l = append(l, s)
	}
	return l
}

// plainWhole tells the batch at a place as 8.1 says it: the one whose sectors are just those that are there.
func plainWhole(d *sect.Dev, file, at int) (api.Batch, bool) {
	var all []byte
	name := Name(file)
	first, e := d.Read(name, at)
	if e != api.OK {
		return api.Batch{}, false
	}
	count := int(first[10])*256 + int(first[11])
	if count < 1 || count > 4096 {
		return api.Batch{}, false
	}
	for i := range count {
		s, e := d.Read(name, at+i)
		size := int(s[14])*256 + int(s[15])
		if e != api.OK || size > 48 {
			return api.Batch{}, false
		}
		all = append(all, s[16:16+size]...)
	}
	seq, kind := binary.BigEndian.Uint64(first[:]), int(first[12])
	if seq == 0 || kind == 0 {
		return api.Batch{}, false
	}
	l := plainSectors(seq, kind, all)
	for i := range count {
		if s, _ := d.Read(name, at+i); i >= len(l) || s != l[i] {
			return api.Batch{}, false
		}
	}
	return api.Batch{Seq: seq, Kind: kind, B: all, File: file, At: at}, len(l) == count
}

var form = regexp.MustCompile(`^j[0-9]{6}$`)

// plainFiles tells the numbers of the journal's files, rising.
func plainFiles(d *sect.Dev) []int {
	var l []int
	for _, name := range d.Names() {
		if form.MatchString(name) && name != "j000000" {
			n, _ := strconv.Atoi(name[1:])
			l = append(l, n)
		}
	}
	slices.Sort(l)
	return l
}

// plainScan tells what Scan has to.
func plainScan(d *sect.Dev) []api.Batch {
	var told []api.Batch
	for _, file := range plainFiles(d) {
		at := 0
		for {
			b, ok := plainWhole(d, file, at)
			if !ok {
				break
			}
			if len(told) > 0 {
				last := told[len(told)-1].Seq
				next := last != math.MaxUint64 && b.Seq == last+1
				if !next && !(b.Kind == 2 && b.Seq > last) {
					break
				}
			}
			told = append(told, b)
			at += len(plainSectors(b.Seq, b.Kind, b.B))
		}
	}
	return told
}

// plain is a journal as 8.2 says it, word for word, on a device of its own.
type plain struct {
	d          *sect.Dev
	seq        uint64
	file, next int
	dead       bool
}

func plainOpen(d *sect.Dev) (*plain, []api.Batch) {
	l := plainScan(d)
	p := &plain{d: d, next: 1}
	if all := plainFiles(d); len(all) > 0 {
		p.next = all[len(all)-1] + 1
	}
	var files []int
	for _, b := range l {
		p.seq = b.Seq
		files = append(files, b.File)
	}
	for _, n := range slices.Compact(files) {
		if !p.dead && d.Sync("j"+sixDigits(n)) != api.OK {
			p.dead = true
		}
	}
	return p, l
}

func sixDigits(n int) string {
	return strconv.Itoa(1000000 + n)[1:]
}

func (p *plain) Next() (int, api.Errno) {
	if p.dead {
		return 0, api.ErrPower
	}
	if p.next > 999999 {
		return 0, api.ErrBound
	}
	e := p.d.Make("j" + sixDigits(p.next))
	if e != api.OK {
		p.dead = true
		return 0, e
	}
	p.file = p.next
	p.next++
	return p.file, api.OK
}

func (p *plain) Append(kind int, b []byte) (api.Batch, api.Errno) {
	var none api.Batch
	if p.dead {
		return none, api.ErrPower
	}
	if kind <= 0 || kind >= 256 {
		return none, api.ErrArg
	}
	if len(b) > 4096*48 || p.seq+1 == 0 {
		return none, api.ErrBound
	}
	l := plainSectors(p.seq+1, kind, b)
	if p.d.Most()-p.d.Used() < len(l) {
		return none, api.ErrFull
	}
	if p.file == 0 || p.d.Len("j"+sixDigits(p.file)) > 255 {
		if _, e := p.Next(); e != api.OK {
			return none, e
		}
	}
	name := "j" + sixDigits(p.file)
	at := p.d.Len(name)
	e := api.OK
	for _, s := range l {
		if e == api.OK {
			e = p.d.Write(name, p.d.Len(name), s)
		}
	}
	if e == api.OK {
		e = p.d.Sync(name)
	}
	if e != api.OK {
		p.dead = true
		return none, e
	}
	p.seq++
	return api.Batch{Seq: p.seq, Kind: kind, B: b, File: p.file, At: at}, api.OK
}

// put makes a file of a device (if it isn't there) and writes sectors behind its end.
func put(t testing.TB, d *sect.Dev, name string, l ...[64]byte) {
	t.Helper()
	if !slices.Contains(d.Names(), name) {
		if e := d.Make(name); e != api.OK {
			t.Fatal(name, e)
		}
	}
	for _, s := range l {
		if e := d.Write(name, d.Len(name), s); e != api.OK {
			t.Fatal(name, e)
		}
	}
}

// batch puts a batch of a few octets behind a file's end.
func batch(t testing.TB, d *sect.Dev, file int, seq uint64, kind int, b string) {
	t.Helper()
	put(t, d, Name(file), plainSectors(seq, kind, []byte(b))...)
}

// told tells batches as a text.
func told(l []api.Batch) string {
	var out strings.Builder
	for _, b := range l {
		out.WriteString(strconv.FormatUint(b.Seq, 10) + "/" + strconv.Itoa(b.Kind) + "@" + strconv.Itoa(b.File) + "." + strconv.Itoa(b.At) + ":" + strconv.Quote(string(b.B)) + " ")
	}
	return out.String()
}

// short tells batches' numbers and places alone.
func short(l []api.Batch) string {
	out := ""
	for _, b := range l {
		out += strconv.FormatUint(b.Seq, 10) + "@" + strconv.Itoa(b.File) + "." + strconv.Itoa(b.At) + " "
	}
	return out
}

// image tells all that can be seen of a device.
func image(d *sect.Dev) string {
	var out strings.Builder
	for _, name := range d.Names() {
		out.WriteString(name + "=")
		for k := range d.Len(name) {
			s, e := d.Read(name, k)
			out.WriteString(strconv.Itoa(int(e)))
			out.Write(s[:])
		}
		out.WriteString(";")
	}
	return out.String()
}

// text tells n octets, each 48 of which are others than those ahead of them.
func text(n int) []byte {
	b := make([]byte, n)
	for i := range b {
		b[i] = byte(i*7 + i/48)
	}
	return b
}

// 8.1: the names of files.
func TestName(t *testing.T) {
	for n, want := range map[int]string{
		1: "j000001", 9: "j000009", 10: "j000010", 123: "j000123", 1234: "j001234", 98765: "j098765", 100000: "j100000", 999999: "j999999",
		0: "", -1: "", 1000000: "", math.MaxInt: "", math.MinInt: "",
	} {
		if s := Name(n); s != want {
			t.Error(n, s)
		}
	}
	for n := 1; n < 1000000; n += 37 {
		if s := Name(n); s != "j"+sixDigits(n) {
			t.Error(n, s)
		}
	}
}

// 8.1: how many sectors a batch has.
func TestNeed(t *testing.T) {
	for n, want := range map[int]int{
		0: 1, 1: 1, 47: 1, 48: 1, 49: 2, 95: 2, 96: 2, 97: 3, 190000: 3959, 4096 * 48: 4096, 4096*48 + 1: 4097,
		-1: 1, -49: 1, math.MinInt: 1, math.MaxInt: (math.MaxInt-1)/48 + 1,
	} {
		if got := Need(n); got != want {
			t.Error(n, got, want)
		}
	}
	for n := range 1000 {
		if Need(n) != len(plainSectors(1, 1, make([]byte, n))) {
			t.Error(n)
		}
	}
}

// 8.1: the sectors of batches, octet for octet.
func TestSectors(t *testing.T) {
	d := sect.New(10)
	j, _ := Open(d)
	j.Append(200, []byte("abc"))
	want := [64]byte{7: 1, 11: 1, 12: 200, 15: 3, 16: 'a', 17: 'b', 18: 'c'}
	if s, e := d.Read("j000001", 0); s != want || e != api.OK {
		t.Errorf("%q", s)
	}
	j.Append(1, bytes.Repeat([]byte("z"), 49))
	want = [64]byte{7: 2, 9: 1, 11: 2, 12: 1, 15: 1, 16: 'z'}
	if s, e := d.Read("j000001", 2); s != want || e != api.OK {
		t.Errorf("%q", s)
	}
	lengths := []int{0, 1, 2, 47, 48, 49, 95, 96, 97, 143, 144, 145, 480, 256 * 48, 256*48 + 1, 257 * 48, 4095 * 48, 4095*48 + 1, 4096*48 - 1, 4096 * 48}
	for _, n := range lengths {
		d := sect.New(5000)
		batch(t, d, 6, 0x0102030405060707, 9, "")
		j, _ := Open(d)
		b, e := j.Append(n%255+1, text(n))
		l := plainSectors(0x0102030405060708, n%255+1, text(n))
		if e != api.OK || d.Len("j000007") != len(l) {
			t.Fatal(n, e, d.Len("j000007"))
		}
		for i, want := range l {
			if s, _ := d.Read("j000007", i); s != want {
				t.Fatalf("%d %d: %q", n, i, s)
			}
		}
		if got := Scan(d); len(got) != 2 || told(got[1:]) != told([]api.Batch{b}) || !bytes.Equal(b.B, text(n)) {
			t.Error(n)
		}
	}
}

// 8.1, 1.3: all kinds of batches are told again.
func TestKinds(t *testing.T) {
	d := sect.New(1000)
	j, _ := Open(d)
	var want []api.Batch
	for kind := -3; kind < 300; kind++ {
		b, e := j.Append(kind, text(kind&15))
		if kind < 1 || kind > 255 {
			if e != api.ErrArg || told([]api.Batch{b}) != told(make([]api.Batch, 1)) {
				t.Error(kind, b, e)
			}
			continue
		}
		if e != api.OK || b.Kind != kind {
			t.Error(kind, b, e)
		}
		want = append(want, b)
	}
	for _, kind := range []int{math.MinInt, math.MaxInt, 256 + 1, -255, 1 << 32} {
		if _, e := j.Append(kind, nil); e != api.ErrArg {
			t.Error(kind, e)
		}
	}
	if got := Scan(d); told(got) != told(want) || len(got) != 255 {
		t.Error(told(got))
	}
}

// 8.1: which batches follow which, in one file or in several.
func TestScanOrder(t *testing.T) {
	const most = math.MaxUint64
	type b struct {
		seq  uint64
		kind int
	}
	for _, c := range []struct {
		l    []b
		want string
	}{
		{nil, ""},
		{[]b{{1, 1}}, "1"},
		{[]b{{7, 1}, {8, 1}, {9, 255}}, "789"},
		{[]b{{0, 1}}, ""},
		{[]b{{0, 2}}, ""},
		{[]b{{5, 2}, {6, 1}}, "56"},
		{[]b{{1, 1}, {1, 1}}, "1"},
		{[]b{{1, 1}, {3, 1}}, "1"},
		{[]b{{1, 1}, {3, 3}}, "1"},
		{[]b{{1, 1}, {3, 2}, {4, 1}}, "134"},
		{[]b{{1, 1}, {2, 2}, {9, 2}}, "129"},
		{[]b{{3, 1}, {3, 2}}, "3"},
		{[]b{{3, 1}, {2, 2}}, "3"},
		{[]b{{3, 1}, {2, 1}}, "3"},
		{[]b{{3, 1}, {0, 2}}, "3"},
		{[]b{{1, 1}, {most, 2}}, "1M"},
		{[]b{{most, 1}, {0, 1}}, "M"},
		{[]b{{most, 1}, {0, 2}}, "M"},
		{[]b{{most, 1}, {1, 2}}, "M"},
		{[]b{{most, 1}, {most, 2}}, "M"},
		{[]b{{most - 1, 1}, {most, 1}}, "LM"},
		{[]b{{1 << 40, 1}, {1<<40 + 1, 1}}, "??"},
	} {
		for split := range 1 << max(len(c.l)-1, 0) {
			d := sect.New(100)
			file, at := 3, 0
			var places []string
			for i, x := range c.l {
				if i > 0 && split>>(i-1)&1 == 1 {
					file, at = file+5, 0
				}
				batch(t, d, file, x.seq, x.kind, strings.Repeat("a", 60))
				places = append(places, "@"+strconv.Itoa(file)+"."+strconv.Itoa(at)+" ")
				at += 2
			}
			want := ""
			for i := range c.want {
				want += strconv.FormatUint(c.l[i].seq, 10) + places[i]
			}
			if got := Scan(d); short(got) != want || told(got) != told(plainScan(d)) {
				t.Error(c.l, split, short(got))
			}
		}
	}
}

// 8.1: what does not follow ends its file, and the next file has to go on behind the last one that was told.
func TestScanFiles(t *testing.T) {
	d := sect.New(100)
	batch(t, d, 2, 1, 1, "a")
	batch(t, d, 2, 3, 1, "b")
	batch(t, d, 2, 2, 1, "c")
	batch(t, d, 5, 2, 1, "d")
	d.Make(Name(6))
	put(t, d, Name(7), [64]byte{})
	batch(t, d, 7, 3, 1, "e")
	batch(t, d, 8, 4, 1, "f")
	batch(t, d, 8, 3, 1, "g")
	batch(t, d, 9, 3, 1, "h")
	batch(t, d, 10, 4, 1, "i")
	batch(t, d, 999999, 9, 2, "j")
	if got := told(Scan(d)); got != `1/1@2.0:"a" 2/1@5.0:"d" 3/1@9.0:"h" 4/1@10.0:"i" 9/2@999999.0:"j" ` {
		t.Error(got)
	}
	d.Drop(Name(5))
	if got := short(Scan(d)); got != "1@2.0 9@999999.0 " {
		t.Error(got)
	}
	d.Drop(Name(2))
	if got := short(Scan(d)); got != "4@8.0 9@999999.0 " {
		t.Error(got)
	}
	d.Drop(Name(8))
	d.Drop(Name(9))
	if got := short(Scan(d)); got != "4@10.0 9@999999.0 " {
		t.Error(got)
	}
}

// 8.1: what isn't just the Name of some n is no file of the journal.
func TestScanNames(t *testing.T) {
	other := []string{"j000000", "j00001", "j0000001", "j1", "j", "J000001", "000001", "j00000a", "j+00001", "j-00001", "j 00001", "j00001 ", "j1000000", "jj000001", "k000001", "j00_001", "j0x0001", "j000001\x00", "p", "j٠٠٠", "j1e0001"}
	for _, name := range other {
		d := sect.New(100)
		put(t, d, name, plainSectors(1, 1, nil)...)
		if l := Scan(d); len(l) != 0 {
			t.Error(name, told(l))
		}
		j, l := Open(d)
		if n, e := j.Next(); len(l) != 0 || n != 1 || e != api.OK || j.Seq() != 0 {
			t.Error(name, n, e)
		}
	}
	for _, n := range []int{1, 42, 99999, 999998, 999999} {
		d := sect.New(100)
		batch(t, d, n, 1, 1, "")
		if l := Scan(d); len(l) != 1 || l[0].File != n {
			t.Error(n, told(l))
		}
	}
}

// 8.1: a batch with any of its octets changed is none, or is just another batch.
func TestSpoilt(t *testing.T) {
	for _, n := range []int{0, 1, 48, 49, 96, 100} {
		l := plainSectors(2, 1, text(n))
		for i := range l {
			for k := range 64 {
				for _, x := range []byte{1, 2, 3, 47, 48, 49, 128, 255} {
					d := sect.New(20)
					batch(t, d, 1, 1, 1, "a")
					put(t, d, Name(1), l...)
					batch(t, d, 1, 3, 1, "b")
					s := l[i]
					s[k] ^= x
					d.Write(Name(1), 1+i, s)
					want, got := told(plainScan(d)), told(Scan(d))
					if got != want {
						t.Errorf("%d %d %d %d: %s %s", n, i, k, x, got, want)
					}
					b, ok := plainWhole(d, 1, 1)
					r, e := Read(d, 1, 1, len(b.B))
					if ok != (e == api.OK) || !ok && (e != api.ErrArg || len(r) != 0) || !bytes.Equal(r, b.B) {
						t.Error(n, i, k, x, r, e)
					}
				}
			}
		}
	}
}

// 8.1: all sectors but the last one are full, and the last one is empty only in a batch of nothing.
func TestSizes(t *testing.T) {
	for count := 1; count < 4; count++ {
		for i := range count {
			for size := range 60 {
				d := sect.New(20)
				l := plainSectors(1, 1, make([]byte, count*48))
				l[i][15] = byte(size)
				put(t, d, Name(1), l...)
				want := size == 48 || i == count-1 && size < 48 && (size > 0 || count == 1)
				n := (count-1)*48 + size
				if i < count-1 {
					n = count * 48
				}
				if got := Scan(d); want != (len(got) == 1) || want && len(got[0].B) != n {
					t.Error(count, i, size, told(got))
				}
				if _, e := Read(d, 1, 0, 0); want != (e == api.OK) || !want && e != api.ErrArg {
					t.Error(count, i, size, e)
				}
			}
		}
	}
}

// 8.1: sectors that are each such as a batch has, but not of one batch.
func TestMixed(t *testing.T) {
	three := plainSectors(2, 1, text(100))
	for i, l := range [][][64]byte{
		{three[0]}, {three[0], three[1]}, {three[1], three[2]}, {three[2]}, {three[0], three[2], three[1]}, {three[0], three[0], three[2]}, {three[0], three[1], three[1]},
		{three[0], plainSectors(3, 1, text(100))[1], three[2]},
		{three[0], plainSectors(2, 2, text(100))[1], three[2]},
		{three[0], plainSectors(2, 1, text(96))[1]},
		{three[0], three[1], plainSectors(2, 1, text(150))[2], plainSectors(2, 1, text(150))[3]},
	} {
		d := sect.New(20)
		batch(t, d, 1, 1, 1, "a")
		put(t, d, Name(1), l...)
		if got := Scan(d); short(got) != "1@1.0 " {
			t.Error(i, short(got))
		}
		if b, e := Read(d, 1, 1, 0); e != api.ErrArg || b != nil {
			t.Error(i, b, e)
		}
	}
	// A last sector of another length makes another batch, that is whole.
	d := sect.New(20)
	put(t, d, Name(1), three[0], three[1], plainSectors(2, 1, text(144))[2])
	if got := Scan(d); len(got) != 1 || !bytes.Equal(got[0].B, text(144)) {
		t.Error(told(got))
	}
}

// 8.1: at most 4,096 sectors.
func TestLongest(t *testing.T) {
	for _, n := range []int{4095, 4096, 4097, 5000} {
		d := sect.New(10000)
		put(t, d, Name(1), plainSectors(1, 1, text(48*n))...)
		l := Scan(d)
		b, e := Read(d, 1, 0, 48)
		if n <= 4096 && (len(l) != 1 || !bytes.Equal(l[0].B, text(48*n)) || e != api.OK || !bytes.Equal(b, text(48))) {
			t.Error(n, len(l), e)
		}
		if n > 4096 && (len(l) != 0 || e != api.ErrArg || b != nil) {
			t.Error(n, len(l), e)
		}
	}
}

// 8.2: what Open tells, and where the journal goes on.
func TestOpen(t *testing.T) {
	d := sect.New(100)
	j, l := Open(d)
	if len(l) != 0 || j.Seq() != 0 || j.File() != 0 || len(d.Names()) != 0 {
		t.Error(l, j.Seq(), j.File())
	}
	batch(t, d, 4, 11, 1, "a")
	batch(t, d, 4, 12, 3, "")
	d.Make(Name(20))
	d.Make("z")
	j, l = Open(d)
	if told(l) != `11/1@4.0:"a" 12/3@4.1:"" ` || j.Seq() != 12 || j.File() != 0 || d.Used() != 2 {
		t.Error(told(l), j.Seq(), j.File())
	}
	b, e := j.Append(1, []byte("b"))
	if told([]api.Batch{b}) != `13/1@21.0:"b" ` || e != api.OK || j.Seq() != 13 || j.File() != 21 {
		t.Error(b, e)
	}
	// The next file is behind files whatever is in them, be it nothing that follows.
	put(t, d, Name(30), [64]byte{1})
	j, l = Open(d)
	if n, e := j.Next(); len(l) != 3 || j.Seq() != 13 || n != 31 || e != api.OK {
		t.Error(len(l), n, e)
	}
}

// 8.2: just the files that a batch told is of are synced, each once, rising; a failing one makes the journal dead.
func TestOpenSyncs(t *testing.T) {
	for n := range 5 {
		d := sect.New(100)
		batch(t, d, 2, 1, 1, "a")
		batch(t, d, 2, 2, 1, "b")
		batch(t, d, 3, 7, 1, "no")
		batch(t, d, 5, 3, 1, strings.Repeat("c", 100))
		batch(t, d, 5, 4, 1, "")
		d.Make(Name(6))
		batch(t, d, 9, 5, 1, "d")
		put(t, d, "x", [64]byte{1})
		d.Fuse(n)
		j, l := Open(d)
		if short(l) != "1@2.0 2@2.1 3@5.0 4@5.3 5@9.0 " || j.Seq() != 5 || j.File() != 0 {
			t.Error(n, short(l), j.Seq(), j.File())
		}
		// n of 3 files were synced; one more call was left of 4.
		if e := d.Make("y"); (e == api.OK) != (n == 4) {
			t.Error(n, e)
		}
		d.Fuse(-1)
		_, e := j.Append(1, nil)
		if n < 3 && e != api.ErrPower || n >= 3 && e != api.OK {
			t.Error(n, e)
		}
		m, e := j.Next()
		if n < 3 && (m != 0 || e != api.ErrPower) || n >= 3 && (m != 11 || e != api.OK) {
			t.Error(n, m, e)
		}
		d.Crash(nil)
		want := []string{"", "1@2.0 2@2.1 ", "1@2.0 2@2.1 3@5.0 4@5.3 ", "1@2.0 2@2.1 3@5.0 4@5.3 5@9.0 6@10.0 "}[min(n, 3)]
		if got := short(Scan(d)); got != want || d.Len(Name(3)) != 0 || d.Len("x") != 0 {
			t.Error(n, got)
		}
	}
}

// 8.2: the errors of Append, in their order; each leaves all as it was.
func TestAppendErrors(t *testing.T) {
	long := make([]byte, 4096*48+1)
	d := sect.New(10)
	batch(t, d, 7, math.MaxUint64-1, 1, "a")
	j, _ := Open(d)
	before := image(d)
	try := func(kind int, b []byte, want api.Errno) {
		t.Helper()
		seq, file := j.Seq(), j.File()
		x, e := j.Append(kind, b)
		if e != want || told([]api.Batch{x}) != told(make([]api.Batch, 1)) || x.B != nil {
			t.Error(kind, len(b), x, e)
		}
		if image(d) != before || j.Seq() != seq || j.File() != file {
			t.Error(kind, len(b), "something changed")
		}
	}
	try(0, long, api.ErrArg)
	try(256, nil, api.ErrArg)
	try(1, long, api.ErrBound)
	try(1, long[:4096*48], api.ErrFull)
	try(1, long[:9*48+1], api.ErrFull)
	d.Fuse(0)
	try(0, nil, api.ErrArg)
	try(1, long, api.ErrBound)
	try(1, long[:9*48+1], api.ErrFull)
	d.Fuse(-1)
	if b, e := j.Append(1, long[:9*48]); e != api.OK || b.Seq != math.MaxUint64 || b.File != 8 || d.Used() != 10 {
		t.Error(b.Seq, e)
	}
	before = image(d)
	try(0, nil, api.ErrArg)
	try(1, nil, api.ErrBound)
	try(2, nil, api.ErrBound)
	if n, e := j.Next(); n != 9 || e != api.OK {
		t.Error(n, e)
	}
}

// 8.2: no room makes the journal not dead, and what has room is put.
func TestFull(t *testing.T) {
	d := sect.New(5)
	put(t, d, "x", [64]byte{1}, [64]byte{2})
	j, _ := Open(d)
	for i, c := range []struct {
		sectors int
		e       api.Errno
	}{{4, api.ErrFull}, {2, api.OK}, {2, api.ErrFull}, {1, api.OK}, {1, api.ErrFull}} {
		if _, e := j.Append(1, make([]byte, c.sectors*48)); e != c.e {
			t.Error(i, e)
		}
	}
	if l := Scan(d); short(l) != "1@1.0 2@1.2 " || d.Used() != 5 {
		t.Error(short(l))
	}
	// A file has no sectors: it needs no room.
	if n, e := j.Next(); n != 2 || e != api.OK {
		t.Error(n, e)
	}
	d.Drop("x")
	if b, e := j.Append(1, make([]byte, 2*48)); b.File != 2 || b.At != 0 || e != api.OK {
		t.Error(b.File, b.At, e)
	}
	for _, most := range []int{0, -1} {
		j, _ := Open(sect.New(most))
		if _, e := j.Append(1, nil); e != api.ErrFull || j.File() != 0 {
			t.Error(most, e)
		}
	}
}

// 8.2: a file of 256 sectors or more is followed by the next one.
func TestRotate(t *testing.T) {
	for _, c := range []struct {
		sectors []int
		want    string
	}{
		{[]int{256, 1}, "1@1.0 2@2.0 "},
		{[]int{255, 1, 1}, "1@1.0 2@1.255 3@2.0 "},
		{[]int{255, 4096, 1}, "1@1.0 2@1.255 3@2.0 "},
		{[]int{254, 1, 1, 1}, "1@1.0 2@1.254 3@1.255 4@2.0 "},
		{[]int{4096, 4096, 255, 256, 3}, "1@1.0 2@2.0 3@3.0 4@3.255 5@4.0 "},
	} {
		d := sect.New(api.MaxSects)
		j, _ := Open(d)
		for i, n := range c.sectors {
			if b, e := j.Append(1, make([]byte, n*48)); e != api.OK || b.File != j.File() || j.Seq() != uint64(i+1) {
				t.Error(c.sectors, i, e)
			}
		}
		if l := Scan(d); short(l) != c.want {
			t.Error(c.sectors, short(l))
		}
	}
}

// 8.2: Next makes one file behind the other, up to the last name there can be.
func TestNext(t *testing.T) {
	d := sect.New(1000)
	j, _ := Open(d)
	for n := 1; n < 4; n++ {
		if m, e := j.Next(); m != n || e != api.OK || j.File() != n || !slices.Contains(d.Names(), Name(n)) {
			t.Error(n, m, e)
		}
	}
	if b, e := j.Append(1, nil); b.File != 3 || e != api.OK {
		t.Error(b, e)
	}
	d.Make(Name(999998))
	j, _ = Open(d)
	if n, e := j.Next(); n != 999999 || e != api.OK {
		t.Error(n, e)
	}
	for range 2 {
		if n, e := j.Next(); n != 0 || e != api.ErrBound || j.File() != 999999 {
			t.Error(n, e)
		}
	}
	// The open one goes on being open, until it is full.
	for range 256 {
		if b, e := j.Append(1, nil); b.File != 999999 || e != api.OK {
			t.Error(b, e)
		}
	}
	before := image(d)
	for range 2 {
		if _, e := j.Append(1, nil); e != api.ErrBound || image(d) != before || j.File() != 999999 || j.Seq() != 257 {
			t.Error(e)
		}
	}
	j, _ = Open(d)
	if n, e := j.Next(); n != 0 || e != api.ErrBound || j.File() != 0 {
		t.Error(n, e)
	}
	// ErrBound made it not dead.
	if _, e := j.Append(0, nil); e != api.ErrArg {
		t.Error(e)
	}
}

// 8.2: an error of the device is told, and behind it ErrPower alone, whatever is asked.
func TestDead(t *testing.T) {
	for n := range 6 {
		d := sect.New(100)
		j, _ := Open(d)
		d.Fuse(n)
		b, e := j.Append(1, make([]byte, 3*48))
		if n == 5 {
			if e != api.OK || b.Seq != 1 {
				t.Error(b, e)
			}
			continue
		}
		if e != api.ErrPower || b.Seq != 0 || b.B != nil || j.Seq() != 0 {
			t.Error(n, b, e)
		}
		d.Fuse(-1)
		before := image(d)
		for _, kind := range []int{1, 2, 0, 256} {
			if b, e := j.Append(kind, nil); e != api.ErrPower || b.Kind != 0 {
				t.Error(n, kind, e)
			}
			if b, e := j.Append(kind, make([]byte, 5000*48)); e != api.ErrPower || b.Kind != 0 {
				t.Error(n, kind, e)
			}
		}
		if m, e := j.Next(); m != 0 || e != api.ErrPower {
			t.Error(n, m, e)
		}
		if image(d) != before {
			t.Error(n, "something changed")
		}
	}
	// A Next that fails makes it dead, too.
	d := sect.New(100)
	j, _ := Open(d)
	j.Next()
	d.Fuse(0)
	if m, e := j.Next(); m != 0 || e != api.ErrPower || j.File() != 1 {
		t.Error(m, e)
	}
	d.Fuse(-1)
	if _, e := j.Append(1, nil); e != api.ErrPower {
		t.Error(e)
	}
}

// 8.2: what Read tells of batches, of what is none, and of what can't be read.
func TestRead(t *testing.T) {
	d := sect.New(100)
	batch(t, d, 1, 9, 1, "abc")
	batch(t, d, 1, 9, 1, "")
	put(t, d, Name(1), plainSectors(0, 1, []byte("abc"))...)
	put(t, d, Name(1), plainSectors(math.MaxUint64, 255, text(100))...)
	put(t, d, Name(1), plainSectors(5, 5, text(100))[:2]...)
	d.Make(Name(2))
	put(t, d, Name(3), plainSectors(1, 1, nil)...)
	for i, c := range []struct {
		file, at, n int
		want        string
		e           api.Errno
	}{
		{1, 0, 0, "", api.OK}, {1, 0, 1, "a", api.OK}, {1, 0, 3, "abc", api.OK}, {1, 0, 4, "", api.ErrArg}, {1, 0, -1, "", api.ErrArg}, {1, 0, math.MinInt, "", api.ErrArg}, {1, 0, math.MaxInt, "", api.ErrArg},
		{1, 1, 0, "", api.OK}, {1, 1, 1, "", api.ErrArg},
		{1, 2, 0, "", api.ErrArg}, {1, 2, 1, "", api.ErrArg},
		{1, 3, 48, string(text(48)), api.OK}, {1, 3, 49, string(text(49)), api.OK}, {1, 3, 100, string(text(100)), api.OK}, {1, 3, 101, "", api.ErrArg},
		{1, 4, 0, "", api.ErrArg}, {1, 5, 0, "", api.ErrArg},
		{1, 6, 0, "", api.ErrArg}, {1, 6, 48, "", api.ErrArg}, {1, 7, 0, "", api.ErrArg},
		{1, 8, 0, "", api.ErrArg}, {1, -1, 0, "", api.ErrArg}, {1, math.MaxInt, 0, "", api.ErrArg}, {1, math.MinInt, 0, "", api.ErrArg},
		{2, 0, 0, "", api.ErrArg}, {3, 0, 0, "", api.OK},
		{4, 0, 0, "", api.ErrNoFile}, {4, -1, 0, "", api.ErrNoFile}, {0, 0, 0, "", api.ErrNoFile}, {-1, 0, 0, "", api.ErrNoFile}, {1000000, 0, 0, "", api.ErrNoFile}, {math.MaxInt, 0, 0, "", api.ErrNoFile},
		{4, 0, -1, "", api.ErrArg}, {0, 0, -1, "", api.ErrArg},
	} {
		if b, e := Read(d, c.file, c.at, c.n); string(b) != c.want || e != c.e || e != api.OK && b != nil {
			t.Errorf("%d: %q %d", i, b, e)
		}
	}
}

// 8.1, 8.2: a bad sector ends its file, and Read tells ErrBad of it.
func TestBad(t *testing.T) {
	for bad := range 3 {
		d := sect.New(100)
		j, _ := Open(d)
		j.Append(1, []byte("a"))
		j.Append(1, text(100))
		j.Append(1, []byte("b"))
		d.Write(Name(1), 1+bad, [64]byte{})
		d.Crash([]int{2})
		if l := Scan(d); short(l) != "1@1.0 " {
			t.Error(bad, short(l))
		}
		for _, n := range []int{0, 1, 48, 100} {
			if b, e := Read(d, 1, 1, n); b != nil || e != api.ErrBad {
				t.Error(bad, b, e)
			}
		}
		if b, e := Read(d, 1, 1, -1); b != nil || e != api.ErrArg {
			t.Error(bad, b, e)
		}
		if b, e := Read(d, 1, 4, 1); string(b) != "b" || e != api.OK {
			t.Error(bad, b, e)
		}
		j, l := Open(d)
		if b, e := j.Append(1, []byte("c")); len(l) != 1 || b.Seq != 2 || b.File != 2 || e != api.OK {
			t.Error(bad, b, e)
		}
		if l := Scan(d); short(l) != "1@1.0 2@2.0 " {
			t.Error(bad, short(l))
		}
	}
}

// Rule 3: what is handed in is neither changed nor kept; what is answered is nobody else's.
func TestHandedIn(t *testing.T) {
	room := []byte("abcdefgh")
	for n := range len(room) + 1 {
		d := sect.New(100)
		j, _ := Open(d)
		b := bytes.Clone(room)
		x, e := j.Append(1, b[:n])
		if e != api.OK || string(b) != string(room) {
			t.Error(n, e, b)
		}
		clear(b)
		if string(x.B) != string(room[:n]) {
			t.Error(n, x.B)
		}
		clear(x.B[:cap(x.B)])
		l := Scan(d)
		clear(l[0].B[:cap(l[0].B)])
		r, _ := Read(d, 1, 0, n)
		clear(r[:cap(r)])
		_, l = Open(d)
		if len(l) != 1 || string(l[0].B) != string(room[:n]) {
			t.Error(n, told(l))
		}
	}
	// No two batches of one answer share room.
	d := sect.New(100)
	for seq := range 5 {
		batch(t, d, 1, uint64(seq+1), 1, "abc")
	}
	l := Scan(d)
	for i := range l {
		b := l[i].B[:cap(l[i].B)]
		for k := range b {
			b[k] = '0' + byte(i)
		}
	}
	for i := range l {
		if string(l[i].B) != strings.Repeat(string(rune('0'+i)), 3) {
			t.Error(i, l[i].B)
		}
	}
}

// Scan and Read change nothing and use nothing of a Fuse.
func TestLooking(t *testing.T) {
	d := sect.New(100)
	batch(t, d, 1, 1, 1, "abc")
	d.Fuse(1)
	before := image(d)
	Scan(d)
	Read(d, 1, 0, 3)
	if image(d) != before {
		t.Error("something changed")
	}
	if e := d.Make("x"); e != api.OK {
		t.Error(e)
	}
	d.Crash(nil)
	if l := Scan(d); len(l) != 0 {
		t.Error("it was synced")
	}
}

// Two journals of two devices have nothing to do with one another.
func TestApart(t *testing.T) {
	d, c := sect.New(10), sect.New(10)
	j, _ := Open(d)
	k, _ := Open(c)
	j.Append(1, []byte("a"))
	j.Append(1, []byte("b"))
	k.Append(1, []byte("c"))
	if short(Scan(d)) != "1@1.0 2@1.1 " || told(Scan(c)) != `1/1@1.0:"c" ` || k.Seq() != 1 || j.Seq() != 2 {
		t.Error(told(Scan(d)), told(Scan(c)))
	}
}

// script is what is appended, one behind the other: how many octets.
var script = []int{3, 0, 100, 48, 97}

// lost counts the sectors that a Crash would ask of pick, by what a copy shows where all of them are bad.
func lost(d *sect.Dev) int {
	n := 0
	c := d.Copy()
	c.Crash(slices.Repeat([]int{2}, 1000))
	for _, name := range d.Names() {
		for k := range d.Len(name) {
			_, was := d.Read(name, k)
			if _, e := c.Read(name, k); e == api.ErrBad && was == api.OK {
				n++
			}
		}
	}
	return n
}

// picks tells the pick number i of all those of n sectors.
func picks(i, n int) []int {
	l := make([]int, n)
	for k := range l {
		l[k] = i % 3
		i /= 3
	}
	return l
}

// ways tells how many picks of n sectors there are (of the first ones of many).
func ways(n int) int {
	out := 1
	for range min(n, 4) {
		out *= 3
	}
	return out
}

// kept holds what Scan tells against what was confirmed, and the one that perhaps lasts too.
func kept(t *testing.T, d *sect.Dev, sure []api.Batch, more *api.Batch, where ...any) []api.Batch {
	t.Helper()
	l := Scan(d)
	got := told(l)
	if got != told(sure) && (more == nil || got != told(append(slices.Clone(sure), *more))) {
		t.Error(where, got, told(sure))
	}
	return l
}

// goOn appends what is left of the script until an error; it tells what went well, and the one that was being put.
func goOn(j *Journal, l []api.Batch, sizes []int) (sure []api.Batch, more *api.Batch) {
	sure = slices.Clone(l)
	for _, n := range sizes {
		file, at := j.File(), j.d.Len(Name(j.File()))
		if file == 0 {
			file = j.next
		}
		b, e := j.Append(1, text(n))
		if e != api.OK {
			return sure, &api.Batch{Seq: j.Seq() + 1, Kind: 1, B: text(n), File: file, At: at}
		}
		sure = append(sure, b)
	}
	return sure, nil
}

// 8.3, W1, W3: behind a crash at any write, with any picks, there are the batches whose Append went well, perhaps the one behind them too; and so again behind a second crash.
func TestCrash(t *testing.T) {
	both := map[bool]int{}
	for n := range 20 {
		d := sect.New(100)
		j, _ := Open(d)
		d.Fuse(n)
		sure, more := goOn(j, nil, script)
		count := lost(d)
		for i := range ways(count) {
			c := d.Copy()
			c.Crash(picks(i, count))
			got := kept(t, c, sure, more, n, i)
			both[len(got) > len(sure)]++
			for m := range 12 {
				e := c.Copy()
				e.Fuse(m)
				k, l := Open(e)
				if told(l) != told(got) {
					t.Error(n, i, m, told(l))
				}
				sure, more := goOn(k, l, []int{100, 1, 49})
				count := lost(e)
				for p := range ways(count) {
					f := e.Copy()
					f.Crash(picks(p, count))
					kept(t, f, sure, more, n, i, m, p)
				}
			}
		}
	}
	if both[false] == 0 || both[true] == 0 {
		t.Error(both)
	}
}

// 8.3: opened again without a crash, a journal has what was written whole, and that lasts from then on.
func TestReopened(t *testing.T) {
	for n := range 20 {
		d := sect.New(100)
		j, _ := Open(d)
		d.Fuse(n)
		sure, more := goOn(j, nil, script)
		d.Fuse(-1)
		l := kept(t, d, sure, more, n)
		k, got := Open(d)
		if told(got) != told(l) {
			t.Error(n, told(got))
		}
		for i := range ways(lost(d)) {
			c := d.Copy()
			c.Crash(picks(i, lost(d)))
			if s := told(Scan(c)); s != told(l) {
				t.Error(n, i, s)
			}
		}
		b, e := k.Append(2, text(60))
		d.Crash(nil)
		if s := told(Scan(d)); e != api.OK || s != told(append(l, b)) {
			t.Error(n, e, s)
		}
	}
}

// 8.3: where a batch of all that lasts stands behind files that are gone, or are being dropped, it is told.
func TestWhole(t *testing.T) {
	for n := range 6 {
		d := sect.New(2000)
		j, _ := Open(d)
		for range 3 {
			j.Append(1, make([]byte, 255*48))
			j.Append(1, nil)
		}
		j.Next()
		b, e := j.Append(api.BWhole, text(70))
		d.Fuse(n)
		for file := 1; file < 4; file++ {
			d.Drop(Name(file))
		}
		d.Crash(nil)
		l := Scan(d)
		if e != api.OK || len(l) != 1+2*max(0, 3-n) || told(l[len(l)-1:]) != told([]api.Batch{b}) {
			t.Error(n, e, short(l))
		}
		k, _ := Open(d)
		if c, e := k.Append(1, nil); e != api.OK || c.Seq != 8 || c.File != 5 {
			t.Error(n, c, e)
		}
	}
}

// run does to a journal and to the plain one what some octets say, each on a device of its own, and holds them against each other behind each.
func run(t testing.TB, b []byte) {
	next := func() int {
		if len(b) == 0 {
			return 0
		}
		c := b[0]
		b = b[1:]
		return int(c)
	}
	most := []int{3, 20, 100, 700}[next()%4]
	d, c := sect.New(most), sect.New(most)
	j, _ := Open(d)
	p, _ := plainOpen(c)
	for i := 0; len(b) > 0; i++ {
		op := next() % 12
		where := strconv.Itoa(i) + ", " + strconv.Itoa(op)
		switch op {
		case 0, 1, 2, 3:
			kind, n := []int{1, 1, 2, 255, 0}[next()%5], next()*(1+next()%9)
			if next()%10 == 0 {
				n = 48 * 256
			}
			x, e := j.Append(kind, text(n))
			y, want := p.Append(kind, text(n))
			if e != want || told([]api.Batch{x}) != told([]api.Batch{y}) {
				t.Fatal(where, e, want, told([]api.Batch{x}))
			}
		case 4:
			n, e := j.Next()
			m, want := p.Next()
			if n != m || e != want {
				t.Fatal(where, n, e, want)
			}
		case 5:
			n := next()%30 - 8
			d.Fuse(n)
			c.Fuse(n)
		case 6, 7:
			if op == 7 {
				pick := make([]int, next()%20)
				for i := range pick {
					pick[i] = next()
				}
				d.Crash(pick)
				c.Crash(pick)
			}
			var l, want []api.Batch
			j, l = Open(d)
			p, want = plainOpen(c)
			if told(l) != told(want) {
				t.Fatal(where, told(l), told(want))
			}
		case 8:
			spoil(d, c, j.File(), next)
			d.Fuse(-1)
			c.Fuse(-1)
			j, _ = Open(d)
			p, _ = plainOpen(c)
		case 9:
			look(t, where, d, next)
		case 10:
			if all := plainFiles(d); len(all) > 1 {
				d.Drop(Name(all[0]))
				c.Drop(Name(all[0]))
			}
			j, _ = Open(d)
			p, _ = plainOpen(c)
		case 11:
			name := Name(next() * 3921)
			d.Make(name)
			c.Make(name)
			j, _ = Open(d)
			p, _ = plainOpen(c)
		}
		if j.Seq() != p.seq || j.File() != p.file || image(d) != image(c) {
			t.Fatal(where, j.Seq(), p.seq, j.File(), p.file)
		}
		if l, want := Scan(d), plainScan(c); told(l) != told(want) {
			t.Fatal(where, told(l), told(want))
		}
	}
}

// spoil changes a sector of both devices: an octet of it, or all of it is now that of another place.
func spoil(d, c *sect.Dev, file int, next func() int) {
	name := Name(file)
	if d.Len(name) == 0 {
		return
	}
	k := next() % d.Len(name)
	s, _ := d.Read(name, next()%d.Len(name))
	s[next()%20] += byte(next() % 3)
	d.Write(name, k, s)
	c.Write(name, k, s)
}

// look holds Read of any place against the plain way.
func look(t testing.TB, where string, d *sect.Dev, next func() int) {
	file, at, n := next()%5, next()-2, next()-2
	b, e := Read(d, file, at, n)
	x, ok := plainWhole(d, file, at)
	switch {
	case ok && n >= 0 && n <= len(x.B):
		if e != api.OK || !bytes.Equal(b, x.B[:n]) {
			t.Fatal(where, file, at, n, b, e)
		}
	case ok, n < 0:
		if e != api.ErrArg || b != nil {
			t.Fatal(where, file, at, n, b, e)
		}
	default:
		if e != api.ErrArg && e != api.ErrBad && e != api.ErrNoFile || b != nil {
			t.Fatal(where, file, at, n, b, e)
		}
	}
}

// 8.1 to 8.4: long rows of calls, right and wrong, are answered as the plain journal answers them.
func TestRows(t *testing.T) {
	state := uint64(1)
	for range 150 {
		b := make([]byte, 150)
		for i := range b {
			state = state*6364136223846793005 + 1442695040888963407
			b[i] = byte(state >> 56)
		}
		run(t, b)
	}
}

// 8.4: no call panics, and each ends, on devices that are full of anything.
func TestNoPanic(t *testing.T) {
	state := uint64(7)
	random := func() int {
		state = state*6364136223846793005 + 1442695040888963407
		return int(state >> 40)
	}
	for range 300 {
		d := sect.New(60)
		for file := 1; file < 4; file++ {
			d.Make(Name(file * file))
			for range random() % 15 {
				var s [64]byte
				for _, k := range []int{7, 9, 11, 12, 15} {
					s[k] = byte(random() % 3)
				}
				if random()%4 == 0 {
					s[random()%64] = byte(random())
				}
				d.Write(Name(file*file), d.Len(Name(file*file)), s)
			}
		}
		d.Crash([]int{1, 1, 2, 1, 1, 1, 1, 0, 1, 1, 2})
		if got, want := told(Scan(d)), told(plainScan(d)); got != want {
			t.Error(got, want)
		}
		for _, n := range []int{math.MinInt, -1, 0, 1, 4, 9, math.MaxInt} {
			for _, m := range []int{math.MinInt, -1, 0, 1, 5, math.MaxInt} {
				Read(d, n, m, 1)
				Read(d, m, n, math.MaxInt)
			}
			Name(n)
			Need(n)
			j, _ := Open(d)
			j.Append(n, nil)
			j.Next()
		}
	}
}

func FuzzCalls(f *testing.F) {
	f.Add([]byte{1, 0, 0, 3, 1, 1, 0, 0, 90, 2, 3, 6, 0, 0, 9, 1, 1, 5, 9, 0, 0, 200, 1, 1, 7, 3, 1, 2, 0, 0, 0, 1, 1, 1})
	f.Add([]byte{3, 0, 0, 9, 1, 0, 0, 0, 9, 1, 1, 8, 1, 0, 9, 1, 0, 0, 1, 1, 1, 9, 1, 2, 2, 4, 10, 11, 9, 0, 0, 1, 1, 1})
	f.Fuzz(func(t *testing.T, b []byte) {
		run(t, b[:min(len(b), 400)])
	})
}
