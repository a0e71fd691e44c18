package fram

import (
	"bytes"
	"math"
	"slices"
	"strings"
	"testing"

	"waybill/api"
)

// same is whether two frames are the same; a B without octets may be nil or empty (rule 1).
func same(f, g api.Frame) bool {
	return f.Kind == g.Kind && f.Chan == g.Chan && bytes.Equal(f.B, g.B)
}

// octets are what a frame is written as, put together by hand.
func octets(kind byte, ch string, size string, b string) string {
	return string([]byte{kind}) + ch + size + b + "\xce"
}

// frame is what a test writes and reads.
type frame struct {
	name string
	f    api.Frame
	b    string
}

// frames are all kinds of frames, with their octets.
func frames() []frame {
	x := func(n int) string { return strings.Repeat("x", n) }
	return []frame{
		{"a method", api.Frame{Kind: 1, Chan: 1, B: []byte("ab")}, octets(1, "\x00\x01", "\x00\x00\x00\x02", "ab")},
		{"a header", api.Frame{Kind: 2, Chan: 1, B: []byte("ab")}, octets(2, "\x00\x01", "\x00\x00\x00\x02", "ab")},
		{"a body", api.Frame{Kind: 3, Chan: 1, B: []byte("ab")}, octets(3, "\x00\x01", "\x00\x00\x00\x02", "ab")},
		{"a heartbeat", api.Frame{Kind: 8}, "\x08\x00\x00\x00\x00\x00\x00\xce"},
		{"a heartbeat that has something", api.Frame{Kind: 8, Chan: 3, B: []byte("ab")}, octets(8, "\x00\x03", "\x00\x00\x00\x02", "ab")},
		{"an empty method", api.Frame{Kind: 1, Chan: 1}, octets(1, "\x00\x01", "\x00\x00\x00\x00", "")},
		{"an empty list", api.Frame{Kind: 3, Chan: 1, B: []byte{}}, octets(3, "\x00\x01", "\x00\x00\x00\x00", "")},
		{"a channel's octets", api.Frame{Kind: 1, Chan: 0x1234, B: []byte("a")}, octets(1, "\x12\x34", "\x00\x00\x00\x01", "a")},
		{"channel 255", api.Frame{Kind: 1, Chan: 255}, octets(1, "\x00\xff", "\x00\x00\x00\x00", "")},
		{"channel 256", api.Frame{Kind: 1, Chan: 256}, octets(1, "\x01\x00", "\x00\x00\x00\x00", "")},
		{"channel 32768", api.Frame{Kind: 1, Chan: 32768}, octets(1, "\x80\x00", "\x00\x00\x00\x00", "")},
		{"the highest channel", api.Frame{Kind: 1, Chan: 65535}, octets(1, "\xff\xff", "\x00\x00\x00\x00", "")},
		{"255 octets", api.Frame{Kind: 3, B: []byte(x(255))}, octets(3, "\x00\x00", "\x00\x00\x00\xff", x(255))},
		{"258 octets", api.Frame{Kind: 3, B: []byte(x(258))}, octets(3, "\x00\x00", "\x00\x00\x01\x02", x(258))},
		{"4,087 octets", api.Frame{Kind: 3, B: []byte(x(4087))}, octets(3, "\x00\x00", "\x00\x00\x0f\xf7", x(4087))},
		{"4,088 octets", api.Frame{Kind: 2, Chan: 65535, B: []byte(x(4088))}, octets(2, "\xff\xff", "\x00\x00\x0f\xf8", x(4088))},
		{"ends within", api.Frame{Kind: 1, B: []byte("\xce\xce\x00\xce")}, octets(1, "\x00\x00", "\x00\x00\x00\x04", "\xce\xce\x00\xce")},
		{"a frame within", api.Frame{Kind: 3, B: []byte("\x08\x00\x00\x00\x00\x00\x00\xce")}, octets(3, "\x00\x00", "\x00\x00\x00\x08", "\x08\x00\x00\x00\x00\x00\x00\xce")},
		{"octets that look like a length", api.Frame{Kind: 3, Chan: 0xffff, B: []byte("\xff\xff\xff\xff")}, octets(3, "\xff\xff", "\x00\x00\x00\x04", "\xff\xff\xff\xff")},
	}
}

// gives holds Parse of b against what it should tell; beside an error all else is zero (rule 4).
func gives(t *testing.T, name string, b string, f api.Frame, n int, e api.Errno) {
	t.Helper()
	got, took, err := Parse([]byte(b))
	if !same(got, f) || took != n || err != e {
		t.Errorf("%s: Parse of %d octets: %v, %d, %d", name, len(b), got, took, err)
	}
}

// 3.1 and 3.2: each kind of frame, written and read, whatever is behind it.
func TestFrames(t *testing.T) {
	for _, c := range frames() {
		for _, ahead := range []string{"", "ahead"} {
			if b, ok := Append([]byte(ahead), c.f); string(b) != ahead+c.b || !ok {
				t.Errorf("%s: %q, %v", c.name, b, ok)
			}
		}
		for _, behind := range []string{"", "\x00", "\xce", "\xff", c.b, strings.Repeat("\xce", 5000)} {
			gives(t, c.name, c.b+behind, c.f, len(c.b), api.OK)
		}
	}
	if b, ok := Append(nil, api.Frame{Kind: 8}); string(b) != "\x08\x00\x00\x00\x00\x00\x00\xce" || !ok {
		t.Errorf("%q, %v", b, ok)
	}
}

// 3.1: a frame of which an octet is wanting, be it the last one, is not whole.
func TestMore(t *testing.T) {
	for _, c := range frames() {
		for n := range len(c.b) {
			gives(t, c.name, c.b[:n], api.Frame{}, 0, api.ErrMore)
		}
	}
	gives(t, "nothing", "", api.Frame{}, 0, api.ErrMore)
	if f, n, e := Parse(nil); !same(f, api.Frame{}) || n != 0 || e != api.ErrMore {
		t.Error(f, n, e)
	}
}

// 3.1: of the first octets just 1, 2, 3 and 8 are Kinds, which the first octet alone tells.
func TestFirst(t *testing.T) {
	for k := range 256 {
		b := octets(byte(k), "\x00\x01", "\x00\x00\x00\x02", "ab")
		if k == 1 || k == 2 || k == 3 || k == 8 {
			gives(t, "a kind", b[:1], api.Frame{}, 0, api.ErrMore)
			gives(t, "a kind", b, api.Frame{Kind: k, Chan: 1, B: []byte("ab")}, len(b), api.OK)
			continue
		}
		for n := 1; n <= len(b); n++ {
			gives(t, "no kind", b[:n], api.Frame{}, 0, api.ErrFrame)
		}
	}
	gives(t, "the document's example", "\x09", api.Frame{}, 0, api.ErrFrame)
}

// 3.1: a length above 4,088 is wrong as soon as it is there, and not ahead of that, whatever is behind it.
func TestLength(t *testing.T) {
	for _, size := range []string{"\x00\x00\x0f\xf9", "\x00\x00\x0f\xff", "\x00\x00\x10\x00", "\x00\x00\xff\xff", "\x00\x01\x00\x00", "\x01\x00\x00\x00", "\x7f\xff\xff\xff", "\x80\x00\x00\x00", "\x80\x00\x00\x01", "\xff\xff\xff\xf8", "\xff\xff\xff\xff"} {
		b := octets(3, "\x00\x01", size, strings.Repeat("\xce", 70000))
		for n := range 7 {
			gives(t, "a length to come", b[:n], api.Frame{}, 0, api.ErrMore)
		}
		for _, n := range []int{7, 8, 9, 4095, 4096, 4097, 4098, 5000, len(b)} {
			gives(t, "a length", b[:n], api.Frame{}, 0, api.ErrFrame)
		}
	}
	long := octets(3, "\x00\x01", "\x00\x00\x0f\xf9", strings.Repeat("x", 4089))
	gives(t, "4,089 octets, whole", long, api.Frame{}, 0, api.ErrFrame)
}

// 3.1: each other octet than ce at the end is wrong as soon as it is there; what is behind it doesn't count.
func TestEnd(t *testing.T) {
	for _, c := range frames() {
		at := len(c.b) - 1
		for end := range 256 {
			if end == 0xce {
				continue
			}
			b := c.b[:at] + string([]byte{byte(end)})
			gives(t, c.name, b, api.Frame{}, 0, api.ErrFrame)
			gives(t, c.name, b+"\xce", api.Frame{}, 0, api.ErrFrame)
		}
		gives(t, c.name, c.b[:at], api.Frame{}, 0, api.ErrMore)
	}
}

// 3.1: what no frame may be.
func TestNoFrames(t *testing.T) {
	for i, f := range []api.Frame{
		{}, {Chan: 1, B: []byte("a")},
		{Kind: -1}, {Kind: 4}, {Kind: 5}, {Kind: 6}, {Kind: 7}, {Kind: 9}, {Kind: 255}, {Kind: 256}, {Kind: 257}, {Kind: 264}, {Kind: 1 << 32}, {Kind: 1<<32 + 1}, {Kind: math.MaxInt}, {Kind: math.MinInt}, {Kind: math.MinInt + 1}, {Kind: -255},
		{Kind: 1, Chan: -1}, {Kind: 1, Chan: 65536}, {Kind: 8, Chan: 65537}, {Kind: 1, Chan: 1 << 32}, {Kind: 1, Chan: -65535}, {Kind: 1, Chan: math.MaxInt}, {Kind: 1, Chan: math.MinInt},
		{Kind: 1, B: make([]byte, 4089)}, {Kind: 2, B: make([]byte, 4096)}, {Kind: 3, B: make([]byte, 65536)}, {Kind: 8, B: make([]byte, 1<<20)},
	} {
		for _, b := range []string{"", "ahead"} {
			if out, ok := Append([]byte(b), f); string(out) != b || ok {
				t.Errorf("%d: %q, %v", i, out, ok)
			}
		}
		if out, ok := Append(nil, f); len(out) != 0 || ok {
			t.Errorf("%d: %q, %v", i, out, ok)
		}
	}
}

// reader takes frames off octets that come bit by bit, as one that uses the package would.
type reader struct {
	waits []byte
	got   []api.Frame
	e     api.Errno
}

// feed takes as many frames as b completes.
func (r *reader) feed(b []byte) {
	r.waits = append(r.waits, b...)
	for r.e != api.ErrFrame {
		f, n, e := Parse(r.waits)
		r.e = e
		if e != api.OK {
			return
		}
		r.got = append(r.got, f)
		r.waits = r.waits[n:]
	}
}

// 3.2 and W5: however octets are cut, they are the same frames, and then what is wrong is told, no later and no earlier.
func TestCut(t *testing.T) {
	var whole []byte
	var want []api.Frame
	for _, c := range frames() {
		whole, want = append(whole, c.b...), append(want, c.f)
	}
	for _, c := range []struct {
		behind string
		at     int
	}{{"", -1}, {"\x01\x00", -1}, {"\x00", 1}, {"\x04\x00\x00", 1}, {"\x01\x00\x00\x00\x00\x0f\xf9\x00", 7}, {"\x01\x00\x00\x00\x00\x00\x01a\xcf\xce", 9}} {
		b := append(slices.Clone(whole), c.behind...)
		for _, size := range []int{1, 2, 3, 5, 7, 8, 9, 100, 4095, 4096, 4097, len(b)} {
			r, at := &reader{}, -1
			for n := 0; n < len(b); n += size {
				r.feed(b[n:min(n+size, len(b))])
				if r.e == api.ErrFrame && at < 0 {
					at = min(n+size, len(b))
				}
			}
			if !slices.EqualFunc(r.got, want, same) {
				t.Errorf("%q, by %d: %d frames", c.behind, size, len(r.got))
			}
			if size == 1 && c.at > 0 && at != len(whole)+c.at || (at < 0) != (c.at < 0) {
				t.Errorf("%q, by %d: wrong at %d of %d", c.behind, size, at, len(whole))
			}
		}
		for n := range 200 {
			r := &reader{}
			r.feed(b[:n])
			r.feed(b[n:])
			if !slices.EqualFunc(r.got, want, same) || (r.e == api.ErrFrame) != (c.at > 0) {
				t.Errorf("%q, cut at %d: %d frames, %d", c.behind, n, len(r.got), r.e)
			}
		}
	}
}

// Rule 3: what is handed in, its spare room too, is neither changed nor kept.
func TestHandedIn(t *testing.T) {
	room := []byte("a...............................")
	body := []byte("bc......")
	for _, f := range []api.Frame{{Kind: 1, Chan: 1, B: body[:2]}, {Kind: 8}, {}, {Kind: 3, Chan: -1, B: body[:2]}} {
		Append(room[:1], f)
	}
	if string(room) != "a..............................." || string(body) != "bc......" {
		t.Errorf("changed: %q, %q", room, body)
	}
	in := []byte("\x03\x00\x01\x00\x00\x00\x02ab\xcebehind")
	was := bytes.Clone(in)
	f, _, _ := Parse(in)
	if !bytes.Equal(in, was) {
		t.Errorf("changed: %q", in)
	}
	clear(in)
	if string(f.B) != "ab" {
		t.Errorf("kept: %q", f.B)
	}
}

// Rule 3: what is answered is new memory, its spare room too.
func TestAnswered(t *testing.T) {
	in := []byte("\x03\x00\x01\x00\x00\x00\x02ab\xcebehind")
	was := bytes.Clone(in)
	for _, b := range [][]byte{in, in[:10]} {
		f, _, _ := Parse(b)
		clear(f.B[:cap(f.B)])
		if !bytes.Equal(in, was) {
			t.Errorf("lent: %q", in)
		}
	}
	b, body := []byte("abc"), []byte("de")
	for _, f := range []api.Frame{{Kind: 1, B: body}, {Kind: 8}, {}, {Kind: 1, Chan: -1, B: body}} {
		one, _ := Append(b, f)
		two, _ := Append(b, f)
		clear(one[:cap(one)])
		if string(b) != "abc" || string(body) != "de" || string(two[:3]) != "abc" {
			t.Errorf("lent: %q, %q, %q", b, body, two)
		}
	}
}

// 3.3 and W6: no octets, however many, and no frame make a call panic or go on and on.
func TestEnds(t *testing.T) {
	long := bytes.Repeat([]byte("\x08\x00\x00\x00\x00\x00\x00\xce"), 1<<17)
	r := &reader{}
	r.feed(long)
	if len(r.got) != 1<<17 || r.e != api.ErrMore || len(r.waits) != 0 {
		t.Error(len(r.got), r.e, len(r.waits))
	}
	for _, c := range []byte{0, 1, 2, 3, 8, 0x7f, 0x80, 0xce, 0xff} {
		for n := range 64 {
			Parse(bytes.Repeat([]byte{c}, n))
		}
		Parse(bytes.Repeat([]byte{c}, 1<<24))
	}
	for _, kind := range []int{math.MinInt, -1, 0, 1, 8, math.MaxInt} {
		for _, ch := range []int{math.MinInt, -1, 0, 65535, 65536, math.MaxInt} {
			for _, n := range []int{0, 1, 4088, 4089, 1 << 24} {
				_, ok := Append(nil, api.Frame{Kind: kind, Chan: ch, B: make([]byte, n)})
				if want := (kind == 1 || kind == 8) && (ch == 0 || ch == 65535) && n <= 4088; ok != want {
					t.Errorf("%d, %d, %d: %v", kind, ch, n, ok)
				}
			}
		}
	}
}

// plain tells what Parse should, by a count of its own: how many octets the frame has, or what is wrong.
func plain(b []byte) (int, api.Errno) {
	if len(b) == 0 {
		return 0, api.ErrMore
	}
	if !bytes.Contains([]byte{1, 2, 3, 8}, b[:1]) {
		return 0, api.ErrFrame
	}
	if len(b) < 7 {
		return 0, api.ErrMore
	}
	n := int64(b[3])*(1<<24) + int64(b[4])*(1<<16) + int64(b[5])*(1<<8) + int64(b[6])
	if n > 4088 {
		return 0, api.ErrFrame
	}
	if int64(len(b)) < n+8 {
		return 0, api.ErrMore
	}
	if b[n+7] != 206 {
		return 0, api.ErrFrame
	}
	return int(n) + 8, api.OK
}

// 3.1 to 3.3: any octets begin with a frame just when a plain count says so; it is written as it was read, octet for octet, and each part of it is not whole.
func FuzzParse(f *testing.F) {
	for _, c := range frames() {
		f.Add([]byte(c.b))
		f.Add([]byte(c.b + "behind"))
		f.Add([]byte(c.b[:len(c.b)-1]))
		f.Add([]byte(c.b[:len(c.b)-1] + "\xcf"))
	}
	for _, b := range []string{"", "\x00", "\x09", "\x01\x00\x00\x00\x00\x0f\xf9", "\x01\x00\x00\xff\xff\xff\xff\xce", "\x01\x00\x00\x00\x00"} {
		f.Add([]byte(b))
	}
	f.Fuzz(func(t *testing.T, b []byte) {
		fr, n, e := Parse(b)
		want, err := plain(b)
		if n != want || e != err {
			t.Fatalf("%q: %d, %d", b, n, e)
		}
		if e != api.OK {
			if fr.Kind != 0 || fr.Chan != 0 || len(fr.B) != 0 {
				t.Fatalf("%q: %v", b, fr)
			}
			return
		}
		if out, ok := Append([]byte("ahead"), fr); string(out) != "ahead"+string(b[:n]) || !ok {
			t.Fatalf("%q: %q, %v", b, out, ok)
		}
		for _, k := range []int{0, 1, 6, 7, n - 2, n - 1} {
			if _, _, e := Parse(b[:k]); e != api.ErrMore {
				t.Fatalf("%q, %d of it: %d", b, k, e)
			}
		}
	})
}
