package cont

import (
	"bytes"
	"encoding/binary"
	"math"
	"strings"
	"testing"

	"waybill/api"
	"waybill/fram"
)

// head is what a test writes and reads.
type head struct {
	name string
	h    api.Head
	b    string
}

// begin is what each head begins with, up to a Size of 0, but its flags.
const begin = "\x00\x3c\x00\x00\x00\x00\x00\x00\x00\x00\x00\x00"

// heads are heads whose octets are written out.
func heads() []head {
	x := func(n int) string { return strings.Repeat("x", n) }
	return []head{
		{"nothing", api.Head{}, begin + "\x00\x00"},
		{"the document's example", api.Head{Mode: 2}, begin + "\x10\x00\x02"},
		{"Mode 1", api.Head{Mode: 1}, begin + "\x10\x00\x01"},
		{"a Type", api.Head{Type: "a"}, begin + "\x80\x00\x01a"},
		{"a Type and Mode 1", api.Head{Type: "ab", Mode: 1}, begin + "\x90\x00\x02ab\x01"},
		{"a Type and Mode 2", api.Head{Type: "ab", Mode: 2}, begin + "\x90\x00\x02ab\x02"},
		{"a Type of any bytes", api.Head{Type: "\x00\xff\xce", Mode: 2}, begin + "\x90\x00\x03\x00\xff\xce\x02"},
		{"a Type that looks like a Type and a Mode", api.Head{Type: "\x01\x01\x02"}, begin + "\x80\x00\x03\x01\x01\x02"},
		{"a Type of 127", api.Head{Type: x(127)}, begin + "\x80\x00\x7f" + x(127)},
		{"a Type of 128", api.Head{Type: x(128), Mode: 1}, begin + "\x90\x00\x80" + x(128) + "\x01"},
		{"a Type of 254", api.Head{Type: x(254)}, begin + "\x80\x00\xfe" + x(254)},
		{"a Type of 255", api.Head{Type: x(255), Mode: 2}, begin + "\x90\x00\xff" + x(255) + "\x02"},
		{"Size 1", api.Head{Size: 1}, "\x00\x3c\x00\x00\x00\x00\x00\x00\x00\x00\x00\x01\x00\x00"},
		{"Size above a body's bound", api.Head{Size: 10001}, "\x00\x3c\x00\x00\x00\x00\x00\x00\x00\x00\x27\x11\x00\x00"},
		{"Size's octets", api.Head{Size: 0x0102030405060708, Mode: 1}, "\x00\x3c\x00\x00\x01\x02\x03\x04\x05\x06\x07\x08\x10\x00\x01"},
		{"Size's highest bit", api.Head{Size: 1 << 63, Type: "t"}, "\x00\x3c\x00\x00\x80\x00\x00\x00\x00\x00\x00\x00\x80\x00\x01t"},
		{"the highest Size", api.Head{Size: math.MaxUint64, Type: "t", Mode: 2}, "\x00\x3c\x00\x00\xff\xff\xff\xff\xff\xff\xff\xff\x90\x00\x01t\x02"},
	}
}

// gives holds Parse of b against what it should tell; beside an error the head is zero (rule 4).
func gives(t *testing.T, name string, b string, h api.Head, e api.Errno) {
	t.Helper()
	if got, err := Parse([]byte(b)); got != h || err != e {
		t.Errorf("%s: Parse of %d octets: %v, %d", name, len(b), got, err)
	}
}

// wrong holds that b is no head.
func wrong(t *testing.T, name string, b string) {
	t.Helper()
	gives(t, name, b, api.Head{}, api.ErrSyntax)
}

// two is the octets of a number of two octets.
func two(n int) string {
	return string([]byte{byte(n / 256), byte(n % 256)})
}

// frame is the octets of a frame, put together by hand.
func frame(kind byte, ch int, b string) string {
	return string([]byte{kind}) + two(ch) + two(0) + two(len(b)) + b + "\xce"
}

// texted is a body of n octets that differ from those 4,088 ahead of them.
func texted(n int) string {
	b := make([]byte, n)
	for i := range b {
		b[i] = byte(i % 251)
	}
	return string(b)
}

// 5.1: heads, written and read, whatever is ahead of them.
func TestHeads(t *testing.T) {
	for _, c := range heads() {
		for _, ahead := range []string{"", "ahead"} {
			if b, ok := Append([]byte(ahead), c.h); string(b) != ahead+c.b || !ok {
				t.Errorf("%s: %q, %v", c.name, b, ok)
			}
		}
		if b, ok := Append(nil, c.h); string(b) != c.b || !ok {
			t.Errorf("%s: %q, %v", c.name, b, ok)
		}
		gives(t, c.name, c.b, c.h, api.OK)
	}
}

// 5.1 and W5: octets of which one is wanting at the end, or one is too many, are no head.
func TestCut(t *testing.T) {
	for _, c := range heads() {
		for n := range len(c.b) {
			wrong(t, c.name, c.b[:n])
		}
		for _, behind := range []string{"\x00", "\x01", "\x02", "\xff", "\x01a", c.b, strings.Repeat("\x00", 5000)} {
			wrong(t, c.name, c.b+behind)
		}
	}
	if h, e := Parse(nil); h != (api.Head{}) || e != api.ErrSyntax {
		t.Error(h, e)
	}
}

// 5.1: just class 60 and weight 0 begin a head.
func TestBegin(t *testing.T) {
	for n := range 1 << 16 {
		class, weight := two(n)+"\x00\x00"+begin[4:]+"\x90\x00\x01a\x02", "\x00\x3c"+two(n)+begin[4:]+"\x90\x00\x01a\x02"
		want, e := api.Head{}, api.ErrSyntax
		if n == 60 {
			want, e = api.Head{Type: "a", Mode: 2}, api.OK
		}
		gives(t, "a class", class, want, e)
		if n != 0 {
			wrong(t, "a weight", weight)
		}
	}
}

// 5.1: of all flags just 8000 and 1000 may be there, and what they tell of must be.
func TestFlags(t *testing.T) {
	good := map[int]head{
		0:      {"none", api.Head{}, ""},
		0x1000: {"a Mode", api.Head{Mode: 1}, "\x01"},
		0x8000: {"a Type", api.Head{Type: "\x01"}, "\x01\x01"},
		0x9000: {"both", api.Head{Type: "\x01", Mode: 1}, "\x01\x01\x01"},
	}
	for flags := range 1 << 16 {
		is, ok := good[flags]
		for _, behind := range []string{"", "\x01", "\x01\x01", "\x01\x01\x01", "\x01\x01\x01\x01"} {
			if b := begin + two(flags) + behind; ok && behind == is.b {
				gives(t, is.name, b, is.h, api.OK)
			} else {
				wrong(t, "flags", b)
			}
		}
	}
}

// 5.1: a Mode that is there is 1 or 2.
func TestModes(t *testing.T) {
	for mode := range 256 {
		octet := string([]byte{byte(mode)})
		if mode == 1 || mode == 2 {
			gives(t, "a Mode", begin+"\x10\x00"+octet, api.Head{Mode: mode}, api.OK)
			gives(t, "a Mode", begin+"\x90\x00\x01a"+octet, api.Head{Type: "a", Mode: mode}, api.OK)
			continue
		}
		wrong(t, "a Mode", begin+"\x10\x00"+octet)
		wrong(t, "a Mode", begin+"\x90\x00\x01a"+octet)
	}
}

// 5.1: a Type that is there is not empty, and as long as its length tells.
func TestTypes(t *testing.T) {
	wrong(t, "an empty Type", begin+"\x80\x00\x00")
	wrong(t, "an empty Type and a Mode", begin+"\x90\x00\x00\x01")
	wrong(t, "no Type", begin+"\x80\x00")
	wrong(t, "a Mode ahead of its Type", begin+"\x90\x00\x02\x01a")
	for n := range 256 {
		text := strings.Repeat("y", n)
		length := string([]byte{byte(n)})
		if n > 0 {
			gives(t, "a Type", begin+"\x80\x00"+length+text, api.Head{Type: text}, api.OK)
			wrong(t, "a Type, one short", begin+"\x80\x00"+length+text[1:])
		}
		wrong(t, "a Type, one more", begin+"\x80\x00"+length+text+"y")
		wrong(t, "a Type that takes the Mode", begin+"\x90\x00"+length+text)
	}
}

// refused are heads that may not be.
func refused() []api.Head {
	x := func(n int) string { return strings.Repeat("x", n) }
	return []api.Head{
		{Mode: 3}, {Mode: 4}, {Mode: -1}, {Mode: -2}, {Mode: 255}, {Mode: 256}, {Mode: 257}, {Mode: 258}, {Mode: 1<<32 + 1}, {Mode: math.MaxInt}, {Mode: math.MinInt}, {Mode: math.MinInt + 1},
		{Type: x(256)}, {Type: x(257)}, {Type: x(511)}, {Type: x(512)}, {Type: x(1 << 20)},
		{Type: "a", Mode: 3}, {Type: x(256), Mode: 1}, {Type: x(256), Mode: 2}, {Type: x(256), Mode: -1}, {Size: 5, Mode: 3}, {Size: math.MaxUint64, Type: x(256)},
	}
}

// 5.1: another Mode, or a Type above 255 octets, is not written, not in a frame either.
func TestRefused(t *testing.T) {
	for i, h := range refused() {
		for _, ahead := range []string{"", "ahead"} {
			if b, ok := Append([]byte(ahead), h); string(b) != ahead || ok {
				t.Errorf("%d: %q, %v", i, b, ok)
			}
			for _, body := range []string{"", "a", texted(9000)} {
				if b, ok := Frames([]byte(ahead), 1, h, []byte(body)); string(b) != ahead || ok {
					t.Errorf("%d: %d octets, %v", i, len(b), ok)
				}
			}
		}
		if b, ok := Append(nil, h); len(b) != 0 || ok {
			t.Errorf("%d: %q, %v", i, b, ok)
		}
		if b, ok := Frames(nil, 1, h, nil); len(b) != 0 || ok {
			t.Errorf("%d: %q, %v", i, b, ok)
		}
	}
}

// 5.1: a frame with the head, and the body in frames that are full but the last.
func TestFrames(t *testing.T) {
	size := func(n int) string { return string(binary.BigEndian.AppendUint64(nil, uint64(n))) }
	for _, c := range []struct {
		n     int
		parts []int
	}{
		{0, nil}, {1, []int{1}}, {2, []int{2}}, {255, []int{255}}, {256, []int{256}},
		{4087, []int{4087}}, {4088, []int{4088}}, {4089, []int{4088, 1}}, {4096, []int{4088, 8}}, {4097, []int{4088, 9}},
		{8175, []int{4088, 4087}}, {8176, []int{4088, 4088}}, {8177, []int{4088, 4088, 1}},
		{10000, []int{4088, 4088, 1824}}, {10001, []int{4088, 4088, 1825}}, {12264, []int{4088, 4088, 4088}},
	} {
		body := texted(c.n)
		for _, ch := range []int{0, 1, 16, 17, 255, 256, 0x1234, 32768, 65535} {
			want := frame(2, ch, "\x00\x3c\x00\x00"+size(c.n)+"\x90\x00\x02ty\x02")
			at := 0
			for _, n := range c.parts {
				want += frame(3, ch, body[at:at+n])
				at += n
			}
			for _, had := range []uint64{0, 1, uint64(c.n), 99, math.MaxUint64} {
				h := api.Head{Size: had, Type: "ty", Mode: 2}
				for _, ahead := range []string{"", "ahead"} {
					if b, ok := Frames([]byte(ahead), ch, h, []byte(body)); string(b) != ahead+want || !ok {
						t.Errorf("%d on %d: %d octets, %v", c.n, ch, len(b), ok)
					}
				}
			}
		}
	}
}

// 5.1: heads in a frame are as they are alone, but their Size; no body may be nil or empty (rule 1).
func TestFramesHeads(t *testing.T) {
	for _, c := range heads() {
		alone := begin + c.b[12:]
		for _, body := range [][]byte{nil, {}} {
			if b, ok := Frames(nil, 7, c.h, body); string(b) != frame(2, 7, alone) || !ok {
				t.Errorf("%s: %q, %v", c.name, b, ok)
			}
		}
		alone = begin[:11] + "\x02" + c.b[12:]
		if b, ok := Frames([]byte("q"), 7, c.h, []byte("\xce\x00")); string(b) != "q"+frame(2, 7, alone)+frame(3, 7, "\xce\x00") || !ok {
			t.Errorf("%s: %q, %v", c.name, b, ok)
		}
	}
}

// 5.1: a channel that is none on the wire has no frames.
func TestFramesChannels(t *testing.T) {
	for _, ch := range []int{-1, -65535, -65536, 65536, 65537, 1 << 31, 1 << 32, 1<<32 + 1, math.MaxInt, math.MinInt} {
		for _, body := range []string{"", "a", texted(9000)} {
			for _, ahead := range []string{"", "ahead"} {
				if b, ok := Frames([]byte(ahead), ch, api.Head{Mode: 1}, []byte(body)); string(b) != ahead || ok {
					t.Errorf("%d: %d octets, %v", ch, len(b), ok)
				}
			}
		}
		if b, ok := Frames(nil, ch, api.Head{}, nil); len(b) != 0 || ok {
			t.Errorf("%d: %q, %v", ch, b, ok)
		}
	}
}

// reader puts contents together again from octets that come bit by bit.
type reader struct {
	t     *testing.T
	waits []byte
	heads []api.Head
	body  []string
}

// feed takes as many frames as b completes.
func (r *reader) feed(b []byte) {
	r.waits = append(r.waits, b...)
	for {
		f, n, e := fram.Parse(r.waits)
		if e == api.ErrMore {
			return
		}
		if e != api.OK || f.Chan != 5 {
			r.t.Fatal(f.Chan, e)
		}
		r.waits = r.waits[n:]
		r.take(f)
	}
}

// take puts a frame to what came ahead of it.
func (r *reader) take(f api.Frame) {
	if f.Kind == 2 {
		h, e := Parse(f.B)
		if e != api.OK {
			r.t.Fatal(e)
		}
		r.heads, r.body = append(r.heads, h), append(r.body, "")
		return
	}
	last := len(r.body) - 1
	if f.Kind != 3 || last < 0 || len(f.B) == 0 {
		r.t.Fatal(f.Kind, len(f.B))
	}
	r.body[last] += string(f.B)
}

// 5.2 and W5: a body is told whole, in parts, however the octets of its frames are cut.
func TestTold(t *testing.T) {
	sizes := []int{0, 1, 4088, 0, 4089, 10000, 8176, 2}
	var b []byte
	for i, n := range sizes {
		var ok bool
		if b, ok = Frames(b, 5, api.Head{Type: strings.Repeat("t", i), Mode: i % 3}, []byte(texted(n))); !ok {
			t.Fatal(n)
		}
	}
	for _, cut := range []int{1, 2, 3, 7, 8, 100, 4088, 4095, 4096, 4097, len(b)} {
		r := &reader{t: t}
		for at := 0; at < len(b); at += cut {
			r.feed(b[at:min(at+cut, len(b))])
		}
		if len(r.heads) != len(sizes) || len(r.waits) != 0 {
			t.Fatal(cut, len(r.heads), len(r.waits))
		}
		for i, n := range sizes {
			if r.heads[i] != (api.Head{Size: uint64(n), Type: strings.Repeat("t", i), Mode: i % 3}) || r.body[i] != texted(n) {
				t.Errorf("by %d: %d: %v, %d octets", cut, i, r.heads[i], len(r.body[i]))
			}
		}
	}
}

// Rule 3: what is handed in, its spare room too, is neither changed nor kept.
func TestHandedIn(t *testing.T) {
	dots := strings.Repeat(".", 20000)
	for _, c := range append(heads(), head{"refused", api.Head{Mode: 3}, ""}) {
		room, body := []byte("a"+dots), []byte("bc"+dots)
		Append(room[:1], c.h)
		Frames(room[:1], 1, c.h, body[:2])
		Frames(room[:1], 1, c.h, body[:9000])
		Frames(room[:1], -1, c.h, body[:9000])
		if string(room) != "a"+dots || string(body) != "bc"+dots {
			t.Errorf("%s: changed", c.name)
		}
		in := []byte(c.b)
		h, _ := Parse(in)
		if string(in) != c.b {
			t.Errorf("%s: changed: %q", c.name, in)
		}
		clear(in)
		if c.b != "" && h != c.h {
			t.Errorf("%s: kept: %v", c.name, h)
		}
	}
}

// Rule 3: what is answered is new memory, its spare room too.
func TestAnswered(t *testing.T) {
	for _, c := range append(heads(), head{"refused", api.Head{Mode: 3}, ""}) {
		b, body := []byte("abc"), []byte(texted(5000))
		for _, call := range []func() ([]byte, bool){
			func() ([]byte, bool) { return Append(b, c.h) },
			func() ([]byte, bool) { return Frames(b, 1, c.h, body) },
			func() ([]byte, bool) { return Frames(b, 1, c.h, nil) },
			func() ([]byte, bool) { return Frames(b, -1, c.h, body) },
		} {
			one, _ := call()
			two, _ := call()
			was := string(two)
			clear(one[:cap(one)])
			if string(b) != "abc" || string(body) != texted(5000) || string(two) != was {
				t.Errorf("%s: lent: %q", c.name, b)
			}
		}
	}
}

// 5.3 and W6: no octets, no head and no body, however long, make a call panic or go on and on.
func TestEnds(t *testing.T) {
	for _, c := range []byte{0, 1, 0x3c, 0x7f, 0x80, 0x90, 0xff} {
		for n := range 300 {
			wrong(t, "one octet again and again", strings.Repeat(string([]byte{c}), n))
			Parse(append([]byte(begin), bytes.Repeat([]byte{c}, n)...))
		}
		wrong(t, "many octets", strings.Repeat(string([]byte{c}), 1<<24))
		wrong(t, "many octets behind", begin+"\x90\x00\x01a\x01"+strings.Repeat(string([]byte{c}), 1<<24))
	}
	n := 1<<26 + 5
	b, ok := Frames(nil, 5, api.Head{Type: "t"}, make([]byte, n))
	if full := n / 4088; !ok || len(b) != 8+16+full*4096+8+n%4088 {
		t.Error(len(b), ok)
	}
}

// plain tells what Parse should, by a count of its own.
func plain(b string) (api.Head, bool) {
	if len(b) < 14 || b[:4] != "\x00\x3c\x00\x00" {
		return api.Head{}, false
	}
	h := api.Head{Size: binary.BigEndian.Uint64([]byte(b[4:12]))}
	typed, moded := b[12] == 0x80 || b[12] == 0x90, b[12] == 0x10 || b[12] == 0x90
	if b[13] != 0 || b[12] != 0 && !typed && !moded {
		return api.Head{}, false
	}
	rest := b[14:]
	if typed {
		if rest == "" || rest[0] == 0 || len(rest) < 1+int(rest[0]) {
			return api.Head{}, false
		}
		h.Type, rest = rest[1:1+int(rest[0])], rest[1+int(rest[0]):]
	}
	if moded {
		if rest == "" || rest[0] != 1 && rest[0] != 2 {
			return api.Head{}, false
		}
		h.Mode, rest = int(rest[0]), rest[1:]
	}
	if rest != "" {
		return api.Head{}, false
	}
	return h, true
}

// 5.1 and 5.3: any octets are a head just when a plain count says so, and it is written as it was read, octet for octet.
func FuzzParse(f *testing.F) {
	for _, c := range heads() {
		f.Add([]byte(c.b))
		f.Add([]byte(c.b + "\x00"))
		f.Add([]byte(c.b[:len(c.b)-1]))
	}
	for _, b := range []string{"", "\x00\x3c", begin, begin + "\x80\x00\x00", begin + "\x10\x00\x00", begin + "\x10\x00\x03", begin + "\x00\x01", begin + "\x90\x00\xff\x01", begin + "\x40\x00\x01a", "\x00\x3d" + begin[2:] + "\x00\x00"} {
		f.Add([]byte(b))
	}
	f.Fuzz(func(t *testing.T, b []byte) {
		want, is := plain(string(b))
		h, e := Parse(b)
		if h != want || (e == api.OK) != is || !is && e != api.ErrSyntax {
			t.Fatalf("%q: %v, %d", b, h, e)
		}
		if !is {
			return
		}
		if out, ok := Append([]byte("ahead"), h); string(out) != "ahead"+string(b) || !ok {
			t.Fatalf("%q: %q, %v", b, out, ok)
		}
	})
}

// 5.2 and 5.3: any content is told whole, or, if its head or its channel may not be, not at all.
func FuzzFrames(f *testing.F) {
	f.Add(5, uint64(0), 0, "", []byte{})
	f.Add(5, uint64(9), 2, "t", []byte("abc"))
	f.Add(65535, uint64(9), 1, "t", []byte(texted(9000)))
	f.Add(65536, uint64(9), 1, "t", []byte("abc"))
	f.Add(1, uint64(9), 3, "t", []byte("abc"))
	f.Add(1, uint64(9), 1, strings.Repeat("t", 256), []byte("abc"))
	f.Fuzz(func(t *testing.T, ch int, size uint64, mode int, text string, body []byte) {
		b, ok := Frames([]byte("ahead"), ch, api.Head{Size: size, Mode: mode, Type: text}, body)
		if want := ch >= 0 && ch <= 65535 && mode >= 0 && mode <= 2 && len(text) <= 255; ok != want || string(b[:5]) != "ahead" || !ok && len(b) != 5 {
			t.Fatalf("%d, %d, %d, %d: %v, %d octets", ch, mode, len(text), len(body), ok, len(b))
		}
		if !ok {
			return
		}
		r, b := &reader{t: t}, b[5:]
		for at := 0; at < len(b); {
			fr, n, e := fram.Parse(b[at:])
			if e != api.OK || fr.Chan != ch {
				t.Fatal(fr.Chan, e)
			}
			r.take(fr)
			at += n
		}
		if len(r.heads) != 1 || r.heads[0] != (api.Head{Size: uint64(len(body)), Mode: mode, Type: text}) || r.body[0] != string(body) {
			t.Fatal(r.heads, len(body))
		}
	})
}
