package octs

import (
	"bytes"
	"math"
	"strings"
	"testing"
)

// spoiled asks an In that should be bad for everything, twice, and tells of the first thing that it still gives.
func spoiled(r *In) string {
	for range 2 {
		switch {
		case r.Ok():
			return "Ok"
		case r.Left() != 0:
			return "Left"
		case r.Int(1) != 0:
			return "Int"
		case r.Short() != "":
			return "Short"
		case len(r.Long()) != 0:
			return "Long"
		case len(r.Rest()) != 0:
			return "Rest"
		}
	}
	return ""
}

// 1.1: each width, with octets behind that are not taken.
func TestIntReads(t *testing.T) {
	in := []byte{0x81, 2, 3, 4, 5, 6, 7, 0x88, 9}
	want := []uint64{0, 0x81, 0x8102, 0x810203, 0x81020304, 0x8102030405, 0x810203040506, 0x81020304050607, 0x8102030405060788}
	for n := 1; n <= 8; n++ {
		r := From(in)
		if v := r.Int(n); v != want[n] || r.Left() != 9-n || !r.Ok() {
			t.Errorf("Int(%d): %x, %d left, %v", n, v, r.Left(), r.Ok())
		}
		if v := r.Int(1); v != uint64(in[n]) {
			t.Errorf("behind Int(%d): %x", n, v)
		}
	}
}

// 1.1: a width out of bounds is held to 1 to 8.
func TestIntHolds(t *testing.T) {
	in := []byte{1, 2, 3, 4, 5, 6, 7, 8, 9}
	for _, c := range []struct {
		n    int
		v    uint64
		left int
	}{{0, 1, 8}, {-1, 1, 8}, {math.MinInt, 1, 8}, {9, 0x102030405060708, 1}, {256, 0x102030405060708, 1}, {math.MaxInt, 0x102030405060708, 1}} {
		r := From(in)
		if v := r.Int(c.n); v != c.v || r.Left() != c.left || !r.Ok() {
			t.Errorf("Int(%d): %x, %d left, %v", c.n, v, r.Left(), r.Ok())
		}
	}
	if r := From(nil); r.Int(0) != 0 || r.Ok() {
		t.Error("Int(0) of nothing is Int(1)")
	}
}

// 1.1: a text and a list, empty ones too, and just to the end.
func TestTextsRead(t *testing.T) {
	r := From([]byte("\x00\x03a\xffc\x00\x00\x00\x00\x00\x00\x00\x02de"))
	if s := r.Short(); s != "" || !r.Ok() || r.Left() != 14 {
		t.Errorf("%q, %d", s, r.Left())
	}
	if s := r.Short(); s != "a\xffc" || !r.Ok() || r.Left() != 10 {
		t.Errorf("%q, %d", s, r.Left())
	}
	if s := r.Long(); len(s) != 0 || !r.Ok() || r.Left() != 6 {
		t.Errorf("%q, %d", s, r.Left())
	}
	if s := r.Long(); string(s) != "de" || !r.Ok() || r.Left() != 0 {
		t.Errorf("%q, %d", s, r.Left())
	}
	if s := r.Rest(); len(s) != 0 || !r.Ok() || r.Left() != 0 {
		t.Errorf("%q: nothing left is no fault", s)
	}
	if s := r.Short(); s != "" || r.Ok() {
		t.Errorf("%q, %v", s, r.Ok())
	}
	long := strings.Repeat("x", 255)
	if s := From([]byte("\xff" + long + "y")).Short(); s != long {
		t.Error(len(s))
	}
	if s := From([]byte("\x00\x00\x01\x02" + long + "abcd")).Long(); string(s) != long+"abc" {
		t.Error(len(s))
	}
}

// 1.1: Rest takes all of it, once.
func TestRest(t *testing.T) {
	r := From([]byte("abcd"))
	r.Int(1)
	if s := r.Rest(); string(s) != "bcd" || r.Left() != 0 || !r.Ok() {
		t.Errorf("%q, %d, %v", s, r.Left(), r.Ok())
	}
	if s := r.Rest(); len(s) != 0 || !r.Ok() {
		t.Errorf("%q, %v", s, r.Ok())
	}
}

// 1.1: what is not all there gives nothing, and spoils the In for ever.
func TestNotAllThere(t *testing.T) {
	number := func(n int) func(r *In) bool { return func(r *In) bool { return r.Int(n) == 0 } }
	short := func(r *In) bool { return r.Short() == "" }
	long := func(r *In) bool { return len(r.Long()) == 0 }
	for _, c := range []struct {
		name, in string
		ask      func(r *In) bool
	}{
		{"Int of none", "", number(1)},
		{"Int one short", "\x01", number(2)},
		{"Int 8 one short", "\x01\x01\x01\x01\x01\x01\x01", number(8)},
		{"Int held, one short", "\x01\x01\x01\x01\x01\x01\x01", number(100)},
		{"Short of none", "", short},
		{"Short without a text", "\x01", short},
		{"Short one short", "\x03ab", short},
		{"Short 255 one short", "\xff" + strings.Repeat("x", 254), short},
		{"Long of none", "", long},
		{"Long without a length", "\x00\x00\x00", long},
		{"Long without a list", "\x00\x00\x00\x01", long},
		{"Long one short", "\x00\x00\x00\x03ab", long},
		{"Long of 2^31", "\x80\x00\x00\x00abcd", long},
		{"Long of 2^32-1", "\xff\xff\xff\xffabcd", long},
		{"Long's second octet", "\x00\x01\x00\x01abcd", long},
	} {
		for _, ahead := range []string{"", "\x07"} {
			r := From([]byte(ahead + c.in))
			if ahead != "" && r.Int(1) != 7 {
				t.Errorf("%s: what is ahead", c.name)
			}
			if !r.Ok() || r.Left() != len(c.in) {
				t.Errorf("%s: bad too early", c.name)
			}
			if !c.ask(r) {
				t.Errorf("%s: not the zero value", c.name)
			}
			if s := spoiled(r); s != "" {
				t.Errorf("%s: %s ever after", c.name, s)
			}
		}
	}
}

// 1.1: an In is bad by Rest, asked behind a fault, as by all others.
func TestRestOfBad(t *testing.T) {
	r := From([]byte("\x05abc"))
	r.Short()
	if s := r.Rest(); len(s) != 0 || r.Ok() || r.Left() != 0 {
		t.Errorf("%q, %v, %d", s, r.Ok(), r.Left())
	}
}

// 1.2: the lowest octets, of a width held to 1 to 8, behind b.
func TestIntWrites(t *testing.T) {
	v := uint64(0x8182838485868788)
	all := "\x81\x82\x83\x84\x85\x86\x87\x88"
	for n := 1; n <= 8; n++ {
		if b := Int([]byte("ab"), n, v); string(b) != "ab"+all[8-n:] {
			t.Errorf("%d: %x", n, b)
		}
	}
	for _, n := range []int{0, -1, math.MinInt} {
		if b := Int(nil, n, v); string(b) != all[7:] {
			t.Errorf("%d: %x", n, b)
		}
	}
	for _, n := range []int{9, 64, math.MaxInt} {
		if b := Int(nil, n, v); string(b) != all {
			t.Errorf("%d: %x", n, b)
		}
	}
	if b := Int(nil, 2, 258); string(b) != "\x01\x02" {
		t.Errorf("%x", b)
	}
	if b := Int([]byte{5}, 3, 0); string(b) != "\x05\x00\x00\x00" {
		t.Errorf("%x", b)
	}
}

// 1.2: a text behind its length, at most 255.
func TestShortWrites(t *testing.T) {
	for _, c := range []struct{ b, s, want string }{
		{"", "", "\x00"},
		{"x", "", "x\x00"},
		{"x", "a\xff", "x\x02a\xff"},
		{"x", strings.Repeat("y", 255), "x\xff" + strings.Repeat("y", 255)},
	} {
		if b, ok := Short([]byte(c.b), c.s); string(b) != c.want || !ok {
			t.Errorf("%q, %q: %q, %v", c.b, c.s, b, ok)
		}
	}
	for _, n := range []int{256, 257, 512, 70000} {
		for _, b := range []string{"", "xyz"} {
			if out, ok := Short([]byte(b), strings.Repeat("y", n)); string(out) != b || ok {
				t.Errorf("%q, %d: %q, %v", b, n, out, ok)
			}
		}
	}
}

// 1.2: a list behind its length, each of whose octets counts.
func TestLongWrites(t *testing.T) {
	for _, c := range []struct{ b, s, want string }{
		{"", "", "\x00\x00\x00\x00"},
		{"x", "", "x\x00\x00\x00\x00"},
		{"x", "abc", "x\x00\x00\x00\x03abc"},
		{"x", strings.Repeat("y", 0x0102), "x\x00\x00\x01\x02" + strings.Repeat("y", 0x0102)},
	} {
		if b := Long([]byte(c.b), []byte(c.s)); string(b) != c.want {
			t.Errorf("%q, %d", c.b, len(c.s))
		}
	}
	if b := Long(nil, nil); string(b) != "\x00\x00\x00\x00" {
		t.Errorf("%x", b)
	}
	s := bytes.Repeat([]byte{7}, 0x01020304)
	b := Long([]byte{9}, s)
	if string(b[:5]) != "\x09\x01\x02\x03\x04" || !bytes.Equal(b[5:], s) {
		t.Errorf("%x, %d", b[:5], len(b))
	}
	if r := From(b[1:]); !bytes.Equal(r.Long(), s) || !r.Ok() || r.Left() != 0 {
		t.Error("not read")
	}
}

// Rule 3: what is handed in, its spare room too, is neither changed nor kept.
func TestHandedIn(t *testing.T) {
	room := []byte("a..............")
	Int(room[:1], 8, math.MaxUint64)
	Short(room[:1], "zz")
	Long(room[:1], []byte("zz"))
	Short(room[:1], strings.Repeat("z", 256))
	if string(room) != "a.............." {
		t.Errorf("changed: %q", room)
	}
	in := []byte("\x01a\x00\x00\x00\x01bc")
	r := From(in)
	clear(in)
	if r.Short() != "a" || string(r.Long()) != "b" || string(r.Rest()) != "c" {
		t.Error("kept")
	}
	in = []byte("\x00\x00\x00\x01bc")
	r = From(in)
	r.Long()[0] = 'x'
	r.Rest()[0] = 'x'
	if string(in) != "\x00\x00\x00\x01bc" {
		t.Errorf("lent: %q", in)
	}
}

// Rule 3: what is answered is new memory, its spare room too.
func TestAnswered(t *testing.T) {
	r := From([]byte("\x00\x00\x00\x01bcdefghijklmnop"))
	l := r.Long()
	l = append(l, "zz"...)
	l[0] = 'z'
	if s := r.Rest(); string(s) != "cdefghijklmnop" {
		t.Errorf("Long lent: %q", s)
	}
	r = From([]byte("abcde"))
	whole, none := r.Rest(), r.Rest()
	whole, none = append(whole, 'x'), append(none, 'y')
	if string(whole) != "abcdex" || string(none) != "y" {
		t.Errorf("Rest lent: %q, %q", whole, none)
	}
	b, s := []byte("abc"), []byte("def")
	for i, out := range [][]byte{Int(b, 1, 2), Long(b, s), Long(nil, s)} {
		clear(out)
		if string(b) != "abc" || string(s) != "def" {
			t.Errorf("%d lent: %q, %q", i, b, s)
		}
	}
	out, _ := Short(b, strings.Repeat("z", 256))
	out[0] = 'x'
	if string(b) != "abc" {
		t.Errorf("Short lent: %q", b)
	}
	one, two := Int(b, 1, 1), Int(b, 1, 2)
	if one[3] != 1 || two[3] != 2 {
		t.Error("two answers share")
	}
}

// 1.3: what is written is read, one thing behind the other.
func TestWrittenIsRead(t *testing.T) {
	for _, v := range []uint64{0, 1, 127, 128, 255, 256, 1<<31 - 1, 1 << 31, 1<<32 + 5, 1<<63 - 1, 1 << 63, math.MaxUint64} {
		for n := 1; n <= 8; n++ {
			for _, l := range []int{0, 1, 2, 254, 255} {
				text := strings.Repeat("\xf0", l)
				b := Long(Int([]byte("<"), n, v), []byte(text))
				b, ok := Short(b, text)
				b = append(b, "end"...)
				r := From(b)
				if r.Int(1) != '<' || !ok {
					t.Fatal("what was there")
				}
				if got, want := r.Int(n), v<<(64-8*n)>>(64-8*n); got != want {
					t.Fatalf("%x of %d: %x", v, n, got)
				}
				if string(r.Long()) != text || r.Short() != text || string(r.Rest()) != "end" || !r.Ok() {
					t.Fatalf("texts of %d", l)
				}
			}
		}
	}
}

// 1.1 and 1.4: any calls on any octets end without a panic, and take what a plain count says.
func FuzzReads(f *testing.F) {
	f.Add([]byte{}, []byte{0, 1, 2, 3, 4})
	f.Add([]byte{1, 'a', 0, 0, 0, 1, 'b', 9, 9}, []byte{10, 11, 1, 12, 2})
	f.Add([]byte{255, 255, 255, 255, 255}, []byte{11, 0, 12, 10})
	f.Add([]byte{0, 0, 0, 0, 3, 'a', 'b'}, []byte{11, 10, 0})
	f.Add([]byte{1, 2, 3, 4, 5, 6, 7, 8, 9}, []byte{9, 8, 12, 12, 0})
	f.Fuzz(func(t *testing.T, in, calls []byte) {
		r, at, ok := From(in), 0, true
		for _, c := range calls {
			took, there := step(r, in[at:], c%13)
			if ok = ok && there; ok {
				at += took
			} else {
				at = len(in)
			}
			if r.Ok() != ok || r.Left() != len(in)-at {
				t.Fatalf("call %d: %v, %d left of %d", c%13, r.Ok(), r.Left(), len(in)-at)
			}
		}
	})
}

// step makes call c (Int(c-1) up to 9, then Short, Long, Rest), and tells how many of the octets b it should take, and whether they are there.
func step(r *In, b []byte, c byte) (int, bool) {
	switch c {
	case 10:
		r.Short()
		if len(b) < 1 {
			return 0, false
		}
		return 1 + int(b[0]), len(b) >= 1+int(b[0])
	case 11:
		r.Long()
		if len(b) < 4 {
			return 0, false
		}
		n := 4 + int(b[0])*(1<<24) + int(b[1])*(1<<16) + int(b[2])*(1<<8) + int(b[3])
		return n, len(b) >= n
	case 12:
		r.Rest()
		return len(b), true
	}
	n := int(c) - 1
	r.Int(n)
	if n < 1 {
		n = 1
	}
	if n > 8 {
		n = 8
	}
	return n, len(b) >= n
}

// 1.4: no width, and no In that is empty or bad, makes a call panic.
func TestNoPanic(t *testing.T) {
	for _, in := range [][]byte{nil, {}, {0}, {255}, {255, 255, 255, 255}, {127, 255, 255, 255, 255, 255, 255, 255}} {
		for _, n := range []int{math.MinInt, -8, 0, 1, 8, 9, 64, math.MaxInt} {
			r := From(in)
			r.Short()
			r.Int(n)
			r.Long()
			r.Rest()
			if s := spoiled(r); !r.Ok() && s != "" {
				t.Error(in, n, s)
			}
			Int(in, n, math.MaxUint64)
		}
	}
}
