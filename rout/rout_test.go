package rout

import (
	"math"
	"math/rand"
	"slices"
	"strconv"
	"strings"
	"sync"
	"testing"

	"waybill/api"
)

// standing are the exchanges of a new Rout, rising.
func standing() []api.Exch {
	return []api.Exch{{Name: "", Kind: 1, Lasts: true}, {Name: "amq.direct", Kind: 1, Lasts: true}, {Name: "amq.fanout", Kind: 2, Lasts: true}, {Name: "amq.topic", Kind: 3, Lasts: true}}
}

// bind makes a binding.
func bind(exch, queue, key string) api.Bind {
	return api.Bind{Exch: exch, Queue: queue, Key: key}
}

// binding adds a binding that must not be there yet.
func binding(t *testing.T, r *Rout, exch, queue, key string) {
	t.Helper()
	if !r.Bind(bind(exch, queue, key)) {
		t.Errorf("%q>%q:%q: not bound", exch, queue, key)
	}
}

// holds asks r for its exchanges and bindings.
func holds(t *testing.T, r *Rout, exchs []api.Exch, binds []api.Bind) {
	t.Helper()
	var names []string
	for _, x := range exchs {
		names = append(names, x.Name)
		if got, ok := r.Get(x.Name); got != x || !ok {
			t.Errorf("%q: %v, %v", x.Name, got, ok)
		}
	}
	if got := r.Names(); !slices.Equal(got, names) {
		t.Errorf("names %q, not %q", got, names)
	}
	if got := r.Binds(); !slices.Equal(got, binds) {
		t.Errorf("bindings %q, not %q", got, binds)
	}
}

// leadsTo asks for the queues of exch and key.
func leadsTo(t *testing.T, r *Rout, exch, key string, want ...string) {
	t.Helper()
	if got := r.Route(exch, key); !slices.Equal(got, want) {
		t.Errorf("%q, %q: %q, not %q", exch, key, got, want)
	}
}

// 16.1: what a new one has, and that each is one of its own.
func TestNew(t *testing.T) {
	one, two := New(), New()
	holds(t, one, standing(), nil)
	one.Add(api.Exch{Name: "x", Kind: 2})
	one.Drop("amq.topic")
	binding(t, one, "amq.direct", "q", "k")
	holds(t, two, standing(), nil)
	holds(t, New(), standing(), nil)
	for _, name := range []string{"amq", "amq.", "amq.match", "amq.headers", "AMQ.direct", "direct", "\x00", " "} {
		if x, ok := two.Get(name); x != (api.Exch{}) || ok {
			t.Errorf("%q: %v", name, x)
		}
	}
}

// 16.1: each Kind, and those that are none.
func TestKinds(t *testing.T) {
	for _, kind := range []int{1, 2, 3} {
		for _, lasts := range []bool{false, true} {
			r, x := New(), api.Exch{Name: "x", Kind: kind, Lasts: lasts}
			if !r.Add(x) {
				t.Errorf("%v isn't added", x)
			}
			holds(t, r, append(standing(), x), nil)
		}
	}
	r := New()
	for _, kind := range []int{0, -1, -2, -3, 4, 5, 255, 256, 257, 258, 259, 1<<32 + 1, 1<<32 + 2, math.MaxInt, math.MinInt, math.MinInt + 1, math.MinInt + 2} {
		for _, name := range []string{"x", "", "amq.fanout"} {
			if r.Add(api.Exch{Name: name, Kind: kind, Lasts: true}) {
				t.Errorf("%q of %d is added", name, kind)
			}
		}
	}
	holds(t, r, standing(), nil)
}

// 16.1: a Name that is there stays as it is, whatever it should become.
func TestThere(t *testing.T) {
	r := New()
	x := api.Exch{Name: "x", Kind: 2}
	if !r.Add(x) {
		t.Error("x isn't added")
	}
	binding(t, r, "x", "q", "k")
	for _, old := range append(standing(), x) {
		for kind := range 5 {
			for _, lasts := range []bool{false, true} {
				if r.Add(api.Exch{Name: old.Name, Kind: kind, Lasts: lasts}) {
					t.Errorf("%q is added again", old.Name)
				}
			}
		}
	}
	holds(t, r, append(standing(), x), []api.Bind{bind("x", "q", "k")})
}

// 16.1: names are any bytes, and the same just if all of these are.
func TestAnyNames(t *testing.T) {
	r := New()
	names := []string{"", "\x00", "\x00\x00", " ", "#", "*", ".", "A", "a", "a\x00", "a.b", "aa", "amq.direct", "amq.direct ", "amq.fanout", "amq.fanouT", "amq.topic", "b", "x\xffy", "\xc3\xa4", "\xff", "\xff\xff", strings.Repeat("n", 31), strings.Repeat("n", 100000)}
	for _, name := range names {
		there := slices.ContainsFunc(standing(), func(x api.Exch) bool { return x.Name == name })
		if r.Add(api.Exch{Name: name, Kind: 3}) == there {
			t.Errorf("%q", name)
		}
	}
	slices.Sort(names)
	if got := r.Names(); !slices.Equal(got, names) {
		t.Errorf("%q", got)
	}
	for _, name := range names {
		if x, ok := r.Get(name); x.Name != name || !ok {
			t.Errorf("%q: %v", name, x)
		}
		if b := bind(name, name, name); r.Bind(b) != (name != "") {
			t.Errorf("%q", name)
		}
	}
	if got := len(r.Binds()); got != len(names)-1 {
		t.Errorf("%d bindings", got)
	}
}

// several is a Rout with bindings of several exchanges and queues, and these, rising.
func several(t *testing.T) (*Rout, []api.Exch, []api.Bind) {
	t.Helper()
	r := New()
	exchs := append(standing(), api.Exch{Name: "x", Kind: 2}, api.Exch{Name: "y", Kind: 3, Lasts: true})
	for _, x := range exchs[4:] {
		r.Add(x)
	}
	l := []api.Bind{
		bind("amq.direct", "p", "a"), bind("amq.direct", "q", ""), bind("amq.direct", "q", "a"), bind("amq.direct", "q", "b"),
		bind("amq.topic", "q", "#"), bind("amq.topic", "x", "a"),
		bind("x", "", ""), bind("x", "amq.topic", "k"), bind("x", "p", "k"), bind("x", "q", "a"), bind("x", "x", "x"),
		bind("y", "p", "*.a"), bind("y", "q", "a"), bind("y", "y", "x"),
	}
	for _, i := range rand.New(rand.NewSource(16)).Perm(len(l)) {
		binding(t, r, l[i].Exch, l[i].Queue, l[i].Key)
	}
	return r, exchs, l
}

// without tells l without those that which tells, and these.
func without(l []api.Bind, which func(api.Bind) bool) (rest, gone []api.Bind) {
	for _, b := range l {
		if which(b) {
			gone = append(gone, b)
		} else {
			rest = append(rest, b)
		}
	}
	return rest, gone
}

// 16.1: an exchange goes with its bindings and no others, be it one that stands from the beginning on.
func TestDrop(t *testing.T) {
	for _, name := range []string{"", "amq.direct", "amq.fanout", "amq.topic", "x", "y", "p", "q", "k", "none", "amq"} {
		r, exchs, l := several(t)
		rest, gone := without(l, func(b api.Bind) bool { return b.Exch == name })
		if got := r.Drop(name); !slices.Equal(got, gone) {
			t.Errorf("%q: %q", name, got)
		}
		left := slices.DeleteFunc(exchs, func(x api.Exch) bool { return x.Name == name })
		holds(t, r, left, rest)
		if x, ok := r.Get(name); x != (api.Exch{}) || ok {
			t.Errorf("%q: still %v", name, x)
		}
		leadsTo(t, r, name, "a")
		if r.Bind(bind(name, "q", "z")) || len(r.Drop(name)) != 0 {
			t.Errorf("%q: bound, or dropped again", name)
		}
		holds(t, r, left, rest)
	}
}

// 16.1: what is added anew has no bindings, and may be of another kind.
func TestAddAgain(t *testing.T) {
	r, _, _ := several(t)
	r.Drop("y")
	if !r.Add(api.Exch{Name: "y", Kind: 1}) {
		t.Error("isn't added")
	}
	if x, ok := r.Get("y"); x != (api.Exch{Name: "y", Kind: 1}) || !ok {
		t.Error(x, ok)
	}
	leadsTo(t, r, "y", "a")
	leadsTo(t, r, "y", "b.a")
	if len(r.Drop("y")) != 0 || !r.Add(api.Exch{Name: "y", Kind: 2}) {
		t.Error("it had bindings, or isn't added")
	}
	binding(t, r, "y", "q", "a")
	leadsTo(t, r, "y", "b", "q")
	if got := r.Drop("y"); !slices.Equal(got, []api.Bind{bind("y", "q", "a")}) {
		t.Errorf("%q", got)
	}
}

// 16.1: the exchange without a name has no bindings and leads to the key itself, also where it was added anew, of whatever kind.
func TestUnnamed(t *testing.T) {
	for kind := 1; kind <= 3; kind++ {
		r := New()
		if len(r.Drop("")) != 0 {
			t.Error("it had bindings")
		}
		leadsTo(t, r, "", "q")
		if r.Bind(bind("", "q", "q")) || r.Unbind(bind("", "q", "q")) {
			t.Error("bound")
		}
		if !r.Add(api.Exch{Kind: kind}) {
			t.Error("isn't added")
		}
		if x, ok := r.Get(""); x != (api.Exch{Kind: kind}) || !ok {
			t.Error(x)
		}
		leadsTo(t, r, "", "q", "q")
		if r.Bind(bind("", "q", "q")) || r.Bind(bind("", "", "#")) {
			t.Error("bound")
		}
		holds(t, r, append([]api.Exch{{Kind: kind}}, standing()[1:]...), nil)
	}
}

// 16.1: a binding is bound once, just to an exchange that is there, and is another one if any of its parts is.
func TestBind(t *testing.T) {
	r := New()
	for _, b := range []api.Bind{bind("", "q", "k"), bind("", "", ""), bind("x", "q", "k"), bind("q", "x", "k"), bind("amq", "q", "k"), bind("amq.direct ", "q", "k"), bind("amq.direct\x00", "q", "k")} {
		if r.Bind(b) || r.Unbind(b) {
			t.Errorf("%q", b)
		}
	}
	holds(t, r, standing(), nil)
	var l []api.Bind
	for _, x := range []string{"amq.direct", "amq.fanout", "amq.topic"} {
		for _, q := range []string{"", "a", "aa", "amq.direct", "b"} {
			for _, k := range []string{"", "#", "*", ".", "a", "ab", "b"} {
				l = append(l, bind(x, q, k))
			}
		}
	}
	for _, i := range rand.New(rand.NewSource(17)).Perm(len(l)) {
		if !r.Bind(l[i]) || r.Bind(l[i]) {
			t.Errorf("%q", l[i])
		}
	}
	holds(t, r, standing(), l)
}

// 16.1: queues and keys of any bytes and any length are taken: what names may be is the broker's.
func TestAnyBinding(t *testing.T) {
	r := New()
	odd := []string{"", "\x00", "#", "*", "amq.x", strings.Repeat("k", 61), strings.Repeat("k.", 100000), "\xff\xfe"}
	for _, s := range odd {
		binding(t, r, "amq.direct", s, s)
		leadsTo(t, r, "amq.direct", s, s)
		if r.Bind(bind("amq.direct", s, s)) {
			t.Errorf("%d bytes: again", len(s))
		}
	}
	if got := len(r.Binds()); got != len(odd) {
		t.Errorf("%d bindings", got)
	}
}

// 16.1: a binding goes if it was there, and no other.
func TestUnbind(t *testing.T) {
	r, exchs, l := several(t)
	for _, b := range []api.Bind{{}, bind("", "q", "q"), bind("none", "q", "a"), bind("amq.direct", "q", "c"), bind("amq.direct", "z", "a"), bind("amq.fanout", "q", "a"), bind("q", "amq.direct", "a"), bind("amq.direct", "a", "q"), bind("amq.topic", "q", "*"), bind("amq.topic", "q", "")} {
		if r.Unbind(b) {
			t.Errorf("%q was there", b)
		}
	}
	holds(t, r, exchs, l)
	for _, i := range rand.New(rand.NewSource(18)).Perm(len(l)) {
		c, b := r.Copy(), l[i]
		if !c.Unbind(b) || c.Unbind(b) {
			t.Errorf("%q", b)
		}
		rest, _ := without(l, func(o api.Bind) bool { return o == b })
		holds(t, c, exchs, rest)
		binding(t, c, b.Exch, b.Queue, b.Key)
		holds(t, c, exchs, l)
	}
	for _, b := range l {
		if !r.Unbind(b) {
			t.Errorf("%q wasn't there", b)
		}
	}
	holds(t, r, exchs, nil)
}

// 16.1: all bindings of a queue go, of whatever exchange, and no others.
func TestFree(t *testing.T) {
	for _, queue := range []string{"", "p", "q", "x", "y", "amq.topic", "amq.direct", "a", "k", "none", "P", "q "} {
		r, exchs, l := several(t)
		rest, gone := without(l, func(b api.Bind) bool { return b.Queue == queue })
		if got := r.Free(queue); !slices.Equal(got, gone) {
			t.Errorf("%q: %q", queue, got)
		}
		holds(t, r, exchs, rest)
		if len(r.Free(queue)) != 0 {
			t.Errorf("%q: again", queue)
		}
		for _, b := range gone {
			if r.Unbind(b) {
				t.Errorf("%q: %q is still there", queue, b)
			}
		}
		leadsTo(t, r, "", queue, queue)
		holds(t, r, exchs, rest)
	}
}

// 16.1: rising is by Exch, then by Queue, then by Key, each by its bytes.
func TestRising(t *testing.T) {
	parts := []string{"\x00", "A", "a", "a\x00", "a.b", "aa", "aaa", "ab", "b", "ba", "\x7f", "\x80", "\xc3\xa4", "\xff", "\xff\x00"}
	if !slices.IsSorted(parts) {
		t.Fatal("not by bytes")
	}
	r := New()
	var l []api.Bind
	for _, x := range parts {
		if !r.Add(api.Exch{Name: x, Kind: 2}) {
			t.Errorf("%q", x)
		}
		for _, q := range parts {
			for _, k := range parts {
				l = append(l, bind(x, q, k))
			}
		}
	}
	for _, i := range rand.New(rand.NewSource(19)).Perm(len(l)) {
		r.Bind(l[i])
	}
	if got := r.Binds(); !slices.Equal(got, l) {
		t.Error("Binds")
	}
	for _, s := range parts {
		leadsTo(t, r, s, "z", parts...)
		c := r.Copy()
		rest, gone := without(l, func(b api.Bind) bool { return b.Exch == s })
		if got := c.Drop(s); !slices.Equal(got, gone) || !slices.Equal(c.Binds(), rest) {
			t.Errorf("%q: Drop", s)
		}
		c = r.Copy()
		rest, gone = without(l, func(b api.Bind) bool { return b.Queue == s })
		if got := c.Free(s); !slices.Equal(got, gone) || !slices.Equal(c.Binds(), rest) {
			t.Errorf("%q: Free", s)
		}
	}
}

// 16.2: the exchange without a name leads to the key itself, whether or not there is such a queue.
func TestRouteUnnamed(t *testing.T) {
	r, _, _ := several(t)
	for _, key := range []string{"", "q", "p", "none", "#", "*", "a.b", "\xff\x00", strings.Repeat("k", 100000)} {
		leadsTo(t, r, "", key, key)
	}
}

// 16.2: of XDirect just the same key, byte for byte, and * and # are nothing else there.
func TestRouteDirect(t *testing.T) {
	r := New()
	r.Add(api.Exch{Name: "d", Kind: 1})
	for _, x := range []string{"amq.direct", "d"} {
		for _, b := range [][2]string{{"q", "a"}, {"p", "a"}, {"p", "b"}, {"e", ""}, {"s", "*"}, {"h", "#"}, {"h", "a.#"}, {"z", "a.b"}, {"i", "\xff"}} {
			binding(t, r, x, b[0], b[1])
		}
		leadsTo(t, r, x, "a", "p", "q")
		leadsTo(t, r, x, "b", "p")
		leadsTo(t, r, x, "", "e")
		leadsTo(t, r, x, "*", "s")
		leadsTo(t, r, x, "#", "h")
		leadsTo(t, r, x, "a.#", "h")
		leadsTo(t, r, x, "a.b", "z")
		leadsTo(t, r, x, "\xff", "i")
		for _, key := range []string{"A", "aa", "a.", "a.c", ".", "q", "p", "c", "\xfe", "a\x00", "**"} {
			leadsTo(t, r, x, key)
		}
	}
}

// 16.2: of XFanout all, each once, whatever the keys.
func TestRouteFanout(t *testing.T) {
	r := New()
	r.Add(api.Exch{Name: "f", Kind: 2})
	for _, x := range []string{"amq.fanout", "f"} {
		leadsTo(t, r, x, "a")
		for _, b := range [][2]string{{"q", "a"}, {"p", "b"}, {"q", ""}, {"", "#"}, {"p", "*"}, {"q", "a.b"}} {
			binding(t, r, x, b[0], b[1])
		}
		for _, key := range []string{"", "a", "b", "#", "*", "a.b", "z", "\xff", strings.Repeat("k.", 100000)} {
			leadsTo(t, r, x, key, "", "p", "q")
		}
	}
}

// 16.2: of XTopic those whose pattern matches; the pattern is the binding's, not the message's.
func TestRouteTopic(t *testing.T) {
	r := New()
	r.Add(api.Exch{Name: "t", Kind: 3})
	for _, x := range []string{"amq.topic", "t"} {
		leadsTo(t, r, x, "a")
		for _, b := range [][2]string{{"all", "#"}, {"one", "*"}, {"two", "*.*"}, {"a", "a"}, {"a", "a.#"}, {"mid", "a.*.c"}, {"end", "#.c"}, {"none", ""}, {"ab", "a.b"}} {
			binding(t, r, x, b[0], b[1])
		}
		leadsTo(t, r, x, "", "all", "none", "one")
		leadsTo(t, r, x, "a", "a", "all", "one")
		leadsTo(t, r, x, "b", "all", "one")
		leadsTo(t, r, x, "c", "all", "end", "one")
		leadsTo(t, r, x, "a.b", "a", "ab", "all", "two")
		leadsTo(t, r, x, "a.c", "a", "all", "end", "two")
		leadsTo(t, r, x, "a.b.c", "a", "all", "end", "mid")
		leadsTo(t, r, x, "b.b.b", "all")
		leadsTo(t, r, x, ".", "all", "two")
		leadsTo(t, r, x, "#", "all", "one")
		leadsTo(t, r, x, "*", "all", "one")
		leadsTo(t, r, x, "a.#", "a", "all", "two")
		leadsTo(t, r, x, "a.*", "a", "all", "two")
	}
}

// 16.2: none of an exchange that is not there, none of the bindings of another one.
func TestRouteNone(t *testing.T) {
	r, _, _ := several(t)
	for _, x := range []string{"none", "p", "q", "amq", "amq.", "X", "x ", "amq.direct\x00", "\x00", " "} {
		for _, key := range []string{"", "a", "q", "x", "k"} {
			if got := r.Route(x, key); len(got) != 0 {
				t.Errorf("%q, %q: %q", x, key, got)
			}
		}
	}
	leadsTo(t, r, "amq.fanout", "a")
	leadsTo(t, r, "amq.direct", "a", "p", "q")
	leadsTo(t, r, "amq.topic", "a", "q", "x")
	leadsTo(t, r, "x", "a", "", "amq.topic", "p", "q", "x")
	leadsTo(t, r, "y", "a", "q")
	leadsTo(t, r, "y", "a.a", "p")
}

// 16.3, W1: each queue once, by however many bindings.
func TestOnce(t *testing.T) {
	for kind := 1; kind <= 3; kind++ {
		r := New()
		r.Add(api.Exch{Name: "x", Kind: kind})
		r.Add(api.Exch{Name: "w", Kind: kind})
		for i := range 300 {
			q := "q" + strconv.Itoa(i%7)
			for _, key := range []string{"#", "*", "a", "#.#", "*.#", "#.*", "a.#", "#.a", strings.Repeat("#.", i) + "a"} {
				r.Bind(bind("x", q, key))
				r.Bind(bind("w", q, key))
			}
		}
		leadsTo(t, r, "x", "a", "q0", "q1", "q2", "q3", "q4", "q5", "q6")
		leadsTo(t, r, "w", "a", "q0", "q1", "q2", "q3", "q4", "q5", "q6")
		for _, b := range r.Binds() {
			r.Unbind(b)
			if slices.Contains(r.Route(b.Exch, "a"), b.Queue) != slices.ContainsFunc(r.Binds(), func(o api.Bind) bool {
				return o.Exch == b.Exch && o.Queue == b.Queue && (kind == 2 || o.Key == "a" || kind == 3)
			}) {
				t.Fatalf("%d: behind %q", kind, b)
			}
		}
		leadsTo(t, r, "x", "a")
	}
}

// A Copy is as it was, and both go on apart.
func TestCopy(t *testing.T) {
	r, exchs, l := several(t)
	c := r.Copy()
	holds(t, c, exchs, l)
	for _, change := range []func(*Rout){
		func(r *Rout) { r.Add(api.Exch{Name: "z", Kind: 1}) },
		func(r *Rout) { r.Drop("x") },
		func(r *Rout) { r.Drop("amq.fanout") },
		func(r *Rout) { r.Bind(bind("amq.fanout", "q", "z")) },
		func(r *Rout) { r.Unbind(l[0]) },
		func(r *Rout) { r.Free("q") },
		func(r *Rout) { r.Drop("y"); r.Add(api.Exch{Name: "y", Kind: 1}); r.Bind(bind("y", "q", "a")) },
	} {
		changed, kept := c.Copy(), c.Copy()
		change(changed)
		holds(t, c, exchs, l)
		holds(t, kept, exchs, l)
		if slices.Equal(changed.Binds(), l) && len(changed.Names()) == len(exchs) {
			t.Error("the copy isn't changed")
		}
		source := c.Copy()
		kept = source.Copy()
		change(source)
		holds(t, kept, exchs, l)
		if !slices.Equal(source.Binds(), changed.Binds()) || !slices.Equal(source.Names(), changed.Names()) {
			t.Error("a copy doesn't do likewise")
		}
	}
	holds(t, New().Copy(), standing(), nil)
}

// Rules 3 and 8: what is answered is new memory, its spare room too, and what asks changes nothing.
func TestAnswered(t *testing.T) {
	r, exchs, l := several(t)
	for _, ask := range []func() []string{r.Names, func() []string { return r.Route("x", "a") }, func() []string { return r.Route("", "q") }, func() []string { return r.Route("amq.topic", "a") }} {
		one, two := ask(), ask()
		was := slices.Clone(two)
		spoil(one)
		if !slices.Equal(two, was) || !slices.Equal(ask(), was) {
			t.Errorf("%q", was)
		}
	}
	for _, ask := range []func() []api.Bind{r.Binds, func() []api.Bind { return r.Copy().Drop("x") }, func() []api.Bind { return r.Copy().Free("q") }} {
		one, two := ask(), ask()
		was := slices.Clone(two)
		spoil(one)
		if !slices.Equal(two, was) || !slices.Equal(ask(), was) {
			t.Errorf("%q", was)
		}
	}
	holds(t, r, exchs, l)
}

// spoil overwrites a list and its spare room.
func spoil[T any](l []T) {
	clear(l[:cap(l)])
	clear(append(l, make([]T, 3)...))
}

// W1, rule 6: what is answered hangs on what is there, not on the order in which it came, nor on what was there ahead.
func TestAnyOrder(t *testing.T) {
	first, exchs, l := several(t)
	rnd := rand.New(rand.NewSource(20))
	for range 50 {
		r := New()
		for _, i := range rnd.Perm(2) {
			r.Add(exchs[4+i])
		}
		for _, i := range rnd.Perm(len(l)) {
			r.Bind(bind("x", l[i].Queue, "gone"))
			r.Bind(l[i])
		}
		for _, b := range r.Binds() {
			if b.Key == "gone" {
				r.Unbind(b)
			}
		}
		holds(t, r, exchs, l)
		for _, x := range exchs {
			for _, key := range []string{"", "a", "b", "x", "a.a"} {
				leadsTo(t, r, x.Name, key, first.Route(x.Name, key)...)
			}
		}
		for _, q := range []string{"p", "q", "x"} {
			if !slices.Equal(r.Copy().Free(q), first.Copy().Free(q)) {
				t.Errorf("%q", q)
			}
		}
	}
}

// Rule 6: what only asks may be asked from several sides at once.
func TestAsksAlone(t *testing.T) {
	r, exchs, l := several(t)
	var w sync.WaitGroup
	for range 8 {
		w.Go(func() {
			for range 50 {
				holds(t, r, exchs, l)
				holds(t, r.Copy(), exchs, l)
				leadsTo(t, r, "amq.direct", "a", "p", "q")
			}
		})
	}
	w.Wait()
}

// Great numbers of exchanges, queues and bindings.
func TestMany(t *testing.T) {
	r := New()
	const n = 40000
	for i := range n {
		q := strconv.Itoa(i % 1000)
		if !r.Bind(bind("amq.direct", q, strconv.Itoa(i))) || !r.Add(api.Exch{Name: "x" + strconv.Itoa(i), Kind: 2}) || !r.Bind(bind("x"+strconv.Itoa(i), q, "k")) {
			t.Fatal(i)
		}
	}
	if len(r.Binds()) != 2*n || len(r.Names()) != n+4 || !slices.IsSorted(r.Names()) || !slices.IsSortedFunc(r.Binds(), plainOrder) {
		t.Error("not all, or not rising")
	}
	leadsTo(t, r, "amq.direct", "39999", "999")
	leadsTo(t, r, "x39999", "", "999")
	if got := r.Free("999"); len(got) != 2*n/1000 || !slices.IsSortedFunc(got, plainOrder) {
		t.Errorf("%d", len(got))
	}
	leadsTo(t, r, "x39999", "")
	if got := r.Drop("amq.direct"); len(got) != n-n/1000 || !slices.IsSortedFunc(got, plainOrder) {
		t.Errorf("%d", len(got))
	}
}

// 16.4: no call panics, in whatever order, whatever it is given.
func TestNoPanic(t *testing.T) {
	odd := []string{"", ".", "#", "*", "amq.direct", "amq.topic", "\x00", "\xff", strings.Repeat("#.", 2000), strings.Repeat(".", 2000)}
	for _, a := range odd {
		r := New()
		for _, b := range odd {
			r.Add(api.Exch{Name: b, Kind: 3})
			for _, c := range odd {
				r.Bind(bind(a, b, c))
				r.Bind(bind("amq.topic", b, c))
				r.Route(a, b)
				r.Unbind(bind(b, a, c))
			}
		}
		c := r.Copy()
		for _, b := range odd {
			r.Route("amq.topic", b)
			c.Free(b)
			r.Drop(b)
			r.Drop(b)
			r.Free(b)
			r.Get(b)
			r.Route(b, a)
		}
		if len(r.Names()) != 1 || len(r.Binds()) != 0 || len(c.Binds()) != 0 {
			t.Errorf("%q, %q, %q", r.Names(), r.Binds(), c.Binds())
		}
	}
}

// plainOrder holds bindings against each other byte for byte.
func plainOrder(a, b api.Bind) int {
	for _, s := range [][2]string{{a.Exch, b.Exch}, {a.Queue, b.Queue}, {a.Key, b.Key}} {
		for i := 0; i < len(s[0]) && i < len(s[1]); i++ {
			if d := int(s[0][i]) - int(s[1][i]); d != 0 {
				return d
			}
		}
		if d := len(s[0]) - len(s[1]); d != 0 {
			return d
		}
	}
	return 0
}

// plainMatch reads a pattern beside a key as 6.1 says it, word for word.
func plainMatch(p, k []string) bool {
	if len(p) == 0 {
		return len(k) == 0
	}
	if p[0] == "#" {
		return plainMatch(p[1:], k) || len(k) > 0 && plainMatch(p, k[1:])
	}
	return len(k) > 0 && (p[0] == "*" || p[0] == k[0]) && plainMatch(p[1:], k[1:])
}

// plain is a Rout as the chapter says it: lists, always rising, looked through from the beginning.
type plain struct {
	exchs []api.Exch
	binds []api.Bind
}

func (p *plain) exch(name string) int {
	return slices.IndexFunc(p.exchs, func(x api.Exch) bool { return x.Name == name })
}

func (p *plain) add(x api.Exch) bool {
	if x.Kind != 1 && x.Kind != 2 && x.Kind != 3 || p.exch(x.Name) >= 0 {
		return false
	}
	i := 0
	for i < len(p.exchs) && p.exchs[i].Name < x.Name {
		i++
	}
	p.exchs = slices.Insert(p.exchs, i, x)
	return true
}

func (p *plain) bind(b api.Bind) bool {
	if b.Exch == "" || p.exch(b.Exch) < 0 || slices.Contains(p.binds, b) {
		return false
	}
	i := 0
	for i < len(p.binds) && plainOrder(p.binds[i], b) < 0 {
		i++
	}
	p.binds = slices.Insert(p.binds, i, b)
	return true
}

func (p *plain) unbind(b api.Bind) bool {
	rest, gone := without(p.binds, func(o api.Bind) bool { return o == b })
	p.binds = rest
	return len(gone) > 0
}

func (p *plain) drop(name string) []api.Bind {
	if i := p.exch(name); i >= 0 {
		p.exchs = slices.Delete(p.exchs, i, i+1)
	}
	rest, gone := without(p.binds, func(o api.Bind) bool { return o.Exch == name })
	p.binds = rest
	return gone
}

func (p *plain) free(queue string) []api.Bind {
	rest, gone := without(p.binds, func(o api.Bind) bool { return o.Queue == queue })
	p.binds = rest
	return gone
}

func (p *plain) route(exch, key string) []string {
	i := p.exch(exch)
	if i < 0 {
		return nil
	}
	if exch == "" {
		return []string{key}
	}
	met := map[string]bool{}
	for _, b := range p.binds {
		if b.Exch == exch && (p.exchs[i].Kind == 2 || b.Key == key || p.exchs[i].Kind == 3 && plainMatch(strings.Split(b.Key, "."), strings.Split(key, "."))) {
			met[b.Queue] = true
		}
	}
	var l []string
	for q := range met {
		l = append(l, q)
	}
	slices.Sort(l)
	return l
}

func (p *plain) copy() *plain {
	return &plain{slices.Clone(p.exchs), slices.Clone(p.binds)}
}

// pair is a Rout and what it should be.
type pair struct {
	r *Rout
	p *plain
}

// script does calls, as its octets tell, on Routs and what they should be, and holds all that is answered against each other.
type script struct {
	t    *testing.T
	b    []byte
	l    []pair
	long int
}

// next is the script's next octet, 0 behind its end.
func (s *script) next() int {
	if len(s.b) == 0 {
		return 0
	}
	n := int(s.b[0])
	s.b = s.b[1:]
	return n
}

// text is one of a few texts, or one of any octets.
func (s *script) text(few ...string) string {
	if n := s.next() % (len(few) + 1); n < len(few) {
		return few[n]
	}
	n := min(s.next()%6, len(s.b))
	text := string(s.b[:n])
	s.b = s.b[n:]
	return text
}

// exch, queue and key are names and keys that often meet.
func (s *script) exch() string {
	return s.text("", "amq.direct", "amq.fanout", "amq.topic", "x", "y", "z")
}

func (s *script) queue() string { return s.text("q", "p", "", "x", "amq.topic") }

func (s *script) key() string { return s.text("a", "a.b", "#", "*", "a.#", "*.b", "", "#.b.#", "q") }

func (s *script) same(what string, got, want any, same bool) {
	s.t.Helper()
	if !same {
		s.t.Fatalf("call %d, %s: %#v, not %#v", s.long, what, got, want)
	}
}

// step does one call.
func (s *script) step() {
	s.long++
	n := s.next()
	h := s.l[n/16%len(s.l)]
	switch n % 16 {
	case 0, 1:
		x := api.Exch{Name: s.exch(), Kind: s.next()%6 - 1, Lasts: s.next()%2 == 1}
		got, want := h.r.Add(x), h.p.add(x)
		s.same("Add", got, want, got == want)
	case 2:
		name := s.exch()
		got, want := h.r.Drop(name), h.p.drop(name)
		s.same("Drop", got, want, slices.Equal(got, want))
		spoil(got)
	case 3, 4, 5, 6, 7, 8:
		b := bind(s.exch(), s.queue(), s.key())
		got, want := h.r.Bind(b), h.p.bind(b)
		s.same("Bind", got, want, got == want)
	case 9:
		b := bind(s.exch(), s.queue(), s.key())
		got, want := h.r.Unbind(b), h.p.unbind(b)
		s.same("Unbind", got, want, got == want)
	case 10:
		queue := s.queue()
		got, want := h.r.Free(queue), h.p.free(queue)
		s.same("Free", got, want, slices.Equal(got, want))
		spoil(got)
	case 11, 12, 13:
		exch, key := s.exch(), s.key()
		got, want := h.r.Route(exch, key), h.p.route(exch, key)
		s.same("Route", got, want, slices.Equal(got, want))
		spoil(got)
	case 14:
		c := pair{h.r.Copy(), h.p.copy()}
		if len(s.l) < 3 {
			s.l = append(s.l, c)
		} else {
			s.l[s.next()%3] = c
		}
	}
}

// whole holds all of a pair against each other.
func (s *script) whole(h pair) {
	s.t.Helper()
	binds := h.r.Binds()
	s.same("Binds", binds, h.p.binds, slices.Equal(binds, h.p.binds))
	spoil(binds)
	var names []string
	for _, x := range h.p.exchs {
		names = append(names, x.Name)
		got, ok := h.r.Get(x.Name)
		s.same("Get", got, x, got == x && ok)
		for _, key := range []string{"", "a", "a.b", "#", "b"} {
			got, want := h.r.Route(x.Name, key), h.p.route(x.Name, key)
			s.same("Route", got, want, slices.Equal(got, want))
		}
	}
	got := h.r.Names()
	s.same("Names", got, names, slices.Equal(got, names))
	spoil(got)
	for _, name := range []string{"", "amq.direct", "amq.fanout", "amq.topic", "x", "y", "z", "none"} {
		if h.p.exch(name) < 0 {
			x, ok := h.r.Get(name)
			s.same("Get", x, api.Exch{}, x == api.Exch{} && !ok)
		}
	}
}

// run does a script to its end.
func run(t *testing.T, b []byte) {
	s := &script{t: t, b: b, l: []pair{{New(), &plain{exchs: standing()}}}}
	for len(s.b) > 0 {
		s.step()
		if s.long%20 == 0 {
			for _, h := range s.l {
				s.whole(h)
			}
		}
	}
	for _, h := range s.l {
		s.whole(h)
	}
}

// 16.1 to 16.4: long rows of calls, right and wrong, held against a plain Rout.
func TestCalls(t *testing.T) {
	rnd := rand.New(rand.NewSource(21))
	for range 1000 {
		b := make([]byte, rnd.Intn(3000))
		rnd.Read(b)
		run(t, b)
	}
}

// 16.1 to 16.4: any row of calls.
func FuzzCalls(f *testing.F) {
	f.Add([]byte{})
	f.Add([]byte{0, 4, 3, 1, 3, 4, 0, 0, 3, 4, 1, 2, 14, 27, 4, 0, 11, 4, 1, 2, 4})
	f.Add([]byte{3, 3, 0, 4, 3, 3, 0, 2, 11, 3, 1, 10, 0, 11, 3, 0, 9, 3, 0, 2})
	f.Fuzz(func(t *testing.T, b []byte) {
		if len(b) < 1<<14 {
			run(t, b)
		}
	})
}
