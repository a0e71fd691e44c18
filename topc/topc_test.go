package topc

import (
	"slices"
	"strings"
	"testing"
)

// plain tells from the last words on, for each rest of p and each rest of k, whether they match, as 6.1 says it.
func plain(p, k []string) bool {
	next := make([]bool, len(k)+1)
	next[len(k)] = true
	for i := len(p) - 1; i >= 0; i-- {
		now := make([]bool, len(k)+1)
		for j := len(k); j >= 0; j-- {
			switch {
			case p[i] == "#":
				now[j] = next[j] || j < len(k) && now[j+1]
			case j < len(k) && (p[i] == "*" || p[i] == k[j]):
				now[j] = next[j+1]
			}
		}
		next = now
	}
	return next[0]
}

// lists are all lists of 1 to n words of those given.
func lists(n int, words ...string) [][]string {
	var all, last [][]string
	last = [][]string{nil}
	for range n {
		var longer [][]string
		for _, l := range last {
			for _, w := range words {
				longer = append(longer, append(slices.Clone(l), w))
			}
		}
		all = append(all, longer...)
		last = longer
	}
	return all
}

// cut is s's words, found octet for octet.
func cut(s string) []string {
	words := []string{""}
	for i := range len(s) {
		if s[i] == '.' {
			words = append(words, "")
		} else {
			words[len(words)-1] += s[i : i+1]
		}
	}
	return words
}

// 6.1: what stands between points, ordinary and empty, of any octets.
func TestWords(t *testing.T) {
	for _, c := range []struct {
		s    string
		want []string
	}{
		{"", []string{""}},
		{"a", []string{"a"}},
		{"abc", []string{"abc"}},
		{"a.b", []string{"a", "b"}},
		{"a.b.cd", []string{"a", "b", "cd"}},
		{".", []string{"", ""}},
		{"..", []string{"", "", ""}},
		{".a", []string{"", "a"}},
		{"a.", []string{"a", ""}},
		{"a..b", []string{"a", "", "b"}},
		{".a..b.", []string{"", "a", "", "b", ""}},
		{"*.#.a*.#a", []string{"*", "#", "a*", "#a"}},
		{" a .b ", []string{" a ", "b "}},
		{"a,b/c:d", []string{"a,b/c:d"}},
		{"\x00.\xff\xfe.\n", []string{"\x00", "\xff\xfe", "\n"}},
		{"\xe3\x80\x82.\xc2\xb7", []string{"\xe3\x80\x82", "\xc2\xb7"}},
	} {
		if got := Words(c.s); !slices.Equal(got, c.want) {
			t.Errorf("%q: %q", c.s, got)
		}
	}
	for _, l := range lists(4, "", "a", "bc", "*", "#") {
		if got := Words(strings.Join(l, ".")); !slices.Equal(got, l) {
			t.Errorf("%q: %q", l, got)
		}
	}
}

// 6.1: just the point stands between words.
func TestPoint(t *testing.T) {
	for c := range 256 {
		s := "a" + string([]byte{byte(c)}) + "b"
		want := []string{s}
		if c == '.' {
			want = []string{"a", "b"}
		}
		if got := Words(s); !slices.Equal(got, want) {
			t.Errorf("%q: %q", s, got)
		}
	}
}

// 6.1: ordinary patterns, the edges, and words that only look like * and #.
func TestMatch(t *testing.T) {
	for _, c := range []struct {
		pattern string
		yes, no []string
	}{
		{"", []string{""}, []string{"a", ".", "*", "#", " "}},
		{"a", []string{"a"}, []string{"", "b", "aa", "A", "a.", ".a", "a.a", "*", "#"}},
		{"ab", []string{"ab"}, []string{"a", "b", "abc", "a.b"}},
		{"a.b", []string{"a.b"}, []string{"a", "b", "a.c", "b.a", "a..b", "a.b.", ".a.b", "ab", "a.b.b"}},
		{"*", []string{"", "a", "abc", "*", "#"}, []string{".", "a.b", "a.", ".a"}},
		{"*.*", []string{".", "a.b", "a.", ".b"}, []string{"", "a", "..", "a.b.c"}},
		{"a.*", []string{"a.b", "a.", "a.*"}, []string{"a", "b.a", "a.b.c", "a..", "."}},
		{"*.a", []string{"a.a", ".a", "b.a"}, []string{"a", "a.b", "b.b.a", "..a"}},
		{"a.*.c", []string{"a.b.c", "a..c", "a.*.c"}, []string{"a.c", "a.b.b.c", "a.b.d", "b.b.c"}},
		{"#", []string{"", "a", ".", "a.b", "..", "a.b.c.d", "#", "*"}, nil},
		{"a.#", []string{"a", "a.", "a.b", "a.b.c", "a.a", "a..", "a.#"}, []string{"", "b", "b.a", "ab", ".a", "aa.b"}},
		{"#.a", []string{"a", ".a", "b.a", "a.a", "c.b.a"}, []string{"", "b", "a.b", "a.", "ba", "b.aa"}},
		{"a.#.b", []string{"a.b", "a..b", "a.c.b", "a.b.b", "a.a.b", "a.b.a.b"}, []string{"", "a", "b", "b.a", "a.b.a", "ab", "c.a.b"}},
		{"#.a.#", []string{"a", "b.a", "a.b", "b.a.b", "a.a.a", ".a."}, []string{"", "b", "b.b", "aa", "b.aa.b"}},
		{"#.a.b", []string{"a.b", "a.a.b", "a.b.a.b", "b.a.b"}, []string{"a.b.a", "a", "b", "a.b.b"}},
		{"#.a.b.#", []string{"a.b", "a.a.b.b", "c.a.c.a.b"}, []string{"a.c.b", "b.a", "a.a", "b.b.a"}},
		{"#.a.#.b", []string{"a.b", "a.c.b", "b.a.a.b", "a.b.b"}, []string{"b.a", "a.b.a", "b", "a"}},
		{"#.#", []string{"", "a", "a.b", "."}, nil},
		{"#.#.#.a.#.#", []string{"a", "b.a", "a.b", "a.a"}, []string{"", "b", "b.b"}},
		{"*.#", []string{"", "a", "a.b", ".", "a.b.c"}, nil},
		{"#.*", []string{"", "a", "a.b", ".", "a.b.c"}, nil},
		{"*.#.*", []string{".", "a.b", "a.b.c", "..", "a.b.c.d"}, []string{"", "a"}},
		{"#.*.#.*.#", []string{".", "a.b", "a.b.c"}, []string{"", "a"}},
		{"#.*.a", []string{".a", "b.a", "a.a", "c.b.a"}, []string{"a", "", "a.b", "a.b.b"}},
		{"a.#.*", []string{"a.", "a.b", "a.b.c"}, []string{"a", "b.b", ""}},
		{"#.", []string{"", ".", "a.", "a.b."}, []string{"a", "a.b", ".a"}},
		{".#", []string{"", ".", ".a", ".a.b"}, []string{"a", "a.b", "a."}},
		{"..", []string{".."}, []string{"", ".", "...", "a..", "..a"}},
		{"a*", []string{"a*"}, []string{"a", "ab", "a.b", "a#"}},
		{"*a", []string{"*a"}, []string{"a", "ba", "b.a"}},
		{"**", []string{"**"}, []string{"", "a", "ab", "*", "a.b", "*.*"}},
		{"a#", []string{"a#"}, []string{"a", "ab", "a.b", "a*"}},
		{"#a", []string{"#a"}, []string{"a", "ba", "b.a"}},
		{"##", []string{"##"}, []string{"", "a", "#", "a.b", "#.#"}},
		{"*#", []string{"*#"}, []string{"", "a", "a.b"}},
		{" *", []string{" *"}, []string{" a", "a", " "}},
		{"?", []string{"?"}, []string{"a", ""}},
		{"[ab].\\*", []string{"[ab].\\*"}, []string{"a.*", "a.b"}},
		{"\xff.*.\x00", []string{"\xff.\xfe.\x00", "\xff..\x00"}, []string{"\xfe.\xfe.\x00", "\xff.\x00"}},
		{"\xc3\xa4", []string{"\xc3\xa4"}, []string{"\xc3\x84", "a", "\xc3"}},
	} {
		for _, key := range c.yes {
			if !Match(c.pattern, key) {
				t.Errorf("%q doesn't match %q", c.pattern, key)
			}
		}
		for _, key := range c.no {
			if Match(c.pattern, key) {
				t.Errorf("%q matches %q", c.pattern, key)
			}
		}
	}
}

// 6.1: a key's own * and # stand for nothing but themselves.
func TestKeyIsNoPattern(t *testing.T) {
	for _, key := range []string{"*", "#"} {
		for _, pattern := range []string{"a", "", "ab", "a.b", "*a", "a#"} {
			if Match(pattern, key) {
				t.Errorf("%q matches %q", pattern, key)
			}
		}
		if !Match(key, key) || !Match("a."+key+".b", "a."+key+".b") {
			t.Errorf("%q doesn't match itself", key)
		}
	}
	if Match("*", "a.#") || Match("a.b", "a.#") || Match("a", "a.#") || !Match("a.*", "a.#") {
		t.Error("a key's # is one word")
	}
}

// all holds Match of each pattern beside each key against plain, and 6.2, asking twice, since an answer hangs on nothing else (rule 6).
func all(t *testing.T, patterns, keys [][]string) {
	t.Helper()
	var texts []string
	for _, k := range keys {
		texts = append(texts, strings.Join(k, "."))
	}
	for _, p := range patterns {
		pattern, fixed := strings.Join(p, "."), !slices.Contains(p, "#")
		for i, k := range keys {
			got := Match(pattern, texts[i])
			if got != plain(p, k) || got != Match(pattern, texts[i]) {
				t.Fatalf("%q, %q: %v", pattern, texts[i], got)
			}
			if got && fixed && len(p) != len(k) {
				t.Fatalf("%q matches %q, of other words", pattern, texts[i])
			}
		}
	}
}

// 6.1 and 6.2: all short patterns beside all short keys.
func TestAll(t *testing.T) {
	all(t, lists(4, "", "a", "b", "*", "#"), lists(4, "", "a", "b", "*", "#"))
	all(t, lists(7, "a", "b", "#"), lists(7, "a", "b"))
	all(t, lists(5, "a", "a*", "#a", "*", "#"), lists(4, "a", "a*", "#a"))
}

// 6.2: what a pattern without # matches has as many words, in great numbers too.
func TestAsManyWords(t *testing.T) {
	for _, n := range []int{1, 2, 3, 60, 255, 5000} {
		stars := strings.Repeat("*.", n-1) + "*"
		for _, m := range []int{1, 2, 3, 59, 60, 61, 254, 255, 256, 4999, 5000, 5001} {
			for _, w := range []string{"", "a", "*", "#"} {
				if got := Match(stars, strings.Repeat(w+".", m-1)+w); got != (m == n) {
					t.Errorf("%d stars, %d of %q: %v", n, m, w, got)
				}
			}
		}
	}
}

// 6.1: the word # is any number of words, in great numbers too, and words around it are not taken twice.
func TestManyWords(t *testing.T) {
	for _, n := range []int{0, 1, 2, 3, 60, 255, 256, 70000} {
		b := strings.Repeat("b.", n)
		if !Match("a.#.c", "a."+b+"c") || !Match("#.c", b+"c") || Match("a.#.c", "a."+b+"d") || Match("a.#.c", "d."+b+"c") {
			t.Errorf("%d words", n)
		}
		if got := Match("#.b.b.#.b.b.#", b+"c"); got != (n >= 4) {
			t.Errorf("%d words for four: %v", n, got)
		}
	}
}

// 6.3: patterns that could be tried in very many ways end in steps of both numbers of words.
func TestEnds(t *testing.T) {
	a := strings.Repeat("a.", 3000)
	for _, c := range []struct {
		name, pattern, key string
		want               bool
	}{
		{"# and a word by turns, no", strings.Repeat("#.a.", 1000) + "b", a + "c", false},
		{"# and a word by turns, yes", strings.Repeat("#.a.", 1000) + "b", a + "b", true},
		{"# and a word by turns, one word short", strings.Repeat("#.a.", 3001) + "#", a + "a.b", true},
		{"# and a word by turns, too many", strings.Repeat("#.a.", 3002) + "#", a + "a.b", false},
		{"# and * by turns, no", strings.Repeat("#.*.", 1000) + "b", a + "c", false},
		{"# and * by turns, yes", strings.Repeat("#.*.", 1000) + "b", a + "b", true},
		{"# behind #, no", strings.Repeat("#.", 5000) + "b", a + "c", false},
		{"# behind #, yes", strings.Repeat("#.", 5000) + "b", a + "b", true},
		{"* and # behind each other", strings.Repeat("*.", 3001) + strings.Repeat("#.", 3000) + "#", a + "a", true},
		{"* and # behind each other, too many", strings.Repeat("*.", 3002) + strings.Repeat("#.", 3000) + "#", a + "a", false},
		{"words behind one #, no", "#." + strings.Repeat("a.", 1500) + "b", a + "c", false},
		{"words behind one #, yes", "#." + strings.Repeat("a.", 1500) + "b", a + "b", true},
		{"words between two #", "#." + strings.Repeat("a.", 1500) + "b.#", a + "b." + a + "b." + a, true},
		{"empty words", strings.Repeat("#..", 1000) + "b", strings.Repeat(".", 3000), false},
	} {
		if got := Match(c.pattern, c.key); got != c.want {
			t.Errorf("%s: %v", c.name, got)
		}
	}
}

// 6.3: nothing panics, however long.
func TestNoPanic(t *testing.T) {
	odd := []string{"", ".", "#", "*", "#.", "*.", ".#", ".*", "...", "\xff", "\x00", strings.Repeat(".", 100000), strings.Repeat("x", 100000), strings.Repeat("#", 100000), strings.Repeat("*", 100000)}
	for _, p := range odd {
		if n := len(Words(p)); n != strings.Count(p, ".")+1 {
			t.Errorf("%d octets: %d words", len(p), n)
		}
		for _, k := range odd {
			Match(p, k)
		}
		if !Match(p, p) || !Match("#", p) {
			t.Errorf("%d octets: not itself", len(p))
		}
	}
}

// Rule 3: what is answered is new memory, its spare room too.
func TestAnswered(t *testing.T) {
	s := "a.b..c"
	one, two := Words(s), Words(s)
	clear(one)
	one = append(one, "x")
	two = append(two, "y")
	if one[4] != "x" || two[4] != "y" || !slices.Equal(two[:4], []string{"a", "b", "", "c"}) {
		t.Errorf("%q, %q", one, two)
	}
	if s != "a.b..c" || !slices.Equal(Words(s), []string{"a", "b", "", "c"}) {
		t.Errorf("%q, %q", s, Words(s))
	}
	none := Words("")
	none[0] = "x"
	if got := Words(""); !slices.Equal(got, []string{""}) {
		t.Errorf("%q", got)
	}
}

// W1 leans on this: a pattern that matches in several ways tells one yes, and the same each time, whatever was asked ahead.
func TestOneAnswer(t *testing.T) {
	for range 3 {
		if !Match("#.#.a.#.#", "a.a.a") || Match("#.#.a.#.#", "b.b.b") || !Match("#.*.#", "a.b") || Match("a.*", "a") {
			t.Error("another answer")
		}
	}
}

// 6.1 to 6.3: any words are those that octet for octet are found, any pattern matches what plain says.
func FuzzMatch(f *testing.F) {
	for _, p := range []string{"", "a", "a.#", "#.a", "a.#.b", "*", "*.#.*", "#.b.#.b.#", "..", "a*.#a", "#.#"} {
		for _, k := range []string{"", "a", "a.b", "b.a.b", "..", "a*.#a", "#", "\xff.\x00"} {
			f.Add(p, k)
		}
	}
	f.Fuzz(func(t *testing.T, pattern, key string) {
		if len(pattern)*len(key) > 1<<20 {
			return
		}
		p, k := cut(pattern), cut(key)
		if got := Words(pattern); !slices.Equal(got, p) {
			t.Fatalf("%q: %q", pattern, got)
		}
		if got := Words(key); !slices.Equal(got, k) {
			t.Fatalf("%q: %q", key, got)
		}
		got := Match(pattern, key)
		if got != plain(p, k) {
			t.Fatalf("%q, %q: %v", pattern, key, got)
		}
		if got && !slices.Contains(p, "#") && len(p) != len(k) {
			t.Fatalf("%q matches %q, of other words", pattern, key)
		}
	})
}
