package tree

import (
	"slices"

	"waybill/api"
)

// least is the least key that there can be.
const least = "\x00"

// span is where keys may lie: from low on, and below high, if it isn't empty.
type span struct{ low, high string }

// whole is where all keys lie.
func whole() span {
	return span{low: least}
}

// has tells whether a key lies in s.
func (s span) has(key string) bool {
	return key >= s.low && (s.high == "" || key < s.high)
}

// below tells where the keys below row i of a node lie, whose own keys lie in s.
func (s span) below(rows []api.Row, i int) span {
	s.low = max(s.low, rows[i].Key)
	if i+1 < len(rows) && (s.high == "" || rows[i+1].Key < s.high) {
		s.high = rows[i+1].Key
	}
	return s
}

// trim parts the rows of a node whose keys lie in s: in those that may have keys below them, the first of which then begins where s does, and the others. Those others only a tree that was made by hand has, with empty leaves below them; but beside rows of another node they might not rise.
func (s span) trim(rows []api.Row) (in, out []api.Row) {
	from, to := 0, len(rows)
	for from+1 < to && rows[from+1].Key <= s.low {
		from++
	}
	for from+1 < to && s.high != "" && rows[to-1].Key >= s.high {
		to--
	}
	in, out = slices.Clone(rows[from:to]), slices.Concat(rows[:from], rows[to:])
	in[0].Key = s.low
	return in, out
}

// look is what was found of a tree that is read whole.
type look struct {
	t *Tree
	// met has the pages, count and high tell how many keys and rows of nodes there are.
	met         map[int]struct{}
	count, high int
	// wrong tells that it is no tree. The rest is read nevertheless: a page that can't be read is told ahead of all else.
	wrong bool
}

// at reads what is from page id down, which is so deep, and whose keys should lie in s.
func (l *look) at(id, deep int, s span) api.Errno {
	if _, ok := l.met[id]; ok {
		l.wrong = true
		return api.OK
	}
	n, e := l.t.node(id)
	if e == api.ErrTree {
		l.wrong = true
		return api.OK
	}
	if e != api.OK {
		return e
	}
	l.met[id] = struct{}{}
	if n.Leaf {
		l.leaf(n.Rows, deep, s)
		return api.OK
	}
	for i, r := range n.Rows {
		if e := l.at(r.Page, deep+1, s.below(n.Rows, i)); e != api.OK {
			return e
		}
	}
	return api.OK
}

// leaf looks at the rows of a leaf. That they lie in their span tells that they rise through all leaves, too.
func (l *look) leaf(rows []api.Row, deep int, s span) {
	if l.high == 0 {
		l.high = deep
	}
	if deep != l.high {
		l.wrong = true
	}
	for _, r := range rows {
		if !s.has(r.Key) {
			l.wrong = true
		}
	}
	l.count += len(rows)
}
