package base

import (
	"slices"
	"strings"

	"waybill/api"
	"waybill/page"
	"waybill/sect"
	"waybill/tree"
)

// indexName is the name of the file that has the index.
const indexName = "p"

// openIndex tells the index that a device has; false, if it isn't what a Check left behind one of the living batches.
func openIndex(x *sect.Dev, l []api.Batch) (*tree.Tree, bool) {
	// It would be made, if it weren't there.
	if !slices.Contains(x.Names(), indexName) {
		return nil, false
	}
	f, e := page.Open(x)
	if e != api.OK {
		return nil, false
	}
	t, e := tree.Open(f)
	if e != api.OK {
		return nil, false
	}
	done, ok := upTo(l, f.Meta().Mark)
	if !ok {
		return nil, false
	}
	m, ok := replay(done)
	if !ok || !m.laid(t) {
		return nil, false
	}
	return t, true
}

// upTo tells the living batches up to the one of a Seq; of 0 none, where a Check may have been ahead of them all.
func upTo(l []api.Batch, seq uint64) ([]api.Batch, bool) {
	if seq == 0 {
		return nil, len(l) == 0 || l[0].Seq == 1
	}
	i := slices.IndexFunc(l, func(b api.Batch) bool { return b.Seq == seq })
	return l[:i+1], i >= 0
}

// newIndex makes a device nothing but an empty index.
func newIndex(x *sect.Dev) (*tree.Tree, api.Errno) {
	for _, name := range x.Names() {
		// It fails only for want of power, and then page.Open does too.
		x.Drop(name)
	}
	f, e := page.Open(x)
	if e != api.OK {
		return nil, e
	}
	return tree.Open(f)
}

// laid tells whether an index is just that of the map.
func (m texts) laid(t *tree.Tree) bool {
	rows, e := t.Rows("", t.Count())
	if e != api.OK || len(rows) != len(m) {
		return false
	}
	for k, v := range m {
		if !has(rows, k, v) {
			return false
		}
	}
	return true
}

// lay makes an index that of the map. What it has already stays, so that few pages are made.
func (m texts) lay(t *tree.Tree) api.Errno {
	rows, e := t.Rows("", t.Count())
	if e != api.OK {
		return e
	}
	for _, r := range rows {
		if _, ok := m[r.Key]; ok {
			continue
		}
		if _, e := t.Delete(r.Key); e != api.OK {
			return e
		}
	}
	for _, k := range m.keys("") {
		if has(rows, k, m[k]) {
			continue
		}
		if e := t.Put(k, m[k].row()); e != api.OK {
			return e
		}
	}
	return api.OK
}

// has tells whether rows, which rise, have a key with a value.
func has(rows []api.Row, key string, v value) bool {
	i, ok := slices.BinarySearchFunc(rows, key, func(r api.Row, key string) int { return strings.Compare(r.Key, key) })
	return ok && rows[i].Val == v.row()
}
