package audit

import (
	"slices"

	"waybill/api"
	"waybill/octs"
	"waybill/page"
	"waybill/sect"
	"waybill/tree"
)

const (
	// indexName is the name of the file that has the index.
	indexName = "p"
	// numberSize is how many octets each number has in a row of the index.
	numberSize = 4
)

// spot is where a batch lies: its file, and its first sector there.
type spot struct{ file, at int }

// open opens the index of a copy of x: what opens makes the file last, and needs power for it, but x is only looked at.
func open(x *sect.Dev) (*page.File, *tree.Tree, api.Errno) {
	if !slices.Contains(x.Names(), indexName) {
		return nil, nil, api.ErrNoFile
	}
	c := x.Copy()
	c.Fuse(-1)
	f, e := page.Open(c)
	if e != api.OK {
		return nil, nil, e
	}
	t, e := tree.Open(f)
	if e != api.OK {
		return nil, nil, e
	}
	return f, t, api.OK
}

// pointed tells the map of the values to which an index points in batches; false, if a row points to none.
func pointed(t *tree.Tree, l []api.Batch) (texts, bool) {
	rows, e := t.Rows("", t.Count())
	if e != api.OK {
		return nil, false
	}
	batches := map[spot]api.Batch{}
	for _, b := range l {
		batches[spot{b.File, b.At}] = b
	}
	m := texts{}
	for _, r := range rows {
		v, ok := pointedBy(r.Val, batches)
		if !ok {
			return nil, false
		}
		m[r.Key] = v
	}
	return m, true
}

// pointedBy tells the value to which a row's octets point: four numbers and nothing else.
func pointedBy(row string, batches map[spot]api.Batch) (value, bool) {
	in := octs.From([]byte(row))
	var n [4]int
	for i := range n {
		n[i] = int(in.Int(numberSize))
	}
	b, ok := batches[spot{n[0], n[1]}]
	if !ok || !in.Ok() || in.Left() > 0 || n[2]+n[3] > len(b.B) {
		return value{}, false
	}
	return valueIn(b, n[2], n[3]), true
}
