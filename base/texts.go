package base

import (
	"slices"

	"waybill/api"
	"waybill/octs"
	"waybill/unit"
)

// numberSize is how many octets each number has in a row of the index.
const numberSize = 4

// value is a text, and where its octets lie in the journal: the file and the first sector of the batch that has them, and where they begin in that.
type value struct {
	text           string
	file, at, from int
}

// row tells what the index has of v.
func (v value) row() string {
	var b []byte
	for _, n := range []int{v.file, v.at, v.from, len(v.text)} {
		b = octs.Int(b, numberSize, uint64(n))
	}
	return string(b)
}

// texts is the map, by keys.
type texts map[string]value

// living tells those of a journal's batches that the map hangs on: none of those ahead of the last one that has all of it.
func living(l []api.Batch) []api.Batch {
	for i := len(l) - 1; i >= 0; i-- {
		if l[i].Kind == api.BWhole {
			return l[i:]
		}
	}
	return l
}

// replay tells the map of living batches, or of those that the first ones of them are; false, if one of them is no unit, or some are missing ahead of them.
func replay(l []api.Batch) (texts, bool) {
	if len(l) > 0 && l[0].Kind != api.BWhole && l[0].Seq != 1 {
		return nil, false
	}
	m := texts{}
	for _, b := range l {
		if !m.take(b) {
			return nil, false
		}
	}
	return m, true
}

// take does a batch to the map; false, and nothing is done, if it is no unit, or not one of its kind.
func (m texts) take(b api.Batch) bool {
	l, ok := unit.Places(b.B)
	if !ok {
		return false
	}
	switch b.Kind {
	case api.BUnit:
	case api.BWhole:
		if slices.ContainsFunc(l, isDel) {
			return false
		}
		clear(m)
	default:
		return false
	}
	for _, p := range l {
		if p.Del {
			delete(m, p.Key)
		} else {
			m[p.Key] = value{text: string(b.B[p.At : p.At+p.N]), file: b.File, at: b.At, from: p.At}
		}
	}
	return true
}

// isDel tells whether it is the place of a key that is taken away.
func isDel(p api.Place) bool {
	return p.Del
}

// keys tells the keys from a key on, rising.
func (m texts) keys(from string) []string {
	var l []string
	for k := range m {
		if k >= from {
			l = append(l, k)
		}
	}
	slices.Sort(l)
	return l
}

// puts tells the ops that make the map of an empty one, keys rising.
func (m texts) puts() []api.Op {
	l := make([]api.Op, 0, len(m))
	for _, k := range m.keys("") {
		l = append(l, api.Op{Key: k, Val: []byte(m[k].text)})
	}
	return l
}
