package audit

import (
	"maps"
	"slices"

	"waybill/api"
	"waybill/unit"
)

// value is a text, and where its octets lie in the journal: the file and the first sector of the batch that has them, and where they begin in that.
type value struct {
	text           string
	file, at, from int
}

// texts is a map of what lasts, by keys.
type texts map[string]value

// living tells the batches from the last one on that has all of the map; of none such, all. So none but the first of them is such a one, and it begins with an empty map.
func living(l []api.Batch) []api.Batch {
	for i, b := range slices.Backward(l) {
		if b.Kind == api.BWhole {
			return l[i:]
		}
	}
	return l
}

// behind tells how many of the living batches an index has that was made behind the one of a Seq (0: ahead of all); false, if there is no such one.
func behind(l []api.Batch, seq uint64) (int, bool) {
	if seq == 0 {
		return 0, len(l) == 0 || l[0].Seq == 1
	}
	i := slices.IndexFunc(l, func(b api.Batch) bool { return b.Seq == seq })
	return i + 1, i >= 0
}

// replay tells the map of living batches; false, if they make none.
func replay(l []api.Batch) (texts, bool) {
	m := texts{}
	ok := len(l) == 0 || l[0].Kind == api.BWhole || l[0].Seq == 1
	for _, b := range l {
		ok = ok && m.take(b)
	}
	return m, ok
}

// take does a batch to the map; false, if it isn't one that may be.
func (m texts) take(b api.Batch) bool {
	places, ok := unit.Places(b.B)
	if !ok || b.Kind != api.BUnit && b.Kind != api.BWhole {
		return false
	}
	for _, p := range places {
		switch {
		case !p.Del:
			m[p.Key] = valueIn(b, p.At, p.N)
		case b.Kind == api.BWhole:
			// There is nothing that it could take away.
			return false
		default:
			delete(m, p.Key)
		}
	}
	return true
}

// valueIn tells the value whose n octets begin at from in a batch that has them.
func valueIn(b api.Batch, from, n int) value {
	return value{text: string(b.B[from : from+n]), file: b.File, at: b.At, from: from}
}

// rows tells the map, keys rising.
func (m texts) rows() []api.KV {
	l := make([]api.KV, 0, len(m))
	for _, k := range slices.Sorted(maps.Keys(m)) {
		l = append(l, api.KV{Key: k, Val: m[k].text})
	}
	return l
}
