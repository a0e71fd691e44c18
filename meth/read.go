package meth

import (
	"waybill/api"
	"waybill/octs"
	"waybill/tabl"
)

// reader takes the parts of m off in.
type reader struct {
	in    *octs.In
	m     *api.Method
	flags uint64
	bad   bool
}

// readParts takes all that is left in in as m's parts; false, if it is not just these.
func readParts(in *octs.In, letters string, m *api.Method) bool {
	r := &reader{in: in, m: m}
	for i := range len(letters) {
		r.part(letters[i], bit(letters, i))
	}
	return !r.bad && in.Ok() && in.Left() == 0
}

// part takes the part of a letter; bit is a flag's.
func (r *reader) part(letter byte, bit int) {
	switch letter {
	case 's':
		r.m.S = append(r.m.S, r.in.Short())
	case 'l':
		r.m.S = append(r.m.S, string(r.in.Long()))
	case 'f':
		r.flag(bit)
	case 't':
		r.table()
	default:
		r.m.N = append(r.m.N, r.in.Int(int(letter-'0')))
	}
}

// flag takes a flag, and ahead of the first one in an octet that octet.
func (r *reader) flag(bit int) {
	if bit == 0 {
		r.flags = r.in.Int(1)
	}
	r.m.F = append(r.m.F, r.flags>>bit&1 == 1)
}

// table takes a table.
func (r *reader) table() {
	l, ok := tabl.Parse(r.in.Long())
	r.m.T, r.bad = l, r.bad || !ok
}
