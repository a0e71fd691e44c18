package meth

import (
	"strings"

	"waybill/api"
	"waybill/octs"
	"waybill/tabl"
)

// writer puts parts behind each other; left has those that are still to come.
type writer struct {
	b    []byte
	left api.Method
	bad  bool
}

// writeParts tells the octets of m's parts; false, if they are not just those that letters ask for, or one does not go in.
func writeParts(letters string, m api.Method) ([]byte, bool) {
	if !asked(letters, m) {
		return nil, false
	}
	w := &writer{left: m}
	for i := range len(letters) {
		w.part(letters[i], bit(letters, i))
	}
	return w.b, !w.bad
}

// asked tells whether m has as many numbers, texts and flags as letters ask for, and a table where they do.
func asked(letters string, m api.Method) bool {
	texts := strings.Count(letters, "s") + strings.Count(letters, "l")
	flags := strings.Count(letters, "f")
	tables := strings.Count(letters, "t")
	numbers := len(letters) - texts - flags - tables
	if len(m.N) != numbers || len(m.S) != texts || len(m.F) != flags {
		return false
	}
	return tables > 0 || len(m.T) == 0
}

// part puts the part of a letter; bit is a flag's.
func (w *writer) part(letter byte, bit int) {
	switch letter {
	case 's':
		w.short(next(&w.left.S))
	case 'l':
		w.b = octs.Long(w.b, []byte(next(&w.left.S)))
	case 'f':
		w.flag(next(&w.left.F), bit)
	case 't':
		w.table(w.left.T)
	default:
		w.number(next(&w.left.N), int(letter-'0'))
	}
}

// short puts a text that goes in behind one octet.
func (w *writer) short(s string) {
	b, ok := octs.Short(w.b, s)
	w.b, w.bad = b, w.bad || !ok
}

// flag puts a flag in its octet, and ahead of the first one in an octet that octet.
func (w *writer) flag(f bool, bit int) {
	if bit == 0 {
		w.b = octs.Int(w.b, 1, 0)
	}
	if f {
		w.b[len(w.b)-1] |= 1 << bit
	}
}

// table puts a table.
func (w *writer) table(l []api.Field) {
	rows, ok := tabl.Append(nil, l)
	w.b, w.bad = octs.Long(w.b, rows), w.bad || !ok
}

// number puts a number that goes in so many octets.
func (w *writer) number(n uint64, octets int) {
	// A shift by 64 leaves nothing, so that each number goes in eight.
	if n>>(8*octets) != 0 {
		w.bad = true
	}
	w.b = octs.Int(w.b, octets, n)
}

// next takes the first one off a list that has one.
func next[T any](l *[]T) T {
	first := (*l)[0]
	*l = (*l)[1:]
	return first
}
