// Package octs reads and writes the wire's octets: numbers, highest octet first, and texts and lists behind their lengths.
package octs

import "bytes"

// In is what is left of the octets that are read.
type In struct {
	left []byte
	bad  bool
}

// From tells an In that reads what b holds.
func From(b []byte) *In {
	// A copy, so that a later change of b is not read.
	return &In{left: bytes.Clone(b)}
}

// Int takes n octets (n held to 1 to 8) as a number.
func (r *In) Int(n int) uint64 {
	v := uint64(0)
	for _, c := range r.take(uint64(width(n))) {
		v = v<<8 | uint64(c)
	}
	return v
}

// Short takes a text behind its length of one octet.
func (r *In) Short() string {
	return string(r.take(r.Int(1)))
}

// Long takes a list behind its length of four octets.
func (r *In) Long() []byte {
	return bytes.Clone(r.take(r.Int(4)))
}

// Rest takes all that is left.
func (r *In) Rest() []byte {
	return bytes.Clone(r.take(uint64(len(r.left))))
}

// Left tells how many octets are left.
func (r *In) Left() int {
	return len(r.left)
}

// Ok tells whether all that was asked for so far was there.
func (r *In) Ok() bool {
	return !r.bad
}

// take cuts the next n octets off. If they are not all there, nothing is left ever after, so that each later call finds nothing.
func (r *In) take(n uint64) []byte {
	if n > uint64(len(r.left)) {
		r.left, r.bad = nil, true
		return nil
	}
	b := r.left[:n]
	r.left = r.left[n:]
	return b
}

// Int tells b with v's n lowest octets (n held to 1 to 8) behind it.
func Int(b []byte, n int, v uint64) []byte {
	n = width(n)
	return addInt(roomy(b, n), n, v)
}

// Short tells b with s behind its length of one octet behind it; b and false, if the length doesn't fit in one.
func Short(b []byte, s string) ([]byte, bool) {
	if len(s) > 255 {
		return bytes.Clone(b), false
	}
	out := addInt(roomy(b, 1+len(s)), 1, uint64(len(s)))
	return append(out, s...), true
}

// Long tells b with s behind its length of four octets behind it.
func Long(b []byte, s []byte) []byte {
	out := addInt(roomy(b, 4+len(s)), 4, uint64(len(s)))
	return append(out, s...)
}

// width holds n to the octets that a number may have.
func width(n int) int {
	return min(max(n, 1), 8)
}

// roomy copies b with room for n more octets: the spare room behind b itself is its giver's.
func roomy(b []byte, n int) []byte {
	return append(make([]byte, 0, len(b)+n), b...)
}

// addInt appends in place what Int appends to a copy.
func addInt(b []byte, n int, v uint64) []byte {
	for shift := 8 * (n - 1); shift >= 0; shift -= 8 {
		b = append(b, byte(v>>shift))
	}
	return b
}
