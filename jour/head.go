package jour

import (
	"waybill/api"
	"waybill/octs"
)

// head is what each sector of a batch begins with: the batch's Seq, the sector's place in the batch, how many sectors that has, its kind, and how many of its octets are in this sector.
type head struct {
	seq                      uint64
	place, count, kind, size int
}

// Where the fields behind Seq lie in one number of eight octets; an octet of noughts is between the kind and the size.
const (
	placeShift = 48
	countShift = 32
	kindShift  = 24
)

// sector tells the sector of a head and the octets behind it.
func (h head) sector(b []byte) [64]byte {
	fields := uint64(h.place)<<placeShift | uint64(h.count)<<countShift | uint64(h.kind)<<kindShift | uint64(h.size)
	var s [64]byte
	copy(s[:], octs.Int(octs.Int(nil, 8, h.seq), 8, fields))
	copy(s[headSize:], b)
	return s
}

// headOf tells what a sector has where a head would be.
func headOf(s [64]byte) head {
	r := octs.From(s[:headSize])
	seq, fields := r.Int(8), r.Int(8)
	return head{
		seq:   seq,
		place: int(uint16(fields >> placeShift)),
		count: int(uint16(fields >> countShift)),
		kind:  int(uint8(fields >> kindShift)),
		size:  int(uint16(fields)),
	}
}

// begins tells whether a batch may begin with a sector of this head.
func (h head) begins() bool {
	return h.seq > 0 && h.kind > 0 && h.place == 0 && h.count >= 1 && h.count <= api.MaxBatch
}

// data tells the batch's octets that are in s, if s is just such a sector as h says, whatever h's size.
func (h head) data(s [64]byte) ([]byte, bool) {
	h.size = headOf(s).size
	if h.size < h.least() || h.size > dataSize {
		return nil, false
	}
	b := s[headSize : headSize+h.size]
	return b, h.sector(b) == s
}

// least tells how many octets a sector has at least: all but the last one are full, and only a batch of nothing has a sector of nothing.
func (h head) least() int {
	switch {
	case h.place < h.count-1:
		return dataSize
	case h.place > 0:
		return 1
	}
	return 0
}
