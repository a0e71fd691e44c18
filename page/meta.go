package page

import (
	"waybill/api"
	"waybill/octs"
	"waybill/sect"
)

const (
	// title is the text that a meta begins with.
	title = "waybill1"
	// maxCount is the greatest Count of a meta.
	maxCount = 1 << 62
)

// sectorOf tells a meta's first sector.
func sectorOf(m api.Meta) [sectorSize]byte {
	b := []byte(title)
	for _, v := range []uint64{m.Gen, uint64(m.Root), uint64(m.Count), m.Mark} {
		b = octs.Int(b, 8, v)
	}
	var s [sectorSize]byte
	copy(s[:], b)
	return s
}

// parse tells the meta whose first sector is s, if it is one of this page in a file of so many.
func parse(s [sectorSize]byte, page, pages int) (api.Meta, bool) {
	r := octs.From(s[len(title):])
	m := api.Meta{Gen: r.Int(8), Root: int(r.Int(8)), Count: int(r.Int(8)), Mark: r.Int(8)}
	// What is too great for an int is below 0 in m.
	ok := m.Gen > 0 && m.Gen%metas == uint64(page) &&
		(m.Root == 0 || m.Root >= metas && m.Root < pages) &&
		m.Count >= 0 && m.Count <= maxCount &&
		sectorOf(m) == s
	return m, ok
}

// newest tells the meta that holds in a file: of those that are whole the one of the greater Gen, since a Commit that was cut may have spoilt the other.
func newest(d *sect.Dev) (api.Meta, bool) {
	var best api.Meta
	pages := length(d)
	if pages < metas {
		return best, false
	}
	for page := range metas {
		s, e := d.Read(name, page*pageSectors)
		if e != api.OK {
			continue
		}
		if m, ok := parse(s, page, pages); ok && m.Gen > best.Gen {
			best = m
		}
	}
	return best, best.Gen > 0
}

// store makes all that was written last, and then m. In this order: a meta that lasts must not tell of pages that don't.
func store(d *sect.Dev, m api.Meta) api.Errno {
	if e := d.Sync(name); e != api.OK {
		return e
	}
	if e := d.Write(name, int(m.Gen%metas)*pageSectors, sectorOf(m)); e != api.OK {
		return e
	}
	return d.Sync(name)
}
