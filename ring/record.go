package ring

import "lapidary/api"

const (
	ahead = 2*number + 4       // bytes ahead of a record's own in each sector
	room  = api.Sector - ahead // bytes of a record in a sector
)

// record is a record with the life that wrote it.
type record struct {
	life, seq int64
	bytes     []byte
}

// piece is what one sector has of a record.
type piece struct {
	life, seq int64
	place     int
	last      bool
	bytes     []byte
}

// sectors lays a record into its sectors.
func (r record) sectors() []byte {
	count := Sectors(len(r.bytes))
	out := make([]byte, count*api.Sector)
	for i := range count {
		last := i == count-1
		end := (i + 1) * room
		if last {
			end = len(r.bytes)
		}
		s := piece{r.life, r.seq, i, last, r.bytes[i*room : end]}.sector()
		copy(out[i*api.Sector:], s[:])
	}
	return out
}

// lay lays each of some records into its sectors, with the seqs from one on.
func lay(life, seq int64, records [][]byte) [][]byte {
	out := make([][]byte, len(records))
	for i, bytes := range records {
		out[i] = record{life, seq + int64(i), bytes}.sectors()
	}
	return out
}

func (p piece) sector() sector {
	var s sector
	c := cursor(s[:])
	c.put(number, p.life)
	c.put(number, p.seq)
	c.put(2, int64(p.place))
	if p.last {
		c.put(1, 1)
	} else {
		c.put(1, 0)
	}
	c.put(1, int64(len(p.bytes)))
	copy(c.next(len(p.bytes)), p.bytes)
	return s
}

// readPiece reads what can be a piece: just the bytes that it is written as.
func readPiece(s sector) (piece, bool) {
	c := cursor(s[:])
	p := piece{
		life:  c.get(number),
		seq:   c.get(number),
		place: int(c.get(2)),
		last:  c.get(1) != 0,
	}
	size := int(c.get(1))
	if size < 1 || size > room || !p.last && size != room {
		return piece{}, false
	}
	p.bytes = c.next(size)
	if p.sector() != s {
		return piece{}, false
	}
	return p, true
}

// readRecord reads the record of that seq that begins with the first sector, if it is there as a whole.
func readRecord(sectors []byte, seq int64) (record, bool) {
	r := record{seq: seq}
	for place := 0; len(sectors) >= api.Sector; place++ {
		p, ok := readPiece(sector(sectors))
		if !ok || p.seq != seq || p.place != place || place > 0 && p.life != r.life {
			return record{}, false
		}
		r.life = p.life
		r.bytes = append(r.bytes, p.bytes...)
		if len(r.bytes) > api.MaxRecord {
			return record{}, false
		}
		if p.last {
			return r, true
		}
		sectors = sectors[api.Sector:]
	}
	return record{}, false
}
