package value

import (
	"lapidary/api"
	"lapidary/wire"
)

// Get is the object whose bytes b is.
func Get(b []byte) (api.Obj, api.Errno) {
	r := reader{rest: b}
	o := r.object()
	if !r.atEnd() || !RightObj(o) {
		return api.Obj{}, api.ErrForm
	}
	return o, api.OK
}

// GetRecord is the record whose bytes b is, however many they are.
func GetRecord(b []byte) (Record, api.Errno) {
	r := reader{rest: b}
	var record Record
	record.Commit = r.number(api.MaxCommit)
	record.Changes = r.changes()
	if !r.atEnd() || !RightRecord(record) {
		return Record{}, api.ErrForm
	}
	return record, api.OK
}

// reader is bytes that are not read yet. Once it gave up, it reads nothing more, and what it answers counts for nothing.
type reader struct {
	rest  []byte
	ended bool // it gave up
}

func (r *reader) giveUp() {
	r.rest, r.ended = nil, true
}

// atEnd tells whether all was read, and could be.
func (r *reader) atEnd() bool {
	return !r.ended && len(r.rest) == 0
}

// past leaves behind what wire read, if it could.
func (r *reader) past(size int, err api.Errno) {
	if err != api.OK {
		r.giveUp()
		return
	}
	r.rest = r.rest[size:]
}

func (r *reader) uint() uint64 {
	n, size, err := wire.ReadUint(r.rest)
	r.past(size, err)
	return n
}

// number reads a number that is most at most: none that is turned below nought, no count that nobody has room for.
func (r *reader) number(most uint64) int64 {
	n := r.uint()
	if n > most {
		r.giveUp()
		return 0
	}
	return int64(n)
}

func (r *reader) text() []byte {
	b, size, err := wire.ReadText(r.rest)
	r.past(size, err)
	return b
}

func (r *reader) octet() int {
	if len(r.rest) == 0 {
		r.giveUp()
		return 0
	}
	c := r.rest[0]
	r.rest = r.rest[1:]
	return int(c)
}

func (r *reader) object() api.Obj {
	var o api.Obj
	o.Class = r.number(api.MaxOops)
	o.Slots = r.slots()
	o.Bytes = r.text()
	return o
}

func (r *reader) slots() []api.Val {
	var out []api.Val
slots:
	for range r.number(api.MaxSlots) {
		v := api.Val{K: r.octet()}
		switch v.K {
		case api.Nil, api.False, api.True:
		case api.Int:
			v.N = wire.Unfold(r.uint())
		case api.Ref:
			v.N = r.number(api.MaxOops)
		default:
			r.giveUp()
			break slots
		}
		if r.ended {
			break slots
		}
		out = append(out, v)
	}
	return out
}

func (r *reader) changes() []Change {
	var out []Change
changes:
	for range r.number(api.MaxOops) {
		c := Change{Oop: r.number(api.MaxOops)}
		switch r.octet() {
		case there:
			c.Obj = r.object()
		case gone:
			c.Gone = true
		default:
			r.giveUp()
			break changes
		}
		if r.ended {
			break changes
		}
		out = append(out, c)
	}
	return out
}
