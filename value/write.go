package value

import (
	"lapidary/api"
	"lapidary/wire"
)

// The byte of a change that tells whether its object follows.
const (
	there = 0
	gone  = 1
)

// Put is an object's bytes.
func Put(o api.Obj) ([]byte, api.Errno) {
	if !RightObj(o) {
		return nil, api.ErrArg
	}
	return appendObj(nil, o), api.OK
}

// PutRecord is a record's bytes.
func PutRecord(r Record) ([]byte, api.Errno) {
	if !RightRecord(r) {
		return nil, api.ErrArg
	}
	b := appendNumber(nil, r.Commit)
	b = appendNumber(b, int64(len(r.Changes)))
	for _, c := range r.Changes {
		b = appendChange(b, c)
		// Asked at each change: what is too long is not written to its end.
		if len(b) > api.MaxRecord {
			return nil, api.ErrSize
		}
	}
	return b, api.OK
}

func appendChange(b []byte, c Change) []byte {
	b = appendNumber(b, c.Oop)
	if c.Gone {
		return append(b, gone)
	}
	return appendObj(append(b, there), c.Obj)
}

// appendObj takes an object that can be kept: its bytes are few enough to be a text.
func appendObj(b []byte, o api.Obj) []byte {
	b = appendNumber(b, o.Class)
	b = appendNumber(b, int64(len(o.Slots)))
	for _, v := range o.Slots {
		b = appendVal(b, v)
	}
	text, _ := wire.Text(o.Bytes)
	return append(b, text...)
}

func appendVal(b []byte, v api.Val) []byte {
	b = append(b, byte(v.K))
	n := uint64(v.N)
	switch v.K {
	case api.Int:
		// Of both kinds a number is written; that of an Int alone may be below nought.
		n = wire.Fold(v.N)
		fallthrough
	case api.Ref:
		b = append(b, wire.Uint(n)...)
	}
	return b
}

// appendNumber takes a number that is not below nought.
func appendNumber(b []byte, n int64) []byte {
	return append(b, wire.Uint(uint64(n))...)
}
