package store

import (
	"slices"

	"lapidary/api"
	"lapidary/value"
)

// The first byte of a log's record.
const (
	alone  = 0 // a commit, all of it
	behind = 1 // a piece, behind which another one comes
	last   = 2 // the last piece
)

// most is how many bytes a piece has at most, without its first one.
const most = 4000

// Pieces is all of a record, in pieces that a log takes however long the record is.
func Pieces(r value.Record) ([][]byte, api.Errno) {
	if !value.RightRecord(r) {
		return nil, api.ErrArg
	}
	var out [][]byte
	rest := r.Changes
	for {
		n := fits(most, r.Commit, rest...)
		kind := byte(behind)
		if n == len(rest) {
			kind = last
		}
		// Cut, so that nothing that is done with a piece reaches the changes behind it.
		b, err := entry(kind, r.Commit, rest[:n:n]...)
		if err != api.OK {
			return nil, err
		}
		out = append(out, b)
		if kind == last {
			return out, api.OK
		}
		rest = rest[n:]
	}
}

// fits tells how many of some changes, from the first one on, go into a piece of so many bytes. The first one always goes: else there would be no end.
func fits(room int, commit int64, changes ...value.Change) int {
	empty := size(commit)
	n, sum := 0, empty
	for n < len(changes) && (n == 0 || sum <= room) {
		sum += size(commit, changes[n]) - empty
		n++
	}
	// Each was asked by itself, but how many there are takes bytes too.
	for n > 1 && size(commit, changes[:n:n]...) > room {
		n--
	}
	return n
}

// size tells how many bytes a commit with some changes has, few enough that it can be told.
func size(commit int64, changes ...value.Change) int {
	b, _ := value.PutRecord(value.Record{Commit: commit, Changes: changes})
	return len(b)
}

// entry is a record of the log: what it is, and the bytes of a commit with some changes.
func entry(kind byte, commit int64, changes ...value.Change) ([]byte, api.Errno) {
	b, err := value.PutRecord(value.Record{Commit: commit, Changes: changes})
	if err != api.OK {
		return nil, err
	}
	return slices.Concat([]byte{kind}, b), api.OK
}
