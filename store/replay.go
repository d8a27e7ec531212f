package store

import (
	"lapidary/api"
	"lapidary/table"
	"lapidary/value"
)

// saying is what a log says, as far as its records were taken.
type saying struct {
	table *table.Table
	open  value.Record // the pieces that no last one has ended yet; Commit is 0, if there are none
}

// replay is the table of what these records say.
func replay(records ...[]byte) (*table.Table, api.Errno) {
	s := saying{table: table.New()}
	for _, b := range records {
		if !s.take(b) {
			return nil, api.ErrForm
		}
	}
	if s.inside() || s.table.Last() == 0 {
		return nil, api.ErrForm
	}
	return s.table, api.OK
}

// inside tells whether a piece has come, and no last one behind it.
func (s *saying) inside() bool {
	return s.open.Commit > 0
}

// take takes the next record, and tells whether it can stand there.
func (s *saying) take(b []byte) bool {
	if len(b) == 0 || b[0] > last {
		return false
	}
	r, err := value.GetRecord(b[1:])
	if err != api.OK {
		return false
	}
	if s.inside() && (b[0] == alone || r.Commit != s.open.Commit) {
		return false
	}
	s.open.Commit = r.Commit
	s.open.Changes = append(s.open.Changes, r.Changes...)
	return b[0] == behind || s.end()
}

// end applies all that came since the last commit, as one.
func (s *saying) end() bool {
	r := s.open
	s.open = value.Record{}
	return s.table.Apply(r) == api.OK
}
