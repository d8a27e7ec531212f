package serial

import (
	"lapidary/api"
	"lapidary/table"
)

// learn lets what is known be as the store's table is behind a change that is done.
func (m *Model) learn() {
	now := m.world.Store().Table()
	if now.Last() > m.known.Last() {
		follow(m.known, now)
	}
	m.known.Forget(now.First())
}

// follow puts the last commit of one table behind that of another one, which has all up to the commit ahead of it. The changes rise, as a commit of a session lets nothing go, and a sweep does nothing else.
func follow(known, now *table.Table) {
	r := now.All()
	all := r.Changes
	r.Changes = nil
	for _, c := range all {
		if now.Changed(c.Oop) == r.Commit {
			r.Changes = append(r.Changes, c)
		}
	}
	for _, c := range known.All().Changes {
		if _, err := now.At(r.Commit, c.Oop); err == api.ErrNone {
			c.Gone, c.Obj = true, api.Obj{}
			r.Changes = append(r.Changes, c)
		}
	}
	known.Apply(r)
}
