package table

import (
	"slices"
	"sort"

	"lapidary/api"
	"lapidary/value"
)

// past is all that is kept of one oop. Its versions rise; none is written into once it stands there, as copies of a table have the same ones.
type past struct {
	changed  int64 // kept by itself, as it is asked though its version is forgotten
	versions []version
}

// version is an object from a commit on, or that it is gone. One that is gone stands only behind one that is not, so that an oop without versions is free.
type version struct {
	commit int64
	gone   bool
	obj    api.Obj
}

// with is the past with one change more, by a commit above all others.
func (p past) with(commit int64, c value.Change) past {
	p.changed = commit
	if !c.Gone || p.there() {
		p.versions = append(p.versions, version{commit, c.Gone, value.Copy(c.Obj)})
	}
	return p
}

// there tells whether the last version is an object.
func (p past) there() bool {
	last := len(p.versions) - 1
	return last >= 0 && !p.versions[last].gone
}

// empty tells whether there is no object behind any commit that may be asked.
func (p past) empty() bool {
	return len(p.versions) == 0
}

// at is the object behind a commit, and whether there is one.
func (p past) at(commit int64) (api.Obj, bool) {
	i := p.place(commit)
	if i < 0 || p.versions[i].gone {
		return api.Obj{}, false
	}
	return p.versions[i].obj, true
}

// place is where the version behind a commit stands; -1, if none does.
func (p past) place(commit int64) int {
	later := sort.Search(len(p.versions), func(i int) bool { return p.versions[i].commit > commit })
	return later - 1
}

// from is the past without what stood only ahead of a commit.
func (p past) from(commit int64) past {
	at := max(0, p.place(commit))
	if at < len(p.versions) && p.versions[at].gone {
		at++
	}
	if at > 0 {
		p.versions = append([]version(nil), p.versions[at:]...) // what is forgotten is not held by what stays
	}
	return p
}

// cut is the past with no room behind its versions: what it gets more does not go where the other one's goes.
func (p past) cut() past {
	p.versions = slices.Clip(p.versions)
	return p
}
