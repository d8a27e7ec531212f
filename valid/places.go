package valid

import (
	"maps"
	"slices"
	"sort"
)

// places has commits at keys of any type; those at one key rise.
type places[K comparable] struct {
	commits map[K][]int64
}

// put adds a commit at some keys; no commit there is above it.
func (p *places[K]) put(commit int64, keys []K) {
	if p.commits == nil {
		p.commits = map[K][]int64{}
	}
	for _, key := range keys {
		if list := p.commits[key]; len(list) == 0 || list[len(list)-1] != commit {
			p.commits[key] = append(list, commit)
		}
	}
}

// above is the least commit at a key that is above another one, and whether there is one.
func (p *places[K]) above(key K, commit int64) (int64, bool) {
	later := behind(p.commits[key], commit)
	if len(later) == 0 {
		return 0, false
	}
	return later[0], true
}

// cut lets go of all commits up to one.
func (p *places[K]) cut(commit int64) {
	for _, key := range slices.Collect(maps.Keys(p.commits)) {
		later := behind(p.commits[key], commit)
		if len(later) == 0 {
			delete(p.commits, key)
			continue
		}
		p.commits[key] = slices.Clone(later) // what is let go is not held by what stays
	}
}

// behind are those of rising commits that are above one.
func behind(list []int64, commit int64) []int64 {
	at := sort.Search(len(list), func(i int) bool { return list[i] > commit })
	return list[at:]
}
