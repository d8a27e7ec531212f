package reach

// marks numbers keys of any type, from 1 on, in the order in which they come.
type marks[K comparable] struct {
	numbers map[K]int
}

// mark is a key's number, and whether the key came for the first time.
func (m *marks[K]) mark(key K) (int, bool) {
	if n := m.numbers[key]; n > 0 {
		return n, false
	}
	if m.numbers == nil {
		m.numbers = map[K]int{}
	}
	m.numbers[key] = len(m.numbers) + 1
	return len(m.numbers), true
}

// of is a key's number, 0 of one that did not come.
func (m *marks[K]) of(key K) int {
	return m.numbers[key]
}

// count is how many keys came.
func (m *marks[K]) count() int {
	return len(m.numbers)
}
