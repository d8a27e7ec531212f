package ring

// cursor is the bytes of a sector that are not written, or not read, yet.
type cursor []byte

// next takes the next n bytes.
func (c *cursor) next(n int) []byte {
	b := (*c)[:n]
	*c = (*c)[n:]
	return b
}

// put writes n to the next size bytes, the highest one first.
func (c *cursor) put(size int, n int64) {
	b := c.next(size)
	for i := range b {
		b[i] = byte(n >> (8 * (size - 1 - i)))
	}
}

// get reads what put wrote.
func (c *cursor) get(size int) int64 {
	var n int64
	for _, x := range c.next(size) {
		n = n<<8 | int64(x)
	}
	return n
}
