package wire

import (
	"slices"

	"lapidary/api"
)

const (
	headSize = 8
	turned   = 0xedb88320 // the bits that a 1 turns when it falls out of the register
)

// head is what stands ahead of a frame's bytes: how many they are, and their sum.
type head [headSize]byte

func makeHead(size, sum uint32) head {
	var h head
	for i := range 4 {
		h[i] = byte(size >> (24 - 8*i))
		h[4+i] = byte(sum >> (24 - 8*i))
	}
	return h
}

func (h head) split() (size, sum uint32) {
	for i := range 4 {
		size = size<<8 | uint32(h[i])
		sum = sum<<8 | uint32(h[4+i])
	}
	return size, sum
}

// Sum is the sum by which a frame tells that its bytes are as they were.
func Sum(b []byte) uint32 {
	register := ^uint32(0)
	for _, c := range b {
		register ^= uint32(c)
		for range 8 {
			fell := register & 1
			register = register>>1 ^ turned*fell
		}
	}
	return ^register
}

// Frame writes b behind its length and its sum.
func Frame(b []byte) ([]byte, api.Errno) {
	if len(b) == 0 || len(b) > api.MaxRecord {
		return nil, api.ErrSize
	}
	h := makeHead(uint32(len(b)), Sum(b))
	return slices.Concat(h[:], b), api.OK
}

// ReadFrame reads what Frame wrote, and tells how many bytes that were all in all.
func ReadFrame(b []byte) ([]byte, int, api.Errno) {
	if len(b) < headSize {
		return nil, 0, api.ErrShort
	}
	size, sum := head(b[:headSize]).split()
	if size == 0 {
		return nil, 0, api.ErrForm
	}
	if size > api.MaxRecord {
		return nil, 0, api.ErrSize
	}
	end := headSize + int(size)
	if len(b) < end {
		return nil, 0, api.ErrShort
	}
	if Sum(b[headSize:end]) != sum {
		return nil, 0, api.ErrSum
	}
	return slices.Clone(b[headSize:end]), end, api.OK
}
