package wire_test

import (
	"bytes"
	"encoding/binary"
	"hash/crc32"
	"math"
	"slices"
	"testing"

	"lapidary/api"
	"lapidary/wire"
)

// numbers are those at which a number gets a byte more, and those beside them.
func numbers() []uint64 {
	out := []uint64{0, 1, 2, 300, math.MaxUint64, math.MaxInt64, 1 << 63}
	for shift := range 64 {
		n := uint64(1) << shift
		out = append(out, n-1, n, n+1)
	}
	slices.Sort(out)
	return slices.Compact(out)
}

// noise is bytes that are always the same ones.
func noise(n int, seed uint32) []byte {
	out := make([]byte, n)
	for i := range out {
		seed = seed*1664525 + 1013904223
		out[i] = byte(seed >> 24)
	}
	return out
}

// P1.1
func TestUintWritesSevenBitsAByte(t *testing.T) {
	rows := []struct {
		n    uint64
		want string
	}{
		{0, "\x00"},
		{1, "\x01"},
		{127, "\x7f"},
		{128, "\x80\x01"},
		{300, "\xac\x02"},
		{16383, "\xff\x7f"},
		{16384, "\x80\x80\x01"},
		{1<<63 - 1, "\xff\xff\xff\xff\xff\xff\xff\xff\x7f"},
		{1 << 63, "\x80\x80\x80\x80\x80\x80\x80\x80\x80\x01"},
		{math.MaxUint64, "\xff\xff\xff\xff\xff\xff\xff\xff\xff\x01"},
	}
	for _, r := range rows {
		if got := wire.Uint(r.n); string(got) != r.want {
			t.Errorf("Uint(%d) = %x, not %x", r.n, got, r.want)
		}
	}
	for _, n := range numbers() {
		if got, want := wire.Uint(n), binary.AppendUvarint(nil, n); !bytes.Equal(got, want) {
			t.Errorf("Uint(%d) = %x, not %x", n, got, want)
		}
	}
}

// P1.1, and the rule that beside an error all else is zero.
func TestReadUintTellsFaults(t *testing.T) {
	nine := "\x80\x80\x80\x80\x80\x80\x80\x80\x80"
	full := "\xff\xff\xff\xff\xff\xff\xff\xff\xff"
	rows := []struct {
		in   string
		want api.Errno
	}{
		{"", api.ErrShort},
		{"\x80", api.ErrShort},
		{"\xff", api.ErrShort},
		{"\x80\x80", api.ErrShort},
		{nine, api.ErrShort},
		{full, api.ErrShort},
		{"\x80\x00", api.ErrForm},
		{"\xff\x00", api.ErrForm},
		{"\x80\x80\x00\x01", api.ErrForm},
		{nine + "\x00", api.ErrForm},
		{nine + "\x02", api.ErrForm},
		{full + "\x02", api.ErrForm},
		{full + "\x7f", api.ErrForm},
		{full + "\x80", api.ErrForm},
		{full + "\xff", api.ErrForm},
		{full + "\x81\x01", api.ErrForm},
		{full + full, api.ErrForm},
	}
	for _, r := range rows {
		n, k, err := wire.ReadUint([]byte(r.in))
		if n != 0 || k != 0 || err != r.want {
			t.Errorf("ReadUint(%x) = %d, %d, %d, not the error %d", r.in, n, k, err, r.want)
		}
	}
	if n, k, err := wire.ReadUint(nil); n != 0 || k != 0 || err != api.ErrShort {
		t.Error("ReadUint(nil)", n, k, err)
	}
}

// P1.1, P1.5
func TestReadUintReadsWhatUintWrote(t *testing.T) {
	for _, n := range numbers() {
		written := wire.Uint(n)
		for _, behind := range []string{"", "\x00", "\x80", "\xff\xff", "\x01\x02\x03\x04\x05\x06\x07\x08\x09\x0a"} {
			got, k, err := wire.ReadUint(append(slices.Clone(written), behind...))
			if got != n || k != len(written) || err != api.OK {
				t.Errorf("ReadUint(Uint(%d), %x) = %d, %d, %d", n, behind, got, k, err)
			}
		}
		for k := range len(written) {
			if got, k, err := wire.ReadUint(written[:k]); got != 0 || k != 0 || err != api.ErrShort {
				t.Errorf("ReadUint(%x) = %d, %d, %d", written[:k], got, k, err)
			}
		}
	}
}

// P6: of all short bytes just those are read that are written.
func TestReadUintRefusesOtherBytes(t *testing.T) {
	for i := range 1 << 16 {
		b := []byte{byte(i >> 8), byte(i)}
		n, k, err := wire.ReadUint(b)
		switch {
		case err == api.OK && !bytes.Equal(wire.Uint(n), b[:k]):
			t.Errorf("ReadUint(%x) = %d, %d", b, n, k)
		case err != api.OK && b[0] < 128:
			t.Errorf("ReadUint(%x): %d", b, err)
		}
	}
}

// P1.2
func TestFold(t *testing.T) {
	rows := []struct {
		n    int64
		want uint64
	}{
		{0, 0}, {-1, 1}, {1, 2}, {-2, 3}, {2, 4}, {150, 300}, {-150, 299},
		{math.MaxInt64, math.MaxUint64 - 1}, {math.MinInt64, math.MaxUint64},
		{math.MinInt64 + 1, math.MaxUint64 - 2}, {1 << 62, 1 << 63},
	}
	for _, r := range rows {
		if got := wire.Fold(r.n); got != r.want {
			t.Errorf("Fold(%d) = %d, not %d", r.n, got, r.want)
		}
		if got := wire.Unfold(r.want); got != r.n {
			t.Errorf("Unfold(%d) = %d, not %d", r.want, got, r.n)
		}
	}
	for _, n := range numbers() {
		if got := wire.Fold(wire.Unfold(n)); got != n {
			t.Errorf("Fold(Unfold(%d)) = %d", n, got)
		}
		if got := wire.Unfold(wire.Fold(int64(n))); got != int64(n) {
			t.Errorf("Unfold(Fold(%d)) = %d", int64(n), got)
		}
	}
}

// P1.3, P1.5
func TestTextIsReadAsItWas(t *testing.T) {
	for _, size := range []int{0, 1, 2, 127, 128, 129, 16383, 16384, api.MaxRecord - 1, api.MaxRecord} {
		b := noise(size, uint32(size))
		written, err := wire.Text(b)
		want := append(binary.AppendUvarint(nil, uint64(size)), b...)
		if err != api.OK || !bytes.Equal(written, want) {
			t.Errorf("Text of %d bytes: %d", size, err)
		}
		for _, behind := range []string{"", "\x00", "\xff\xff\xff"} {
			got, k, err := wire.ReadText(append(slices.Clone(written), behind...))
			if !bytes.Equal(got, b) || k != len(written) || err != api.OK {
				t.Errorf("ReadText of %d bytes with %x behind: %d bytes, %d, %d", size, behind, len(got), k, err)
			}
		}
	}
}

// P1.3
func TestTextTellsFaults(t *testing.T) {
	if b, err := wire.Text(make([]byte, api.MaxRecord+1)); len(b) != 0 || err != api.ErrSize {
		t.Error("Text", len(b), err)
	}
	if b, err := wire.Text(nil); string(b) != "\x00" || err != api.OK {
		t.Error("Text(nil)", b, err)
	}
	tooMany := wire.Uint(api.MaxRecord + 1)
	rows := []struct {
		name string
		in   []byte
		want api.Errno
	}{
		{"nothing", nil, api.ErrShort},
		{"a number that ends", []byte{0x80}, api.ErrShort},
		{"no number", []byte{0x80, 0, 'a'}, api.ErrForm},
		{"a byte too few", []byte{2, 'a'}, api.ErrShort},
		{"none of one", []byte{1}, api.ErrShort},
		{"too many, of which there are none", tooMany, api.ErrSize},
		{"too many, all there", append(slices.Clone(tooMany), make([]byte, api.MaxRecord+1)...), api.ErrSize},
		{"the greatest number", wire.Uint(math.MaxUint64), api.ErrSize},
		{"the greatest int", wire.Uint(math.MaxInt64), api.ErrSize},
		{"a byte less than most", append(wire.Uint(api.MaxRecord), make([]byte, api.MaxRecord-1)...), api.ErrShort},
	}
	for _, r := range rows {
		if b, k, err := wire.ReadText(r.in); len(b) != 0 || k != 0 || err != r.want {
			t.Errorf("ReadText of %s: %d bytes, %d, %d, not the error %d", r.name, len(b), k, err, r.want)
		}
	}
}

// P1.6
func TestLesserNumbersHaveNoMoreBytes(t *testing.T) {
	last := 0
	for _, n := range numbers() {
		size := len(wire.Uint(n))
		if size < last {
			t.Errorf("Uint(%d) has %d bytes, a lesser one has %d", n, size, last)
		}
		last = size
	}
}

// P1.4
func TestSum(t *testing.T) {
	if got := wire.Sum([]byte("123456789")); got != 0xcbf43926 {
		t.Errorf("Sum = %x", got)
	}
	if got := wire.Sum(nil); got != 0 {
		t.Errorf("Sum(nil) = %x", got)
	}
	for i := range 256 {
		if b := []byte{byte(i)}; wire.Sum(b) != crc32.ChecksumIEEE(b) {
			t.Errorf("Sum(%x) = %x", b, wire.Sum(b))
		}
	}
	for _, size := range []int{2, 3, 4, 63, 1000, api.MaxRecord + 1} {
		if b := noise(size, 7); wire.Sum(b) != crc32.ChecksumIEEE(b) {
			t.Errorf("Sum of %d bytes = %x", size, wire.Sum(b))
		}
	}
}

// P1.4, P1.5
func TestFrameIsReadAsItWas(t *testing.T) {
	if f, err := wire.Frame([]byte("a")); string(f) != "\x00\x00\x00\x01\xe8\xb7\xbe\x43\x61" || err != api.OK {
		t.Errorf("Frame = %x, %d", f, err)
	}
	for _, size := range []int{1, 2, 255, 256, 257, 40000, api.MaxRecord - 1, api.MaxRecord} {
		b := noise(size, uint32(size))
		written, err := wire.Frame(b)
		want := binary.BigEndian.AppendUint32(nil, uint32(size))
		want = binary.BigEndian.AppendUint32(want, crc32.ChecksumIEEE(b))
		if err != api.OK || !bytes.Equal(written, append(want, b...)) {
			t.Errorf("Frame of %d bytes: %d", size, err)
		}
		for _, behind := range []string{"", "\x00", "\xff\xff\xff"} {
			got, k, err := wire.ReadFrame(append(slices.Clone(written), behind...))
			if !bytes.Equal(got, b) || k != len(written) || err != api.OK {
				t.Errorf("ReadFrame of %d bytes with %x behind: %d bytes, %d, %d", size, behind, len(got), k, err)
			}
		}
	}
}

// P1.4
func TestFrameTellsFaults(t *testing.T) {
	for _, b := range [][]byte{nil, {}, make([]byte, api.MaxRecord+1)} {
		if f, err := wire.Frame(b); len(f) != 0 || err != api.ErrSize {
			t.Errorf("Frame of %d bytes: %d bytes, %d", len(b), len(f), err)
		}
	}
	framed := func(size, sum uint32, b []byte) []byte {
		out := binary.BigEndian.AppendUint32(nil, size)
		return append(binary.BigEndian.AppendUint32(out, sum), b...)
	}
	great := make([]byte, api.MaxRecord+1)
	rows := []struct {
		name string
		in   []byte
		want api.Errno
	}{
		{"nothing", nil, api.ErrShort},
		{"seven bytes of a length of 0", make([]byte, 7), api.ErrShort},
		{"a length of 0 and its sum", framed(0, 0, nil), api.ErrForm},
		{"a length of 0, more behind", framed(0, 0, []byte("abc")), api.ErrForm},
		{"too great a length", framed(api.MaxRecord+1, 0, nil), api.ErrSize},
		{"too great a length, all there", framed(api.MaxRecord+1, crc32.ChecksumIEEE(great), great), api.ErrSize},
		{"the greatest length", framed(math.MaxUint32, 0, nil), api.ErrSize},
		{"a length of 2^31", framed(1<<31, 0, nil), api.ErrSize},
		{"a byte too few and a wrong sum", framed(2, 0, []byte("a")), api.ErrShort},
		{"most, and a byte too few", framed(api.MaxRecord, 0, make([]byte, api.MaxRecord-1)), api.ErrShort},
		{"a wrong sum", framed(1, 0, []byte("a")), api.ErrSum},
		{"a sum of what follows too", framed(1, crc32.ChecksumIEEE([]byte("ab")), []byte("ab")), api.ErrSum},
	}
	for _, r := range rows {
		if b, k, err := wire.ReadFrame(r.in); len(b) != 0 || k != 0 || err != r.want {
			t.Errorf("ReadFrame of %s: %d bytes, %d, %d, not the error %d", r.name, len(b), k, err, r.want)
		}
	}
	whole, _ := wire.Frame([]byte("abcdef"))
	for k := range len(whole) {
		if b, n, err := wire.ReadFrame(whole[:k]); len(b) != 0 || n != 0 || err != api.ErrShort {
			t.Errorf("ReadFrame of the first %d bytes: %x, %d, %d", k, b, n, err)
		}
	}
}

// P1.7
func TestATurnedBitIsTold(t *testing.T) {
	for _, size := range []int{1, 2, 17, 300} {
		f, _ := wire.Frame(noise(size, 3))
		for bit := 4 * 8; bit < len(f)*8; bit++ {
			f[bit/8] ^= 1 << (bit % 8)
			if b, k, err := wire.ReadFrame(f); len(b) != 0 || k != 0 || err != api.ErrSum {
				t.Errorf("a frame of %d bytes with bit %d turned: %d, %d", size, bit, k, err)
			}
			f[bit/8] ^= 1 << (bit % 8)
		}
	}
}

// P7: whatever the bytes are, the call ends, and what is read is what is written.
func TestAnyBytesAreAnswered(t *testing.T) {
	for seed := range uint32(3000) {
		b := noise(int(seed%40), seed)
		if n, k, err := wire.ReadUint(b); err == api.OK && !bytes.Equal(wire.Uint(n), b[:k]) {
			t.Errorf("ReadUint(%x) = %d, %d", b, n, k)
		}
		if s, k, err := wire.ReadText(b); err == api.OK {
			if w, _ := wire.Text(s); !bytes.Equal(w, b[:k]) {
				t.Errorf("ReadText(%x) = %x, %d", b, s, k)
			}
		} else if len(s) != 0 || k != 0 {
			t.Errorf("ReadText(%x) = %x, %d, %d", b, s, k, err)
		}
		if s, k, err := wire.ReadFrame(b); err == api.OK || len(s) != 0 || k != 0 {
			t.Errorf("ReadFrame(%x) = %x, %d, %d", b, s, k, err)
		}
	}
}

// The rules 4 and 5: no argument is changed, and no answer shares memory with it.
func TestAnswersAreNewMemory(t *testing.T) {
	text, _ := wire.Text([]byte("abc"))
	frame, _ := wire.Frame([]byte("abc"))
	calls := []struct {
		name string
		in   []byte
		call func([]byte) []byte
	}{
		{"Text", []byte("abc"), func(b []byte) []byte { r, _ := wire.Text(b); return r }},
		{"ReadText", text, func(b []byte) []byte { r, _, _ := wire.ReadText(b); return r }},
		{"Frame", []byte("abc"), func(b []byte) []byte { r, _ := wire.Frame(b); return r }},
		{"ReadFrame", frame, func(b []byte) []byte { r, _, _ := wire.ReadFrame(b); return r }},
	}
	for _, c := range calls {
		// Room behind the argument, so that an append onto it would be seen.
		backing := append(slices.Clone(c.in), "behind"...)
		was := slices.Clone(backing)
		in := backing[:len(c.in)]
		first := c.call(in)
		want := slices.Clone(first)
		clear(first[:cap(first)])
		_ = append(first, 9, 9, 9)
		if !bytes.Equal(backing, was) {
			t.Errorf("%s: its argument is changed", c.name)
		}
		second := c.call(in)
		clear(backing)
		if !bytes.Equal(second, want) {
			t.Errorf("%s: what it answers hangs on memory of others", c.name)
		}
	}
	first := wire.Uint(300)
	clear(first)
	if string(wire.Uint(300)) != "\xac\x02" {
		t.Error("Uint")
	}
}
