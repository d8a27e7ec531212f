package ring_test

import (
	"bytes"
	"encoding/binary"
	"hash/crc32"
	"slices"
	"testing"

	"lapidary/api"
	"lapidary/disk"
	"lapidary/ring"
)

// What stands on a device is laid here by other means than the program's.

func six(n int64) []byte {
	return binary.BigEndian.AppendUint64(nil, uint64(n))[2:]
}

func padded(parts ...[]byte) []byte {
	b := slices.Concat(parts...)
	return append(b, make([]byte, api.Sector-len(b))...)
}

type head struct {
	life         int64
	half         byte
	first, since int64
}

func (h head) bytes() []byte {
	b := slices.Concat([]byte("LAPIDARY"), six(h.life), []byte{h.half}, six(h.first), six(h.since))
	return padded(b, binary.BigEndian.AppendUint32(nil, crc32.ChecksumIEEE(b)))
}

type piece struct {
	life, seq   int64
	place       uint16
	last, count byte
	body        []byte
}

func (p piece) bytes() []byte {
	return padded(six(p.life), six(p.seq), binary.BigEndian.AppendUint16(nil, p.place), []byte{p.last, p.count}, p.body)
}

// pieces are those of a whole record.
func pieces(life, seq int64, b []byte) []piece {
	var out []piece
	for part := range slices.Chunk(b, 112) {
		out = append(out, piece{life, seq, uint16(len(out)), 0, byte(len(part)), part})
	}
	out[len(out)-1].last = 1
	return out
}

func lay(ps ...piece) []byte {
	var out []byte
	for _, p := range ps {
		out = append(out, p.bytes()...)
	}
	return out
}

// noise is bytes that are always the same ones.
func noise(n int, seed uint32) []byte {
	out := make([]byte, n)
	for i := range out {
		seed = seed*1664525 + 1013904223
		out[i] = byte(seed >> 24)
	}
	return out
}

func device(t *testing.T, sectors int) *disk.Disk {
	t.Helper()
	d, err := disk.New(sectors)
	if err != api.OK {
		t.Fatalf("New(%d) = %d", sectors, err)
	}
	return d
}

// put writes sectors to a device, safely.
func put(t *testing.T, d *disk.Disk, at int, b []byte) {
	t.Helper()
	if err := d.Write(at, b); err != api.OK {
		t.Fatalf("Write(%d, %d bytes) = %d", at, len(b), err)
	}
	if err := d.Flush(); err != api.OK {
		t.Fatalf("Flush() = %d", err)
	}
}

// have makes a device with one head, and sectors from the first one of its half on.
func have(t *testing.T, sectors int, h head, body []byte) *disk.Disk {
	t.Helper()
	d := device(t, sectors)
	put(t, d, int(h.life%2), h.bytes())
	if len(body) > 0 {
		put(t, d, 2+int(h.half)*((sectors-2)/2), body)
	}
	return d
}

func contents(t *testing.T, d *disk.Disk) []byte {
	t.Helper()
	b, err := d.Read(0, d.Size())
	if err != api.OK {
		t.Fatalf("Read = %d", err)
	}
	return b
}

// stands asks that sectors of a device are just these bytes.
func stands(t *testing.T, d *disk.Disk, at int, want []byte) {
	t.Helper()
	b, err := d.Read(at, len(want)/api.Sector)
	if err != api.OK || !bytes.Equal(b, want) {
		t.Errorf("from sector %d on stands\n%x, %d, not\n%x", at, b, err, want)
	}
}

func opened(t *testing.T, d *disk.Disk) (*ring.Log, [][]byte) {
	t.Helper()
	l, r, err := ring.Open(d)
	if err != api.OK || l == nil {
		t.Fatalf("Open = %v, %d", l, err)
	}
	return l, r
}

// fresh is a device with an empty log, and the log.
func fresh(t *testing.T, sectors int) (*disk.Disk, *ring.Log) {
	t.Helper()
	d := device(t, sectors)
	if err := ring.Format(d); err != api.OK {
		t.Fatalf("Format = %d", err)
	}
	l, r := opened(t, d)
	if len(r) != 0 {
		t.Fatalf("a log that is new has %d records", len(r))
	}
	return d, l
}

// refused asks that Open answers an error alone, and changes no byte.
func refused(t *testing.T, d *disk.Disk, want api.Errno) {
	t.Helper()
	before := d.Copy()
	l, r, err := ring.Open(d)
	if l != nil || r != nil || err != want {
		t.Errorf("Open = %v, %q, %d, not %d", l, r, err, want)
	}
	before.Crash(nil)
	d.Crash(nil)
	if !bytes.Equal(contents(t, d), contents(t, before)) {
		t.Error("Open changed a device that it refused")
	}
}

func appends(t *testing.T, l *ring.Log, b []byte, want api.Errno) {
	t.Helper()
	if err := l.Append(b); err != want {
		t.Errorf("Append(%d bytes) = %d, not %d", len(b), err, want)
	}
}

func rewrites(t *testing.T, l *ring.Log, b [][]byte, want api.Errno) {
	t.Helper()
	if err := l.Rewrite(b); err != want {
		t.Errorf("Rewrite(%d records) = %d, not %d", len(b), err, want)
	}
}

// at asks what a log tells of itself.
func at(t *testing.T, l *ring.Log, room int, life, seq int64) {
	t.Helper()
	if l.Room() != room || l.Life() != life || l.Seq() != seq {
		t.Errorf("room %d, life %d, seq %d, not %d, %d, %d", l.Room(), l.Life(), l.Seq(), room, life, seq)
	}
}

func same(a, b [][]byte) bool {
	return slices.EqualFunc(a, b, bytes.Equal)
}

// tells asks that a copy of the device, opened, tells just these.
func tells(t *testing.T, d *disk.Disk, want ...[]byte) {
	t.Helper()
	if _, r := opened(t, d.Copy()); !same(r, want) {
		t.Errorf("Open tells %q, not %q", r, want)
	}
}
