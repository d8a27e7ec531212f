package disk_test

import (
	"bytes"
	"testing"

	"lapidary/api"
	"lapidary/disk"
)

// chance is numbers that are always the same ones.
type chance uint64

func (c *chance) below(n int) int {
	*c = *c*6364136223846793005 + 1442695040888963407
	return int(uint64(*c)>>33) % n
}

// plain is the simplest device: what is safe, and the writes since, applied anew at each reading.
type plain struct {
	safe   [][]byte
	at     []int
	bytes  [][]byte
	left   int
	failed bool
}

func newPlain(n int) *plain {
	p := &plain{}
	for range n {
		p.safe = append(p.safe, make([]byte, api.Sector))
	}
	return p
}

func (p *plain) read() []byte {
	now := append([][]byte(nil), p.safe...)
	for i, at := range p.at {
		now[at] = p.bytes[i]
	}
	return bytes.Join(now, nil)
}

func (p *plain) write(at int, b []byte) api.Errno {
	for i := 0; i < len(b); i += api.Sector {
		p.left--
		if p.failed = p.failed || p.left == 0; p.failed {
			return api.ErrDead
		}
		p.at = append(p.at, at+i/api.Sector)
		p.bytes = append(p.bytes, bytes.Clone(b[i:i+api.Sector]))
	}
	return api.OK
}

func (p *plain) crash(keep []bool) {
	for i, at := range p.at {
		if i < len(keep) && keep[i] {
			p.safe[at] = p.bytes[i]
		}
	}
	p.at, p.bytes, p.left, p.failed = nil, nil, 0, false
}

func bools(c *chance, n int) []bool {
	out := make([]bool, n)
	for i := range out {
		out[i] = c.below(2) == 1
	}
	return out
}

// P3.1 to P3.4: any calls, held against the simplest device.
func TestAnyCallsAgainstThePlainDevice(t *testing.T) {
	c := chance(3)
	for range 60 {
		size := 1 + c.below(6)
		d, p := made(t, size), newPlain(size)
		for range 80 {
			switch c.below(8) {
			default:
				at := c.below(size)
				b := make([]byte, (1+c.below(size-at))*api.Sector)
				for i := range b {
					b[i] = byte(c.below(3))
				}
				if c.below(3) == 0 {
					clear(b)
				}
				write(t, d, at, b, p.write(at, b))
			case 1:
				want := api.OK
				if p.failed {
					want = api.ErrDead
				} else {
					p.safe, p.at, p.bytes = sectors(p.read()), nil, nil
				}
				flush(t, d, want)
			case 2:
				n := c.below(7) - 1
				p.left = max(n, 0)
				d.Fail(n)
			case 3:
				keep := bools(&c, c.below(len(p.at)+3))
				p.crash(keep)
				d.Crash(keep)
			case 4:
				d = d.Copy()
			}
			if d.Pending() != len(p.at) {
				t.Fatalf("Pending() = %d, not %d", d.Pending(), len(p.at))
			}
			b, err := d.Read(0, size)
			if p.failed && err != api.ErrDead || !p.failed && !bytes.Equal(b, p.read()) {
				t.Fatalf("Read = %v, %d", b, err)
			}
		}
	}
}

func sectors(b []byte) [][]byte {
	var out [][]byte
	for i := 0; i < len(b); i += api.Sector {
		out = append(out, b[i:i+api.Sector])
	}
	return out
}

// P3.4: every crash leaves what was safe, and each sector whole.
func TestWhatWasSafeStands(t *testing.T) {
	for keep := range 1 << 4 {
		d := made(t, 5)
		write(t, d, 0, fill(5, 1), api.OK)
		flush(t, d, api.OK)
		write(t, d, 1, fill(2, 2), api.OK)
		write(t, d, 2, fill(1, 3), api.OK)
		d.Fail(2)
		write(t, d, 3, fill(2, 4), api.ErrDead)
		d.Crash([]bool{keep&1 != 0, keep&2 != 0, keep&4 != 0, keep&8 != 0})
		want := []byte{1, 1, 1, 1, 1}
		for i, w := range [][2]byte{{1, 2}, {2, 2}, {2, 3}, {3, 4}} {
			if keep&(1<<i) != 0 {
				want[w[0]] = w[1]
			}
		}
		holds(t, d, want...)
	}
}

// P3.5
func TestACrashThatLosesNothingChangesNothing(t *testing.T) {
	c := chance(5)
	for range 40 {
		d := made(t, 8)
		for range 10 {
			at := c.below(8)
			write(t, d, at, fill(1+c.below(8-at), byte(c.below(4))), api.OK)
		}
		before, _ := d.Read(0, 8)
		all := make([]bool, d.Pending())
		for i := range all {
			all[i] = true
		}
		kept, flushed := d.Copy(), d.Copy()
		kept.Crash(all)
		same(t, kept, before)
		flush(t, flushed, api.OK)
		same(t, flushed, before)
		flushed.Crash(bools(&c, 12))
		same(t, flushed, before)
		flushed.Crash(nil)
		same(t, flushed, before)
	}
}

func same(t *testing.T, d *disk.Disk, want []byte) {
	t.Helper()
	if b, err := d.Read(0, d.Size()); err != api.OK || !bytes.Equal(b, want) {
		t.Errorf("a byte was changed: %d", err)
	}
}
