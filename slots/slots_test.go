package slots

import (
	"bytes"
	"encoding/binary"
	"hash/crc32"
	"math"
	"math/rand"
	"slices"
	"testing"

	"heliograph/api"
	"heliograph/dev"
)

// madeRoot is a root as the document has it, made by other means than the program's.
func madeRoot(turn uint64, length, sum uint32) dev.Sector {
	b := []byte("HG")
	b = binary.BigEndian.AppendUint64(b, turn)
	b = binary.BigEndian.AppendUint32(b, length)
	b = binary.BigEndian.AppendUint32(b, sum)
	b = binary.BigEndian.AppendUint32(b, crc32.ChecksumIEEE(b))
	var s dev.Sector
	copy(s[:], b)
	return s
}

func rootOf(turn uint64, b []byte) dev.Sector {
	return madeRoot(turn, uint32(len(b)), crc32.ChecksumIEEE(b))
}

func read(t *testing.T, d *dev.Device, i int) dev.Sector {
	t.Helper()
	s, errno := d.Read(i)
	if errno != api.OK {
		t.Fatal(i, errno)
	}
	return s
}

func sameDevice(t *testing.T, a, b *dev.Device) {
	t.Helper()
	if a.Size() != b.Size() || a.Pending() != b.Pending() {
		t.Fatalf("%d sectors with %d writes, %d sectors with %d writes", a.Size(), a.Pending(), b.Size(), b.Pending())
	}
	for i := range a.Size() {
		if x, y := read(t, a, i), read(t, b, i); x != y {
			t.Errorf("sector %d: %v, %v", i, x, y)
		}
	}
}

// lay writes bytes to sectors from one on.
func lay(d *dev.Device, at int, b []byte) {
	for k := 0; k*64 < len(b); k++ {
		var s dev.Sector
		copy(s[:], b[k*64:])
		d.Write(at+k, s)
	}
}

func holding(t *testing.T, s *Store, turn uint64, b []byte) {
	t.Helper()
	if got := s.Load(); s.Turn() != turn || !bytes.Equal(got, b) {
		t.Errorf("turn %d, %q; want %d, %q", s.Turn(), got, turn, b)
	}
}

// some are n bytes, none of them 0, unlike for each seed.
func some(n, seed int) []byte {
	b := make([]byte, n)
	for i := range b {
		b[i] = byte((i*7+seed*13)%255 + 1)
	}
	return b
}

// P8.2: Sum, also by the words of the document, bit by bit.
func TestSum(t *testing.T) {
	if got := Sum([]byte("123456789")); got != 0xcbf43926 {
		t.Errorf("%x", got)
	}
	if Sum(nil) != 0 || Sum([]byte{}) != 0 {
		t.Error("of nothing")
	}
	r := rand.New(rand.NewSource(8))
	for n := range 300 {
		b := make([]byte, n)
		r.Read(b)
		was := bytes.Clone(b)
		if got := Sum(b); got != crc32.ChecksumIEEE(b) || got != byBits(b) {
			t.Errorf("%x: %x", b, got)
		}
		if !bytes.Equal(b, was) {
			t.Error("changed")
		}
	}
}

func byBits(b []byte) uint32 {
	sum := uint32(math.MaxUint32)
	for _, c := range b {
		for bit := 0; bit < 8; bit++ {
			falls := sum & 1
			sum >>= 1
			if falls != uint32(c>>bit&1) {
				sum ^= 0xedb88320
			}
		}
	}
	return sum ^ math.MaxUint32
}

// P1: nil.
func TestNil(t *testing.T) {
	var s *Store
	if s.Save(nil) != api.ErrNil || s.Save(make([]byte, 1<<20)) != api.ErrNil || s.Torn(make([]byte, 1<<20), -1, nil) != api.ErrNil {
		t.Error("no ErrNil")
	}
	if len(s.Load()) != 0 || s.Turn() != 0 || s.Room() != 0 || s.Device() != nil || s.Fork() != nil {
		t.Error("not zero")
	}
}

// P8.1: Open, and Room.
func TestOpen(t *testing.T) {
	if Open(nil) != nil {
		t.Error("of nil")
	}
	for n := 1; n < 4; n++ {
		if Open(dev.New(n)) != nil {
			t.Error(n)
		}
	}
	for n, room := range map[int]int{4: 64, 5: 64, 6: 128, 7: 128, 8: 192, 9: 192, 100: 49 * 64, api.MaxSectors: 2047 * 64} {
		s := Open(dev.New(n))
		if s.Room() != room || s.Device().Size() != n {
			t.Errorf("%d sectors: room %d", n, s.Room())
		}
		holding(t, s, 0, nil)
	}
}

// P8.1: the store is over a Fork, with the writes that do not last.
func TestOpenForks(t *testing.T) {
	d := dev.New(4)
	d.Write(0, rootOf(3, []byte("x")))
	lay(d, 2, []byte("x"))
	before := d.Fork()
	s := Open(d)
	sameDevice(t, s.Device(), before)
	holding(t, s, 3, []byte("x"))
	s.Save([]byte("y"))
	sameDevice(t, d, before)
	d.Write(0, dev.Sector{})
	d.Write(1, dev.Sector{})
	d.Sync()
	holding(t, s, 4, []byte("y"))
}

// P8.2: what a Save writes, sector by sector.
func TestLayout(t *testing.T) {
	for _, n := range []int{4, 5, 6, 7, 10, 11} {
		h := (n - 2) / 2
		want := dev.New(n)
		s := Open(want)
		for turn, length := range []int{1, h * 64, 0, 63, 64, h*64 - 1, min(65, h*64), 0, 0} {
			b := some(length, turn)
			if errno := s.Save(b); errno != api.OK {
				t.Fatal(n, length, errno)
			}
			slot := turn % 2 // none held at first: slot 0
			lay(want, 2+slot*h, b)
			want.Write(slot, rootOf(uint64(turn+1), b))
			want.Sync()
			sameDevice(t, s.Device(), want)
			holding(t, s, uint64(turn+1), b)
			again := s.Device()
			again.Crash(nil)
			holding(t, Open(again), uint64(turn+1), b)
		}
	}
}

// P8.1: a slot holds only with a root that is right in each byte.
func TestRootBytes(t *testing.T) {
	d := dev.New(4)
	b := []byte("bytes")
	lay(d, 2, b)
	lay(d, 3, b)
	for slot := range 2 {
		right := rootOf(1<<40, b)
		for i := range right {
			for bit := range 8 {
				f := d.Fork()
				wrong := right
				wrong[i] ^= 1 << bit
				f.Write(slot, wrong)
				holding(t, Open(f), 0, nil)
			}
		}
		d.Write(slot, right)
		holding(t, Open(d), 1<<40, b)
		d.Write(slot, dev.Sector{})
	}
}

// P8.1: a turn of 0, a length too great, a sum that is another, with roots that are right for the rest.
func TestHolds(t *testing.T) {
	b := some(128, 1)
	sum := crc32.ChecksumIEEE
	for i, c := range []struct {
		root  dev.Sector
		holds int // how many bytes; below 0: it does not hold
	}{
		{madeRoot(1, 128, sum(b)), 128},
		{madeRoot(1, 127, sum(b[:127])), 127},
		{madeRoot(1, 65, sum(b[:65])), 65},
		{madeRoot(1, 64, sum(b[:64])), 64},
		{madeRoot(1, 1, sum(b[:1])), 1},
		{madeRoot(1, 0, 0), 0},
		{madeRoot(0, 128, sum(b)), -1},
		{madeRoot(0, 0, 0), -1},
		{madeRoot(1, 127, sum(b)), -1},
		{madeRoot(1, 128, sum(b)+1), -1},
		{madeRoot(1, 128, 0), -1},
		{madeRoot(1, 0, 1), -1},
		{madeRoot(1, 129, sum(append(slices.Clone(b), 0))), -1},
		{madeRoot(1, 192, sum(append(slices.Clone(b), make([]byte, 64)...))), -1},
		{madeRoot(1, math.MaxUint32, sum(b)), -1},
		{madeRoot(1, 1<<31, 0), -1},
	} {
		for slot := range 2 {
			d := dev.New(7)
			lay(d, 2+2*slot, b)
			d.Write(slot, c.root)
			s := Open(d)
			if c.holds < 0 {
				holding(t, s, 0, nil)
				continue
			}
			holding(t, s, 1, b[:c.holds])
			if t.Failed() {
				t.Fatal(i, slot)
			}
		}
	}
}

// P8.1: sectors that change take the hold away, if their bytes count.
func TestSpoiltBytes(t *testing.T) {
	s := Open(dev.New(6))
	b := some(70, 2)
	s.Save(b)
	for i := range 128 {
		d := s.Device()
		x := read(t, d, 2+i/64)
		x[i%64] ^= 0x10
		d.Write(2+i/64, x)
		if i < 70 {
			holding(t, Open(d), 0, nil)
		} else {
			holding(t, Open(d), 1, b)
		}
	}
}

// P8.1: which of two is THE SLOT; P8.2: the other one is written, with one turn more.
func TestTheSlot(t *testing.T) {
	zero, one, next := []byte("zero"), []byte("one"), []byte("next")
	for _, c := range []struct {
		turn0, turn1 uint64 // 0: it does not hold
		slot         int    // THE SLOT; below 0: none
	}{
		{0, 0, -1}, {1, 0, 0}, {0, 1, 1}, {1, 1, 0}, {1, 2, 1}, {2, 1, 0},
		{9, 9, 0}, {5, 900, 1}, {900, 5, 0},
		{1 << 63, 1, 0}, {1, 1 << 63, 1}, {1<<63 - 1, 1 << 63, 1}, {1 << 32, 1<<32 - 1, 0}, {255, 256, 1},
		{math.MaxUint64 - 1, 0, 0}, {3, math.MaxUint64 - 1, 1}, {math.MaxUint64 - 1, math.MaxUint64 - 1, 0},
	} {
		d := dev.New(4)
		lay(d, 2, zero)
		lay(d, 3, one)
		d.Write(0, rootOf(c.turn0, zero))
		d.Write(1, rootOf(c.turn1, one))
		s := Open(d)
		want, into := []byte(nil), 0
		switch c.slot {
		case 0:
			want, into = zero, 1
		case 1:
			want = one
		}
		holding(t, s, max(c.turn0, c.turn1), want)
		if s.Save(next) != api.OK {
			t.Error(c)
		}
		holding(t, s, max(c.turn0, c.turn1)+1, next)
		if got := read(t, s.Device(), into); got != rootOf(max(c.turn0, c.turn1)+1, next) {
			t.Error(c, got)
		}
		if got := read(t, s.Device(), 1-into); got != read(t, d, 1-into) {
			t.Error(c, got)
		}
	}
}

// P8.2: ErrFull and ErrRange, in this order, and nothing changes.
func TestRefused(t *testing.T) {
	s := Open(dev.New(7))
	s.Save(some(9, 1))
	s.Save(some(100, 2))
	d := s.Device()
	for _, n := range []int{129, 130, 192, 5000} {
		if s.Save(make([]byte, n)) != api.ErrFull || s.Torn(make([]byte, n), 2, []bool{true}) != api.ErrFull || s.Torn(make([]byte, n), -1, nil) != api.ErrFull {
			t.Error(n)
		}
	}
	for _, w := range []int{-1, -2, math.MinInt} {
		if s.Torn(make([]byte, 128), w, []bool{true, true}) != api.ErrRange || s.Torn(nil, w, nil) != api.ErrRange {
			t.Error(w)
		}
	}
	sameDevice(t, s.Device(), d)
	holding(t, s, 2, some(100, 2))
	if s.Save(make([]byte, 128)) != api.OK {
		t.Error("128")
	}
}

// P8.2: what is refused leaves the writes that do not last as they are.
func TestRefusedLeavesWrites(t *testing.T) {
	d := dev.New(4)
	d.Write(3, dev.Sector{1})
	s := Open(d)
	s.Save(make([]byte, 65))
	s.Torn(make([]byte, 65), 0, nil)
	s.Torn(nil, -1, nil)
	sameDevice(t, s.Device(), d)
}

// P8.2, P5: no turn behind the last one.
func TestLastTurn(t *testing.T) {
	b := []byte("b")
	for slot := range 2 {
		d := dev.New(4)
		lay(d, 2+slot, b)
		d.Write(slot, rootOf(math.MaxUint64-1, b))
		s := Open(d)
		if s.Save([]byte("c")) != api.OK {
			t.Error("one more")
		}
		holding(t, s, math.MaxUint64, []byte("c"))
		d = s.Device()
		if s.Save(nil) != api.ErrFull || s.Torn(nil, 0, nil) != api.ErrFull || s.Torn(nil, -1, nil) != api.ErrFull {
			t.Error("none more")
		}
		sameDevice(t, s.Device(), d)
		holding(t, s, math.MaxUint64, []byte("c"))
	}
}

// torn does by hand what the document says of Torn.
func torn(d *dev.Device, slot int, turn uint64, b []byte, writes int, survive []bool) {
	first := 2 + slot*((d.Size()-2)/2)
	n := 0
	for ; n*64 < len(b); n++ {
		if n == writes {
			d.Crash(survive)
			return
		}
		lay(d, first+n, b[n*64:min(len(b), n*64+64)])
	}
	if n < writes {
		d.Sync()
		d.Write(slot, rootOf(turn, b))
	}
	d.Crash(survive)
}

// lists are all lists of up to n bools.
func lists(n int) [][]bool {
	all := [][]bool{nil}
	last := all
	for range n {
		var next [][]bool
		for _, l := range last {
			next = append(next, append(slices.Clone(l), false), append(slices.Clone(l), true))
		}
		all = append(all, next...)
		last = next
	}
	return all
}

// P8.2, P8.4: the power goes behind each write, with all that may survive of it.
func TestTorn(t *testing.T) {
	old := []byte("what was there")
	for saves := range 4 {
		base := Open(dev.New(8))
		for k := range saves {
			base.Save(append(some(70, k), old...))
		}
		was := base.Load()
		slot := saves % 2
		for _, length := range []int{0, 1, 64, 65, 128, 192} {
			b := some(length, 50+saves)
			for _, writes := range []int{0, 1, 2, 3, 4, 5, 6, math.MaxInt} {
				for _, survive := range lists(4) {
					s, want := base.Fork(), base.Device()
					torn(want, slot, uint64(saves+1), b, writes, survive)
					if errno := s.Torn(b, writes, survive); errno != api.OK {
						t.Fatal(errno)
					}
					sameDevice(t, s.Device(), want)
					whole := writes > (length+63)/64 && len(survive) > 0 && survive[0]
					if whole {
						holding(t, s, uint64(saves+1), b)
					} else {
						holding(t, s, uint64(saves), was)
					}
				}
			}
		}
	}
}

// P8.2: the power goes right behind the writes: ahead of the Sync between the sectors and the root, and also ahead of any write.
func TestTornWithWritesOfBefore(t *testing.T) {
	for _, length := range []int{0, 10, 128} {
		for writes := range 5 {
			for _, survive := range lists(5) {
				d := dev.New(7)
				d.Write(6, dev.Sector{1})
				d.Write(5, dev.Sector{2})
				s, want := Open(d), d.Fork()
				b := some(length, writes)
				torn(want, 0, 1, b, writes, survive)
				s.Torn(b, writes, survive)
				sameDevice(t, s.Device(), want)
			}
		}
	}
}

// P8.3, P8.4: long runs of saves, some of them torn, on devices of all small sizes.
func TestRuns(t *testing.T) {
	r := rand.New(rand.NewSource(88))
	for range 300 {
		s := Open(dev.New(4 + r.Intn(8)))
		var there []byte
		for range 30 {
			b := make([]byte, r.Intn(s.Room()+1))
			r.Read(b)
			if r.Intn(2) == 0 {
				if s.Save(b) != api.OK || !bytes.Equal(s.Load(), b) {
					t.Fatal("saved, and not loaded")
				}
				there = b
				continue
			}
			survive := make([]bool, r.Intn(6))
			for k := range survive {
				survive[k] = r.Intn(2) == 0
			}
			s.Torn(b, r.Intn(8), survive)
			got := s.Load()
			if !bytes.Equal(got, there) && !bytes.Equal(got, b) {
				t.Fatal("neither what was there nor what was to be saved")
			}
			there = got
			holding(t, Open(s.Device()), s.Turn(), got)
		}
	}
}

// P8.3: the greatest device, filled to the last byte.
func TestGreatest(t *testing.T) {
	s := Open(dev.New(api.MaxSectors))
	for k := range 3 {
		b := some(s.Room(), k)
		if s.Save(b) != api.OK {
			t.Fatal(k)
		}
		holding(t, s, uint64(k+1), b)
	}
	if s.Save(make([]byte, s.Room()+1)) != api.ErrFull {
		t.Error("one byte more")
	}
}

// P3: nothing is shared with what is handed in or answered.
func TestNothingShared(t *testing.T) {
	s := Open(dev.New(6))
	room := some(100, 1)
	b := room[:90]
	want := slices.Clone(room)
	survive := []bool{true, false, true}
	s.Save(b)
	s.Torn(b, 1, survive[:1])
	s.Torn(b, 9, survive[:1])
	if !bytes.Equal(room, want) || !slices.Equal(survive, []bool{true, false, true}) {
		t.Error("what was handed in has changed")
	}
	clear(room)
	got := s.Load()
	holding(t, s, 2, want[:90])
	clear(got[:cap(got)])
	holding(t, s, 2, want[:90])
}

// P4, P8.2: Device and Fork.
func TestForks(t *testing.T) {
	d := dev.New(6)
	d.Write(5, dev.Sector{7})
	sameDevice(t, Open(d).Fork().Device(), d)
	s := Open(d)
	s.Save([]byte("one"))
	f := s.Fork()
	sameDevice(t, f.Device(), s.Device())
	f.Save([]byte("two"))
	holding(t, s, 1, []byte("one"))
	holding(t, f, 2, []byte("two"))
	s.Save([]byte("three"))
	s.Save([]byte("four"))
	holding(t, s, 3, []byte("four"))
	holding(t, f, 2, []byte("two"))
	out := f.Device()
	for i := range 6 {
		out.Write(i, dev.Sector{9})
	}
	out.Sync()
	holding(t, f, 2, []byte("two"))
	f.Save(nil)
	if read(t, out, 0) != (dev.Sector{9}) {
		t.Error("the device that was answered has changed")
	}
}
