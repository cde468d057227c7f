package dev

import (
	"math"
	"math/rand"
	"slices"
	"testing"

	"heliograph/api"
)

// full is a sector that has c in each byte, so that a part of it would show.
func full(c byte) Sector {
	var s Sector
	for i := range s {
		s[i] = c
	}
	return s
}

func mustRead(t *testing.T, d *Device, i int) Sector {
	t.Helper()
	s, errno := d.Read(i)
	if errno != api.OK {
		t.Fatalf("Read(%d): %d", i, errno)
	}
	return s
}

func mustBe(t *testing.T, d *Device, want ...byte) {
	t.Helper()
	for i, c := range want {
		if got := mustRead(t, d, i); got != full(c) {
			t.Errorf("sector %d is %v, not all %d", i, got, c)
		}
	}
}

// P7.1: New.
func TestNew(t *testing.T) {
	for _, n := range []int{math.MinInt, -1, 0, api.MaxSectors + 1, math.MaxInt} {
		if New(n) != nil {
			t.Errorf("New(%d) is there", n)
		}
	}
	for _, n := range []int{1, 2, 4, api.MaxSectors} {
		d := New(n)
		if d.Size() != n || d.Pending() != 0 {
			t.Fatalf("New(%d): %d sectors, %d writes", n, d.Size(), d.Pending())
		}
		for i := range n {
			if mustRead(t, d, i) != (Sector{}) {
				t.Errorf("New(%d): sector %d is not 0", n, i)
			}
		}
	}
}

// P1, P7.1, P7.2: nil.
func TestNil(t *testing.T) {
	var d *Device
	s, errno := d.Read(-1)
	if s != (Sector{}) || errno != api.ErrNil {
		t.Error("Read", s, errno)
	}
	if d.Write(-1, full(1)) != api.ErrNil || d.Sync() != api.ErrNil || d.Crash([]bool{true}) != api.ErrNil {
		t.Error("no ErrNil")
	}
	if d.Size() != 0 || d.Pending() != 0 || d.Fork() != nil {
		t.Error("not zero")
	}
}

// P7.1: ErrRange, with nothing written and nothing read.
func TestRange(t *testing.T) {
	d := New(3)
	for i := range 3 {
		d.Write(i, full(7))
	}
	for _, i := range []int{math.MinInt, -1, 3, 4, api.MaxSectors, math.MaxInt} {
		if errno := d.Write(i, full(1)); errno != api.ErrRange {
			t.Errorf("Write(%d): %d", i, errno)
		}
		if s, errno := d.Read(i); s != (Sector{}) || errno != api.ErrRange {
			t.Errorf("Read(%d): %v, %d", i, s, errno)
		}
	}
	if d.Pending() != 3 {
		t.Error(d.Pending())
	}
	mustBe(t, d, 7, 7, 7)
}

// P7.1: what was written last is read, whether it lasts or not.
func TestWriteRead(t *testing.T) {
	d := New(3)
	for k, w := range []struct {
		at int
		c  byte
	}{{2, 1}, {0, 2}, {2, 3}, {2, 0}, {0, 4}} {
		if d.Write(w.at, full(w.c)) != api.OK || mustRead(t, d, w.at) != full(w.c) || d.Pending() != k+1 {
			t.Error(k, d.Pending())
		}
	}
	mustBe(t, d, 4, 0, 0)
	if d.Sync() != api.OK || d.Pending() != 0 {
		t.Error(d.Pending())
	}
	mustBe(t, d, 4, 0, 0)
	d.Write(0, full(5))
	mustBe(t, d, 5, 0, 0)
}

// P7.2: a write counts though it writes what is there.
func TestPendingOfTheSame(t *testing.T) {
	d := New(1)
	d.Write(0, Sector{})
	d.Write(0, Sector{})
	if d.Pending() != 2 {
		t.Error(d.Pending())
	}
}

// P7.1: which writes survive.
func TestCrash(t *testing.T) {
	const y, n = true, false
	for _, c := range []struct {
		survive []bool
		want    []byte
	}{
		{nil, []byte{9, 0}},
		{[]bool{}, []byte{9, 0}},
		{[]bool{n, n, n, n}, []byte{9, 0}},
		{[]bool{y}, []byte{1, 0}},
		{[]bool{y, n}, []byte{1, 0}},
		{[]bool{n, y}, []byte{2, 0}},
		{[]bool{y, y}, []byte{2, 0}},
		{[]bool{n, n, y}, []byte{9, 3}},
		{[]bool{y, n, n, y}, []byte{4, 0}},
		{[]bool{n, n, n, y}, []byte{4, 0}},
		{[]bool{y, y, y, n}, []byte{2, 3}},
		{[]bool{y, y, y, y, y, y}, []byte{4, 3}},
		{[]bool{n, n, n, n, y, y}, []byte{9, 0}},
	} {
		d := New(2)
		d.Write(0, full(9))
		d.Sync()
		d.Write(0, full(1))
		d.Write(0, full(2))
		d.Write(1, full(3))
		d.Write(0, full(4))
		if errno := d.Crash(c.survive); errno != api.OK || d.Pending() != 0 {
			t.Errorf("%v: %d, %d writes", c.survive, errno, d.Pending())
		}
		mustBe(t, d, c.want...)
		// What is there lasts now.
		d.Crash(nil)
		mustBe(t, d, c.want...)
	}
}

// P7.1: writes are counted anew behind a Sync and behind a Crash.
func TestCountedAnew(t *testing.T) {
	d := New(1)
	d.Write(0, full(1))
	d.Sync()
	d.Write(0, full(2))
	d.Crash([]bool{false, true})
	mustBe(t, d, 1)
	d.Write(0, full(3))
	d.Crash([]bool{true})
	mustBe(t, d, 3)
}

// P3: the list that is handed in stays as it is, and is not kept.
func TestSurviveStays(t *testing.T) {
	d := New(1)
	d.Write(0, full(1))
	room := []bool{true, false, true, false}
	d.Crash(room[:2])
	if !slices.Equal(room, []bool{true, false, true, false}) {
		t.Error(room)
	}
	room[0] = false
	mustBe(t, d, 1)
}

// P3: a sector that is answered is the caller's, and one that is written is the device's.
func TestSectorsAreValues(t *testing.T) {
	d := New(1)
	s := full(1)
	d.Write(0, s)
	s[0] = 2
	mustBe(t, d, 1)
	got := mustRead(t, d, 0)
	got[0] = 3
	mustBe(t, d, 1)
}

// P4, P7.2: Fork.
func TestFork(t *testing.T) {
	d := New(2)
	d.Write(0, full(1))
	d.Sync()
	d.Write(0, full(2))
	d.Write(1, full(3))
	f := d.Fork()
	if f.Size() != 2 || f.Pending() != 2 {
		t.Fatal(f.Size(), f.Pending())
	}
	mustBe(t, f, 2, 3)
	f.Write(1, full(4))
	d.Write(1, full(5))
	d.Write(0, full(6))
	mustBe(t, f, 2, 4)
	mustBe(t, d, 6, 5)
	if f.Pending() != 3 || d.Pending() != 4 {
		t.Error(f.Pending(), d.Pending())
	}
	f.Crash([]bool{false, true})
	mustBe(t, f, 1, 3)
	mustBe(t, d, 6, 5)
	d.Sync()
	mustBe(t, f, 1, 3)
	mustBe(t, d, 6, 5)
	f.Crash(nil)
	d.Crash(nil)
	mustBe(t, f, 1, 3)
	mustBe(t, d, 6, 5)
}

// P4: however many writes do not last, and so whatever room lies behind them.
func TestForkOfManyWrites(t *testing.T) {
	for n := range 20 {
		d := New(1)
		for range n {
			d.Write(0, full(1))
		}
		f, g := d.Fork(), d.Fork()
		f.Write(0, full(2))
		g.Write(0, full(3))
		d.Write(0, full(4))
		mustBe(t, f, 2)
		mustBe(t, g, 3)
		mustBe(t, d, 4)
	}
}

// model keeps all that was ever written, and works out from it what is there.
type model struct {
	size int
	log  []entry
}

type entry struct {
	at         int
	c          byte
	lasts, out bool
}

func (m *model) there(i int, lasting bool) byte {
	var c byte
	for _, e := range m.log {
		if e.at == i && !e.out && (e.lasts || !lasting) {
			c = e.c
		}
	}
	return c
}

func (m *model) pending() int {
	n := 0
	for _, e := range m.log {
		if !e.lasts && !e.out {
			n++
		}
	}
	return n
}

func (m *model) crash(survive []bool) {
	k := 0
	for i := range m.log {
		e := &m.log[i]
		if e.lasts || e.out {
			continue
		}
		e.lasts = k < len(survive) && survive[k]
		e.out = !e.lasts
		k++
	}
}

func (m *model) sync() {
	for i := range m.log {
		m.log[i].lasts = !m.log[i].out
	}
}

// survivors are the sectors to which a write goes that survives.
func (m *model) survivors(survive []bool) map[int]bool {
	at := map[int]bool{}
	k := 0
	for _, e := range m.log {
		if e.lasts || e.out {
			continue
		}
		if k < len(survive) && survive[k] {
			at[e.at] = true
		}
		k++
	}
	return at
}

// P7.1, P7.2, P7.3: long runs of calls, held against the model.
func TestAgainstModel(t *testing.T) {
	r := rand.New(rand.NewSource(7))
	for range 400 {
		m := &model{size: 1 + r.Intn(5)}
		d := New(m.size)
		for range 60 {
			step(t, r, m, d)
			for i := range m.size {
				if got := mustRead(t, d, i); got != full(m.there(i, false)) {
					t.Fatalf("sector %d: %v, not %d", i, got, m.there(i, false))
				}
			}
			if d.Pending() != m.pending() || d.Size() != m.size {
				t.Fatal(d.Pending(), m.pending())
			}
		}
	}
}

func step(t *testing.T, r *rand.Rand, m *model, d *Device) {
	switch r.Intn(10) {
	case 0:
		m.sync()
		d.Sync()
	case 1:
		survive := make([]bool, r.Intn(8))
		for k := range survive {
			survive[k] = r.Intn(2) == 0
		}
		crash(t, m, d, survive)
	default:
		at, c := r.Intn(m.size), byte(r.Intn(256))
		m.log = append(m.log, entry{at: at, c: c})
		d.Write(at, full(c))
	}
}

// crash asks for P7.3 too: what lasted is there, but where a write survives.
func crash(t *testing.T, m *model, d *Device, survive []bool) {
	at := m.survivors(survive)
	lasted := make([]byte, m.size)
	for i := range lasted {
		lasted[i] = m.there(i, true)
	}
	m.crash(survive)
	d.Crash(survive)
	for i, c := range lasted {
		if !at[i] && mustRead(t, d, i) != full(c) {
			t.Errorf("sector %d lasted as %d, and is gone", i, c)
		}
	}
}
