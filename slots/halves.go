package slots

import (
	"heliograph/api"
	"heliograph/dev"
)

const (
	roots      = 2         // how many sectors the two roots take
	minSectors = roots + 2 // with one sector for each slot
)

// halves is a device that is cut into two slots.
type halves struct{ *dev.Device }

// held is what a slot holds; its turn is 0, if there is none.
type held struct {
	slot  int
	turn  uint64
	bytes []byte
}

func (h halves) half() int { return (h.Size() - roots) / 2 }

func (h halves) room() int { return h.half() * api.SectorSize }

// first is the number of a slot's first sector.
func (h halves) first(slot int) int { return roots + slot*h.half() }

// theSlot is the slot that counts. Where none holds it is slot 1 with nothing, so that the other one is always that to be written next.
func (h halves) theSlot() held {
	best := held{slot: 1}
	for slot := range 2 {
		if x, ok := h.holds(slot); ok && x.turn > best.turn {
			best = x
		}
	}
	return best
}

func (h halves) holds(slot int) (held, bool) {
	s, _ := h.Read(slot)
	r, ok := readRoot(s)
	if !ok || r.turn == 0 || uint64(r.length) > uint64(h.room()) {
		return held{}, false
	}
	b := h.bytes(slot, int(r.length))
	if Sum(b) != r.sum {
		return held{}, false
	}
	return held{slot, r.turn, b}, true
}

// bytes are so many of a slot's.
func (h halves) bytes(slot, length int) []byte {
	b := make([]byte, 0, length)
	for k := range count(length) {
		s, _ := h.Read(h.first(slot) + k)
		b = append(b, s[:min(api.SectorSize, length-len(b))]...)
	}
	return b
}

// put saves bytes instead of the last ones, but for the last Sync, and stops right behind so many writes: if these are but the sectors, the Sync ahead of the root isn't made any more.
func (h halves) put(last held, b []byte, writes int) {
	next := 1 - last.slot
	for k, s := range sectors(b) {
		if k == writes {
			break
		}
		h.Write(h.first(next)+k, s)
	}
	if writes <= count(len(b)) {
		return
	}
	h.Sync()
	h.Write(next, root{last.turn + 1, uint32(len(b)), Sum(b)}.sector())
}

// count is how many sectors so many bytes take.
func count(length int) int {
	return (length + api.SectorSize - 1) / api.SectorSize
}

// sectors yields those of bytes with their numbers; what the last one has left is 0.
func sectors(b []byte) func(yield func(int, dev.Sector) bool) {
	return func(yield func(int, dev.Sector) bool) {
		for k := range count(len(b)) {
			var s dev.Sector
			copy(s[:], b[k*api.SectorSize:])
			if !yield(k, s) {
				return
			}
		}
	}
}
