package slots

import "heliograph/dev"

// Where the parts of a root begin.
const (
	mark     = "HG"
	atTurn   = len(mark)
	atLength = atTurn + 8
	atSum    = atLength + 4
	atCheck  = atSum + 4
	atRest   = atCheck + 4
)

// poly is what the check sum is turned by.
const poly uint32 = 0xedb88320

// root is what a slot's root tells.
type root struct {
	turn        uint64
	length, sum uint32
}

func (r root) sector() dev.Sector {
	var s dev.Sector
	copy(s[:], mark)
	setNumber(s[atTurn:atLength], r.turn)
	setNumber(s[atLength:atSum], uint64(r.length))
	setNumber(s[atSum:atCheck], uint64(r.sum))
	setNumber(s[atCheck:atRest], uint64(Sum(s[:atCheck])))
	return s
}

// readRoot takes a sector for a root, if what it tells makes the same sector again: its mark, its check sum and its noughts are right then.
func readRoot(s dev.Sector) (root, bool) {
	r := root{
		turn:   number(s[atTurn:atLength]),
		length: uint32(number(s[atLength:atSum])),
		sum:    uint32(number(s[atSum:atCheck])),
	}
	return r, r.sector() == s
}

func setNumber(b []byte, n uint64) {
	for i := range b {
		b[len(b)-1-i] = byte(n >> (8 * i))
	}
}

func number(b []byte) uint64 {
	var n uint64
	for _, c := range b {
		n = n<<8 | uint64(c)
	}
	return n
}

// Sum is the check sum of bytes. A byte's bits are turned in all at once, since none of them meets another one ahead of its own shift.
func Sum(b []byte) uint32 {
	sum := ^uint32(0)
	for _, c := range b {
		sum ^= uint32(c)
		for range 8 {
			sum = sum>>1 ^ poly&-(sum&1)
		}
	}
	return ^sum
}
