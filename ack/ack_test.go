package ack

import (
	"math"
	"math/rand"
	"slices"
	"strconv"
	"testing"

	"heliograph/api"
)

// beginnings are numbers of those acknowledged so far at which a queue is tried; behind some of them numbers of 32 bits go round.
var beginnings = []uint32{0, 1, 15, 1<<31 - 1, 1 << 31, math.MaxUint32 - 16, math.MaxUint32 - 3, math.MaxUint32}

// begun is a queue behind so many that were sent and acknowledged, with n more that wait.
func begun(t *testing.T, acknowledged uint32, n int) *Queue {
	t.Helper()
	q := New()
	q.acknowledged = acknowledged
	for i := range n {
		if errno := q.Send(strconv.Itoa(i)); errno != api.OK {
			t.Fatal(i, errno)
		}
	}
	return q
}

// names are those of begun, from one on, ahead of another one.
func names(from, to int) []string {
	var l []string
	for i := from; i < to; i++ {
		l = append(l, strconv.Itoa(i))
	}
	return l
}

func holds(t *testing.T, q *Queue, sent, handled uint32, waiting []string) {
	t.Helper()
	if q.Sent() != sent || q.Handled() != handled || !slices.Equal(q.Waiting(), waiting) {
		t.Fatalf("sent %d, handled %d, %q; want %d, %d, %q", q.Sent(), q.Handled(), q.Waiting(), sent, handled, waiting)
	}
}

// P1: nil.
func TestNil(t *testing.T) {
	var q *Queue
	q.Got()
	for _, h := range beginnings {
		if l, errno := q.Ack(h); len(l) != 0 || errno != api.ErrNil {
			t.Error(l, errno)
		}
		if l, errno := q.Resume(h); len(l) != 0 || errno != api.ErrNil {
			t.Error(l, errno)
		}
	}
	if q.Send("") != api.ErrNil || q.Send("a") != api.ErrNil {
		t.Error("no ErrNil")
	}
	if q.Handled() != 0 || q.Sent() != 0 || len(q.Waiting()) != 0 || q.Fork() != nil {
		t.Error("not zero")
	}
}

// P10.1, P10.2: at the beginning there is nothing, and only 0 may be acknowledged; queues are apart.
func TestNew(t *testing.T) {
	q, o := New(), New()
	holds(t, q, 0, 0, nil)
	for _, h := range []uint32{1, 2, 16, 1 << 31, math.MaxUint32} {
		if l, errno := q.Ack(h); len(l) != 0 || errno != api.ErrRange {
			t.Error(h, l, errno)
		}
		if l, errno := q.Resume(h); len(l) != 0 || errno != api.ErrRange {
			t.Error(h, l, errno)
		}
	}
	if l, errno := q.Ack(0); len(l) != 0 || errno != api.OK {
		t.Error(l, errno)
	}
	if l, errno := q.Resume(0); len(l) != 0 || errno != api.OK {
		t.Error(l, errno)
	}
	q.Send("a")
	q.Got()
	holds(t, q, 1, 1, []string{"a"})
	holds(t, o, 0, 0, nil)
}

// The document's example.
func TestExample(t *testing.T) {
	q := New()
	q.Send("a")
	q.Send("b")
	if l, errno := q.Ack(1); !slices.Equal(l, []string{"a"}) || errno != api.OK {
		t.Error(l, errno)
	}
	if l, errno := q.Ack(3); len(l) != 0 || errno != api.ErrRange {
		t.Error(l, errno)
	}
	holds(t, q, 2, 0, []string{"b"})
}

// P10.1, P10.4, P10.5: MaxQueue wait, and no more; what is refused was not sent.
func TestFull(t *testing.T) {
	for _, first := range beginnings {
		q := begun(t, first, 16)
		for range 3 {
			if q.Send("more") != api.ErrFull {
				t.Error("no ErrFull")
			}
			holds(t, q, first+16, 0, names(0, 16))
		}
		if l, errno := q.Ack(first + 1); !slices.Equal(l, []string{"0"}) || errno != api.OK {
			t.Error(l, errno)
		}
		if q.Send("more") != api.OK || q.Send("yet more") != api.ErrFull {
			t.Error("room for one")
		}
		holds(t, q, first+17, 0, append(names(1, 16), "more"))
	}
}

// P10.1: texts of any kind are sent, alike ones too.
func TestTexts(t *testing.T) {
	q := New()
	texts := []string{"", "a", "a", "", "\xff\x00", "<message/>"}
	for _, s := range texts {
		if q.Send(s) != api.OK {
			t.Errorf("%q", s)
		}
	}
	holds(t, q, 6, 0, texts)
	if l, errno := q.Ack(6); !slices.Equal(l, texts) || errno != api.OK {
		t.Error(l, errno)
	}
}

// P10.1, P10.5: Ack and Resume with each number near to what waits, wherever the count stands.
func TestAckAndResume(t *testing.T) {
	for _, first := range beginnings {
		for n := range 17 {
			for step := -20; step <= 36; step++ {
				h := first + uint32(step)
				q := begun(t, first, n)
				q.Got()
				r := q.Fork()
				done, errno := q.Ack(h)
				rest, again := r.Resume(h)
				if errno != again {
					t.Fatal(errno, again)
				}
				if step < 0 || step > n {
					if errno != api.ErrRange || len(done) != 0 || len(rest) != 0 {
						t.Fatal(first, n, step, errno, done, rest)
					}
					holds(t, q, first+uint32(n), 1, names(0, n))
					holds(t, r, first+uint32(n), 1, names(0, n))
					continue
				}
				if errno != api.OK || !slices.Equal(done, names(0, step)) || !slices.Equal(rest, names(step, n)) {
					t.Fatal(first, n, step, errno, done, rest)
				}
				holds(t, q, first+uint32(n), 1, names(step, n))
				holds(t, r, first+uint32(n), 1, names(step, n))
			}
		}
	}
}

// P10.1: numbers far from what waits; a number of 32 bits is not taken for one below 0.
func TestAckFar(t *testing.T) {
	for _, first := range beginnings {
		q := begun(t, first, 16)
		for _, far := range []uint32{17, 1 << 8, 1 << 16, 1<<16 + 3, 1 << 31, 1<<31 + 1, math.MaxUint32 - 1, math.MaxUint32} {
			if l, errno := q.Ack(first + far); len(l) != 0 || errno != api.ErrRange {
				t.Error(first, far, l, errno)
			}
			if l, errno := q.Resume(first + far); len(l) != 0 || errno != api.ErrRange {
				t.Error(first, far, l, errno)
			}
		}
		holds(t, q, first+16, 0, names(0, 16))
	}
}

// P10.1: what is acknowledged again is nothing; what is below is refused.
func TestAckAgain(t *testing.T) {
	q := begun(t, math.MaxUint32-1, 5)
	if l, errno := q.Ack(1); !slices.Equal(l, names(0, 3)) || errno != api.OK {
		t.Error(l, errno)
	}
	if l, errno := q.Ack(1); len(l) != 0 || errno != api.OK {
		t.Error(l, errno)
	}
	for _, h := range []uint32{0, math.MaxUint32, math.MaxUint32 - 1, 4} {
		if l, errno := q.Ack(h); len(l) != 0 || errno != api.ErrRange {
			t.Error(h, l, errno)
		}
	}
	for range 2 {
		if l, errno := q.Resume(1); !slices.Equal(l, names(3, 5)) || errno != api.OK {
			t.Error(l, errno)
		}
	}
	if l, errno := q.Resume(3); len(l) != 0 || errno != api.OK {
		t.Error(l, errno)
	}
	holds(t, q, 3, 0, nil)
}

// P10.2: Handled goes round, and counts nothing but Got.
func TestHandled(t *testing.T) {
	q := begun(t, 0, 2)
	for i := range 1000 {
		if q.Handled() != uint32(i) {
			t.Fatal(q.Handled())
		}
		q.Got()
	}
	q.Ack(1)
	q.Resume(2)
	q.Send("a")
	holds(t, q, 3, 1000, []string{"a"})
	q.handled = math.MaxUint32 - 1
	q.Got()
	holds(t, q, 3, math.MaxUint32, []string{"a"})
	q.Got()
	holds(t, q, 3, 0, []string{"a"})
	q.Got()
	holds(t, q, 3, 1, []string{"a"})
}

// P10.2: Sent goes round.
func TestSent(t *testing.T) {
	q := begun(t, math.MaxUint32-2, 0)
	for _, want := range []uint32{math.MaxUint32 - 1, math.MaxUint32, 0, 1, 2} {
		q.Send("")
		if q.Sent() != want {
			t.Error(q.Sent(), want)
		}
	}
}

// P10.3, P10.4, P10.5: long runs; what was answered by Ack, and what waits, is all that was sent, in order.
func TestRuns(t *testing.T) {
	r := rand.New(rand.NewSource(10))
	for _, first := range beginnings {
		q := begun(t, first, 0)
		var sent, done []string
		handled := uint32(0)
		for i := range 3000 {
			waits := len(sent) - len(done)
			switch r.Intn(6) {
			case 0:
				h := first + uint32(len(done)+r.Intn(40)-10)
				l, errno := q.Ack(h)
				if n := int(int32(h - first - uint32(len(done)))); n < 0 || n > waits {
					if errno != api.ErrRange || len(l) != 0 {
						t.Fatal(l, errno)
					}
				} else if errno != api.OK || len(l) != n {
					t.Fatal(l, errno)
				}
				done = append(done, l...)
			case 1:
				n := r.Intn(waits + 1)
				done = sent[: len(done)+n : len(done)+n]
				l, errno := q.Resume(first + uint32(len(done)))
				if errno != api.OK || !slices.Equal(l, sent[len(done):]) {
					t.Fatal(l, errno)
				}
			case 2:
				q.Got()
				handled++
			default:
				s := strconv.Itoa(i)
				if errno := q.Send(s); (errno == api.OK) != (waits < 16) || errno != api.OK && errno != api.ErrFull {
					t.Fatal(errno)
				} else if errno == api.OK {
					sent = append(sent, s)
				}
			}
			if !slices.Equal(append(slices.Clone(done), q.Waiting()...), sent) || len(q.Waiting()) > 16 {
				t.Fatal("not all that was sent, in order")
			}
			holds(t, q, first+uint32(len(sent)), handled, sent[len(done):])
		}
	}
}

// P4: a Fork has the same, and each goes its own way.
func TestFork(t *testing.T) {
	for _, first := range beginnings {
		q := begun(t, first, 5)
		q.Got()
		q.Ack(first + 1)
		f := q.Fork()
		holds(t, f, first+5, 1, names(1, 5))
		f.Send("f")
		q.Send("q")
		q.Got()
		holds(t, f, first+6, 1, append(names(1, 5), "f"))
		holds(t, q, first+6, 2, append(names(1, 5), "q"))
		if l, errno := f.Ack(first + 6); !slices.Equal(l, append(names(1, 5), "f")) || errno != api.OK {
			t.Error(l, errno)
		}
		holds(t, q, first+6, 2, append(names(1, 5), "q"))
		q.Resume(first + 3)
		q.Send("r")
		holds(t, f, first+6, 1, nil)
		holds(t, q, first+7, 2, append(names(3, 5), "q", "r"))
	}
}

// P3: what is answered is the caller's, with the room behind it: it can be changed and added to, and nothing else turns.
func TestAnswersAreTheCallers(t *testing.T) {
	spoil := func(l []string) {
		clear(l[:cap(l)])
		_ = append(l[:len(l):cap(l)], "x", "y", "z")
	}
	for n := range 17 {
		for step := range n + 1 {
			q := begun(t, 0, n)
			f := q.Fork()
			spoil(q.Waiting())
			holds(t, q, uint32(n), 0, names(0, n))
			done, _ := q.Ack(uint32(step))
			rest, _ := q.Resume(uint32(step))
			spoil(done)
			if !slices.Equal(rest, names(step, n)) {
				t.Fatal("two answers share", rest)
			}
			spoil(rest)
			holds(t, q, uint32(n), 0, names(step, n))
			holds(t, f, uint32(n), 0, names(0, n))
		}
	}
}

// P3: nor does what is sent later turn an answer, and an answer tells nothing of what still waits.
func TestAnswersStay(t *testing.T) {
	q := begun(t, 0, 6)
	waited := q.Waiting()
	done, _ := q.Ack(2)
	if got := done[:cap(done)]; len(got) > 2 && slices.Contains(got[2:], "2") {
		t.Errorf("behind the end: %q", got)
	}
	rest, _ := q.Resume(3)
	for q.Send("more") == api.OK {
	}
	if !slices.Equal(waited, names(0, 6)) || !slices.Equal(done, names(0, 2)) || !slices.Equal(rest, names(3, 6)) {
		t.Error(waited, done, rest)
	}
}
