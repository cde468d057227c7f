package gateway

import (
	"slices"

	"heliograph/ack"
	"heliograph/api"
	"heliograph/xml"
)

// phase is how far a connection has come.
type phase int

const (
	closed phase = iota
	fresh
	greeted
	known
	bound
)

// conn is a connection.
type conn struct {
	stream
	session
	number int
	phase  phase
}

// stream is what comes and goes on a connection.
type stream struct {
	parser  *xml.Parser
	out     []byte
	depth   int         // how many elements are open, as far as tokens were taken
	element []api.Token // what was taken so far of the one right below the outermost
}

// session is what a connection has come to be; it may be taken up again by another one.
type session struct {
	user      string // a name
	address   string
	available bool
	last      int      // the number of the last entry of the log that was sent
	managed   *managed // nil: it is not
}

// managed is a queue, with its token. The queue knows but texts, of which two may be alike; so of each one that waits stands here which entry of the log it is, or 0.
type managed struct {
	*ack.Queue
	token   string
	entries []int
}

// ghost is the session of a connection that was cut off.
type ghost struct {
	session
	ticks int
}

// ghostTicks is how long a ghost stays.
const ghostTicks = 3

func newConn(number int) *conn {
	return &conn{stream: stream{parser: xml.New()}, number: number, phase: fresh}
}

func (s *stream) say(text string) { s.out = append(s.out, text...) }

func (s *stream) takeOut() []byte {
	b := s.out
	s.out = nil
	return b
}

// send sends a stanza, of an entry of the log or of none (0); false: there is no room for it.
func (c *conn) send(text string, entry int) bool {
	if m := c.managed; m != nil {
		if m.Send(text) != api.OK {
			return false
		}
		m.entries = append(m.entries, entry)
	}
	c.say(text)
	return true
}

// settled takes out the entries of those stanzas that wait no more.
func (m *managed) settled() []int {
	n := len(m.entries) - len(m.Waiting())
	l := m.entries[:n]
	m.entries = m.entries[n:]
	return l
}

func (m *managed) fork() *managed {
	if m == nil {
		return nil
	}
	return &managed{m.Fork(), m.token, slices.Clone(m.entries)}
}

func (c *conn) fork() *conn {
	f := *c
	f.parser, f.out, f.element = c.parser.Fork(), slices.Clone(c.out), slices.Clone(c.element)
	f.managed = c.managed.fork()
	return &f
}

func (g *ghost) fork() *ghost {
	f := *g
	f.managed = g.managed.fork()
	return &f
}

func forks[T interface{ fork() T }](l []T) []T {
	var f []T
	for _, x := range l {
		f = append(f, x.fork())
	}
	return f
}
