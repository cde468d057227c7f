package gateway

import (
	"strconv"
	"strings"

	"heliograph/api"
	"heliograph/kv"
)

const (
	entryDigits = 8
	maxEntry    = 99999999
)

// entry is one of a user's log.
type entry struct {
	number int
	text   string
}

func logOf(user string) string { return "log/" + user + "/" }

// keyOf has as many digits of each number, so that keys rise as numbers do.
func keyOf(user string, number int) string {
	digits := strconv.Itoa(number)
	return logOf(user) + strings.Repeat("0", entryDigits-len(digits)) + digits
}

// entries are those of a user's log, rising.
func entries(m *kv.Map, user string) []entry {
	var l []entry
	prefix := logOf(user)
	for _, p := range m.Scan(prefix) {
		number, _ := strconv.Atoi(p.Key[len(prefix):])
		l = append(l, entry{number, p.Value})
	}
	return l
}

// behind is the number of the next entry of a user's log. It is behind all that connections were sent, also where these are gone from the log: else a new entry would be taken for one that was sent.
func (s *Server) behind(user string) int {
	last := 0
	for _, e := range entries(s.pairs, user) {
		last = e.number
	}
	for _, c := range s.open {
		last = max(last, c.sentOf(user))
	}
	for _, g := range s.ghosts {
		last = max(last, g.sentOf(user))
	}
	return last + 1
}

// sentOf is the last entry of a user's log that was sent, or 0.
func (s session) sentOf(user string) int {
	if s.user != user {
		return 0
	}
	return s.last
}

// put puts a text behind a user's log, in a map that is not yet saved.
func (s *Server) put(m *kv.Map, user, text string) api.Errno {
	number := s.behind(user)
	if number > maxEntry {
		return api.ErrFull
	}
	return m.Put(keyOf(user, number), text)
}

// save makes a map the server's, unless the store has no room for it.
func (t taking) save(m *kv.Map) api.Errno {
	errno := t.keep(m.Bytes())
	if errno == api.OK {
		t.pairs = m
	}
	return errno
}

// strike takes entries out of a user's log; those that are not there (any more) make nothing to be saved. There is always room for less.
func (t taking) strike(user string, numbers []int) {
	m := t.pairs.Fork()
	gone := 0
	for _, number := range numbers {
		if m.Delete(keyOf(user, number)) == api.OK {
			gone++
		}
	}
	if gone > 0 {
		t.save(m)
	}
}

// flush sends a user what it was not sent yet.
func (t taking) flush(user string) {
	c := t.listener(user)
	if c == nil {
		return
	}
	var done []int
	for _, e := range entries(t.pairs, user) {
		if e.number <= c.last {
			continue
		}
		if !c.send(e.text, e.number) {
			break
		}
		c.last = e.number
		if c.managed == nil {
			done = append(done, e.number)
		}
	}
	t.strike(user, done)
}

// listener is the connection that a user is told by, or nil.
func (s *Server) listener(user string) *conn {
	for _, c := range s.open {
		if c.user == user && c.available {
			return c
		}
	}
	return nil
}
