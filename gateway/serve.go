package gateway

import (
	"bytes"
	"strconv"
	"strings"

	"heliograph/ack"
	"heliograph/api"
	"heliograph/kv"
	"heliograph/request"
	"heliograph/service"
	"heliograph/stanza"
	"heliograph/write"
)

// serve does what an element asks for, on a connection that has an address.
func (t taking) serve(l []api.Token) {
	switch l[0].Name {
	case "enable":
		t.enable()
	case "r":
		t.mustBeManaged()
		t.say("<a h='" + digits(t.managed.Handled()) + "'/>")
	case "a":
		t.mustBeManaged()
		t.acknowledge(l[0])
	default:
		t.handle(l)
	}
}

func (t taking) enable() {
	if t.managed != nil {
		t.refuse("unexpected-request")
		return
	}
	t.managed = &managed{Queue: ack.New(), token: "t" + strconv.Itoa(t.number)}
	t.say("<enabled id='" + t.managed.token + "'/>")
}

func (t taking) mustBeManaged() {
	if t.managed == nil {
		giveUp(unsupportedStanza)
	}
}

func (t taking) acknowledge(x api.Token) {
	h, ok := count(x)
	if !ok {
		giveUp(unsupportedStanza)
	}
	if _, errno := t.managed.Ack(h); errno != api.OK {
		giveUp("undefined-condition")
	}
	t.strike(t.user, t.managed.settled())
	t.flush(t.user)
}

// handle does what a stanza asks for.
func (t taking) handle(l []api.Token) {
	q, errno := stanza.Decode(l)
	if errno != api.OK {
		giveUp(unsupportedStanza)
	}
	if t.managed != nil {
		t.managed.Got()
	}
	switch {
	case q.Kind == api.Presence:
		t.present(q.Type)
	case q.Type == "error" || q.Type == "result":
		// An answer to an answer would have no end.
	case q.Kind == api.Message:
		t.answer(stanza.Error(q, api.ServiceUnavailable))
	default:
		t.ask(q)
	}
}

func (t taking) present(kind string) {
	switch kind {
	case "":
		t.available = true
		t.flush(t.user)
	case "unavailable":
		t.available = false
	}
}

// answer sends a stanza that can't wait: without room for it the connection fails.
func (t taking) answer(q api.Stanza) {
	if !t.send(textOf(q), 0) {
		t.fail(t.conn, "resource-constraint")
	}
}

func textOf(q api.Stanza) string {
	l, _ := stanza.Encode(q)
	s, _ := write.Print(l)
	return s
}

// ask asks the service, and answers. Who has a note is told of it behind the answer, even if that made the connection fail: the note is saved.
func (t taking) ask(q api.Stanza) {
	r, errno := request.Decode(q.Payload)
	if errno != api.OK || request.Get(r) != (q.Type == "get") {
		t.answer(stanza.Error(q, api.BadRequest))
		return
	}
	m, reply, notes := service.Do(t.pairs, t.addressOf(t.user), r)
	if t.putNotes(m, notes) != api.OK || t.saveTurned(m) != api.OK {
		t.answer(stanza.Error(q, api.ResourceConstraint))
		return
	}
	if reply.Cond != api.NoCond {
		t.answer(stanza.Error(q, reply.Cond))
	} else {
		t.answer(stanza.Result(q, request.Answer(r, reply)))
	}
	for _, n := range notes {
		if user, ok := t.userOf(n.To); ok {
			t.flush(user)
		}
	}
}

// addressOf is the bare address of a user.
func (s *Server) addressOf(user string) string { return user + "@" + s.domain }

// userOf is the user of a bare address.
func (s *Server) userOf(address string) (string, bool) {
	name, ok := strings.CutSuffix(address, "@"+s.domain)
	return name, ok && named(s.users, name)
}

// putNotes puts notes behind the logs of those users whom they are to.
func (s *Server) putNotes(m *kv.Map, notes []api.Note) api.Errno {
	for _, n := range notes {
		user, ok := s.userOf(n.To)
		if !ok {
			continue
		}
		message := api.Stanza{Kind: api.Message, From: "pubsub." + s.domain, To: n.To, Payload: request.Event(n)}
		if errno := s.put(m, user, textOf(message)); errno != api.OK {
			return errno
		}
	}
	return api.OK
}

// saveTurned saves a map, if it is not as the server's is.
func (t taking) saveTurned(m *kv.Map) api.Errno {
	if bytes.Equal(m.Bytes(), t.pairs.Bytes()) {
		return api.OK
	}
	return t.save(m)
}
