package gateway

import (
	"slices"
	"strconv"

	"heliograph/api"
	"heliograph/jid"
	"heliograph/text"
	"heliograph/write"
)

// taking is what one connection's bytes are taken by; keep is how bytes are saved.
type taking struct {
	*Server
	*conn
	keep func(b []byte) api.Errno
}

// streamError is what something is given up with that ends the connection: the name of the error.
type streamError string

// powerLoss is what all is given up with when the power goes.
type powerLoss struct{}

// Stream errors that are told at several places.
const (
	notAuthorized     streamError = "not-authorized"
	policyViolation   streamError = "policy-violation"
	unsupportedStanza streamError = "unsupported-stanza-type"
)

func giveUp(e streamError) { panic(e) }

// feed is the one place where what was given up ends.
func (t taking) feed(b []byte) {
	defer func() {
		switch x := recover().(type) {
		case nil, powerLoss:
		case streamError:
			t.fail(t.conn, string(x))
		default:
			panic(x)
		}
	}()
	tokens, errno := t.parser.Feed(b)
	for _, x := range tokens {
		t.take(x)
		if t.phase == closed {
			return
		}
	}
	switch errno {
	case api.ErrXml:
		giveUp("not-well-formed")
	case api.ErrLong:
		giveUp(policyViolation)
	case api.ErrBarred:
		giveUp("restricted-xml")
	}
}

// take takes a token.
func (t taking) take(x api.Token) {
	above := t.depth
	switch x.Kind {
	case api.Begin:
		t.depth++
	case api.End:
		t.depth--
	}
	switch {
	case above == 0:
		t.greet(x)
	case t.depth == 0:
		t.say("</stream>")
		t.close(t.conn)
	case above > 1 || x.Kind == api.Begin:
		t.gather(x)
	}
}

func (t taking) greet(x api.Token) {
	if to, ok := write.Attr(x, "to"); !ok || x.Name != "stream" || to != t.domain {
		giveUp("host-unknown")
	}
	t.phase = greeted
	t.say("<stream from='" + t.domain + "' id='" + strconv.Itoa(t.number) + "'>")
}

// gather puts a token behind those of its element, which is taken when it is whole.
func (t taking) gather(x api.Token) {
	t.element = append(t.element, x)
	if len(t.element) > api.MaxTokens {
		giveUp(policyViolation)
	}
	if t.depth > 1 {
		return
	}
	l := t.element
	t.element = nil
	switch t.phase {
	case greeted:
		t.admit(l)
	case known:
		t.enter(l)
	case bound:
		t.serve(l)
	}
}

// inside is the text in an element that has nothing else in it; else it is empty.
func inside(l []api.Token) string {
	if len(l) != 3 {
		return ""
	}
	return l[1].Text
}

// admit lets a user in who tells its secret.
func (t taking) admit(l []api.Token) {
	if l[0].Name != "auth" {
		giveUp(notAuthorized)
	}
	for _, u := range t.users {
		if inside(l) == text.Base64("\x00"+u.Name+"\x00"+u.Secret) {
			t.user, t.phase = u.Name, known
			t.say("<success/>")
			return
		}
	}
	t.say("<failure><not-authorized/></failure>")
}

// enter gives a user an address: a new one, or that of a ghost.
func (t taking) enter(l []api.Token) {
	switch l[0].Name {
	case "bind":
		t.bind(inside(l))
	case "resume":
		t.resume(l[0])
	default:
		giveUp(notAuthorized)
	}
}

func (t taking) bind(resource string) {
	address, errno := jid.Print(api.Jid{Local: t.user, Domain: t.domain, Resource: resource})
	if errno != api.OK || resource == "" || len(resource) > maxResource {
		giveUp(notAuthorized)
	}
	// A list of its own, since those that fail leave the server's.
	for _, c := range slices.Clone(t.open) {
		if c.address == address {
			t.fail(c, "conflict")
		}
	}
	t.ghosts = slices.DeleteFunc(t.ghosts, func(g *ghost) bool { return g.address == address })
	t.address, t.phase = address, bound
	t.say("<bound>" + address + "</bound>")
}

func (t taking) resume(x api.Token) {
	token, there := write.Attr(x, "previd")
	h, ok := count(x)
	if !there || !ok {
		giveUp(notAuthorized)
	}
	at := slices.IndexFunc(t.ghosts, func(g *ghost) bool { return g.managed.token == token && g.user == t.user })
	if at < 0 {
		t.refuse("item-not-found")
		return
	}
	g := t.ghosts[at]
	waiting, errno := g.managed.Resume(h)
	if errno != api.OK {
		t.refuse("undefined-condition")
		return
	}
	t.ghosts = slices.Delete(t.ghosts, at, at+1)
	t.session, t.phase = g.session, bound
	t.strike(t.user, t.managed.settled())
	t.say("<resumed previd='" + token + "' h='" + digits(t.managed.Handled()) + "'/>")
	for _, s := range waiting {
		t.say(s)
	}
	t.flush(t.user)
}

// refuse says that something about what is acknowledged can't be.
func (t taking) refuse(name string) {
	t.say("<failed><" + name + "/></failed>")
}

// count is the number of stanzas that a token's h tells.
func count(x api.Token) (uint32, bool) {
	s, _ := write.Attr(x, "h")
	n, err := strconv.ParseUint(s, 10, 32)
	h := uint32(n)
	return h, err == nil && digits(h) == s
}

func digits(h uint32) string { return strconv.FormatUint(uint64(h), 10) }
