package gateway

import (
	"regexp"
	"slices"
	"strconv"
	"strings"

	"heliograph/api"
	"heliograph/dev"
	"heliograph/jid"
	"heliograph/kv"
	"heliograph/request"
	"heliograph/service"
	"heliograph/slots"
	"heliograph/stanza"
	"heliograph/text"
	"heliograph/write"
	"heliograph/xml"
)

// A second reading of the chapter: it is told elements, not bytes, reads them by patterns, and knows entries of a log by what they are, not by numbers.
type model struct {
	conns  []*modelConn // all that ever were
	ghosts []*modelConn
	logs   map[string][]*string
	nodes  []api.Pair
	store  *slots.Store
	torn   func(b []byte) // nil: the power stays
	met    map[string]int // how often something came up
}

type modelConn struct {
	number int
	phase  string
	out    string
	user   string
	jid    string
	there  bool
	seen   map[*string]bool
	token  string // empty: not managed
	queue  []modelSent
	acked  int
	got    int
	ticks  int
}

type modelSent struct {
	text  string
	entry *string
}

func newModel(sectors int) *model {
	return &model{logs: map[string][]*string{}, store: slots.Open(dev.New(sectors)), met: map[string]int{}}
}

// pairs are the model's, with numbers of its own in the keys.
func (m *model) pairs() *kv.Map {
	all := kv.New()
	for _, p := range m.nodes {
		all.Put(p.Key, p.Value)
	}
	for user, l := range m.logs {
		for i, s := range l {
			all.Put("log/"+user+"/"+strconv.Itoa(10000001+i), *s)
		}
	}
	return all
}

func (m *model) save(all *kv.Map) bool {
	if m.torn != nil {
		m.torn(all.Bytes())
		panic("the power is gone")
	}
	return m.store.Save(all.Bytes()) == api.OK
}

func (m *model) load() {
	all, _ := kv.Load(m.store.Load())
	m.nodes, m.logs = all.Scan("node/"), map[string][]*string{}
	for _, p := range all.Scan("log/") {
		user := strings.Split(p.Key, "/")[1]
		m.logs[user] = append(m.logs[user], &p.Value)
	}
}

func (m *model) connect() (int, api.Errno) {
	if len(m.open()) == 8 {
		return 0, api.ErrFull
	}
	m.conns = append(m.conns, &modelConn{number: len(m.conns), phase: "fresh", seen: map[*string]bool{}})
	return len(m.conns) - 1, api.OK
}

// open are the numbers of those that are.
func (m *model) open() []int {
	var l []int
	for _, c := range m.conns {
		if c.phase != "closed" {
			l = append(l, c.number)
		}
	}
	return l
}

func (m *model) cut(n int) {
	c := m.conns[n]
	if c.token != "" {
		ghost := *c
		ghost.ticks = 3
		m.ghosts = append(m.ghosts, &ghost)
	}
	c.phase = "closed"
}

func (m *model) tick() {
	for _, g := range m.ghosts {
		g.ticks--
	}
	m.ghosts = slices.DeleteFunc(m.ghosts, func(g *modelConn) bool { return g.ticks <= 0 })
}

// crash takes elements, and loses the power with the first thing that is saved.
func (m *model) crash(n int, elements []string, writes int, survive []bool) {
	m.torn = func(b []byte) { m.store.Torn(b, writes, survive) }
	func() {
		defer func() {
			if x := recover(); x != nil && x != "the power is gone" {
				panic(x)
			}
		}()
		m.take(n, elements)
	}()
	m.torn, m.ghosts = nil, nil
	for _, c := range m.conns {
		c.phase, c.out = "closed", ""
	}
	m.load()
}

func (m *model) fail(c *modelConn, name string) {
	m.met[name]++
	if c.phase == "fresh" {
		c.out += "<stream>"
	}
	c.out += "<error><" + name + "/></error></stream>"
	c.phase = "closed"
}

// take takes what a connection is fed, whole tags below the stream's own, and texts between them.
func (m *model) take(n int, elements []string) {
	c := m.conns[n]
	for _, s := range elements {
		switch {
		case c.phase == "closed":
			return
		case !strings.HasPrefix(s, "<"):
		case strings.HasPrefix(s, "<!"):
			m.fail(c, "restricted-xml")
		case strings.Count(s, "<k/>") > 31:
			m.fail(c, "policy-violation")
		case strings.HasPrefix(s, "</") && (c.phase == "fresh" || s != "</stream>"):
			m.fail(c, "not-well-formed")
		case c.phase == "fresh" && s != greeting:
			m.fail(c, "host-unknown")
		case c.phase == "fresh":
			c.phase = "greeted"
			c.out += "<stream from='d' id='" + strconv.Itoa(n) + "'>"
		case s == "</stream>":
			c.out += s
			c.phase = "closed"
		case c.phase == "greeted":
			m.greeted(c, s)
		case c.phase == "known":
			m.known(c, s)
		default:
			m.bound(c, s)
		}
	}
}

var (
	modelAuth   = regexp.MustCompile(`^<auth(?: [^>]*)?>([^<]*)</auth>$`)
	modelBind   = regexp.MustCompile(`^<bind>([A-Za-z0-9._-]{1,16})</bind>$`)
	modelResume = regexp.MustCompile(`^<resume previd='([^']*)' h='(0|[1-9][0-9]{0,8})'/>$`)
	modelAck    = regexp.MustCompile(`^<a h='(0|[1-9][0-9]{0,8})'/>$`)
)

func (m *model) greeted(c *modelConn, s string) {
	if !strings.HasPrefix(s, "<auth") {
		m.fail(c, "not-authorized")
		return
	}
	if x := modelAuth.FindStringSubmatch(s); x != nil {
		said, _ := text.Unbase64(x[1])
		for _, u := range people() {
			if said == "\x00"+u.Name+"\x00"+u.Secret {
				c.phase, c.user = "known", u.Name
				c.out += "<success/>"
				return
			}
		}
	}
	m.met["failure"]++
	c.out += "<failure><not-authorized/></failure>"
}

func (m *model) known(c *modelConn, s string) {
	if x := modelBind.FindStringSubmatch(s); x != nil {
		c.jid = c.user + "@d/" + x[1]
		for _, o := range m.conns {
			if o != c && o.phase == "bound" && o.jid == c.jid {
				m.fail(o, "conflict")
			}
		}
		m.ghosts = slices.DeleteFunc(m.ghosts, func(g *modelConn) bool { return g.jid == c.jid })
		c.phase = "bound"
		c.out += "<bound>" + c.jid + "</bound>"
		return
	}
	x := modelResume.FindStringSubmatch(s)
	if x == nil {
		m.fail(c, "not-authorized")
		return
	}
	for i, g := range m.ghosts {
		if g.token == x[1] && g.user == c.user {
			m.resume(c, i, x[2])
			return
		}
	}
	m.met["item-not-found"]++
	c.out += "<failed><item-not-found/></failed>"
}

func (m *model) resume(c *modelConn, i int, digits string) {
	g := m.ghosts[i]
	done, ok := g.settle(digits)
	if !ok {
		m.met["undefined-condition, failed"]++
		c.out += "<failed><undefined-condition/></failed>"
		return
	}
	m.met["resumed"]++
	m.ghosts = slices.Delete(m.ghosts, i, i+1)
	c.phase, c.jid, c.there, c.seen, c.token, c.queue, c.acked, c.got = "bound", g.jid, g.there, g.seen, g.token, g.queue, g.acked, g.got
	m.forget(c.user, done)
	c.out += "<resumed previd='" + c.token + "' h='" + strconv.Itoa(c.got) + "'/>"
	for _, s := range c.queue {
		c.out += s.text
		m.met["sent again"]++
	}
	m.flush(c.user)
}

// settle takes out what is acknowledged.
func (c *modelConn) settle(digits string) ([]modelSent, bool) {
	h, _ := strconv.Atoi(digits)
	if h < c.acked || h > c.acked+len(c.queue) {
		return nil, false
	}
	done := c.queue[:h-c.acked]
	c.queue, c.acked = slices.Clone(c.queue[h-c.acked:]), h
	return done, true
}

// forget takes out of a log what was acknowledged, and saves, if something was there.
func (m *model) forget(user string, done []modelSent) {
	n := len(m.logs[user])
	for _, s := range done {
		m.logs[user] = slices.DeleteFunc(slices.Clone(m.logs[user]), func(e *string) bool { return e == s.entry })
	}
	if len(m.logs[user]) < n {
		m.met["acknowledged"]++
		m.save(m.pairs())
	}
}

func (m *model) flush(user string) {
	for _, c := range m.conns {
		if c.user != user || c.phase != "bound" || !c.there {
			continue
		}
		n := len(m.logs[user])
		for _, e := range slices.Clone(m.logs[user]) {
			switch {
			case c.seen[e]:
			case c.token != "" && len(c.queue) == 16:
				m.met["waits"]++
				return
			case c.token != "":
				c.queue = append(c.queue, modelSent{*e, e})
				c.out += *e
			default:
				c.out += *e
				m.logs[user] = slices.DeleteFunc(slices.Clone(m.logs[user]), func(x *string) bool { return x == e })
			}
			c.seen[e] = true
		}
		if len(m.logs[user]) < n {
			m.met["told"]++
			m.save(m.pairs())
		}
		return
	}
}

func (m *model) bound(c *modelConn, s string) {
	x := modelAck.FindStringSubmatch(s)
	switch {
	case s == "<enable/>" && c.token != "":
		m.met["unexpected-request"]++
		c.out += "<failed><unexpected-request/></failed>"
	case s == "<enable/>":
		c.token = "t" + strconv.Itoa(c.number)
		c.out += "<enabled id='" + c.token + "'/>"
	case s == "<r/>" && c.token != "":
		c.out += "<a h='" + strconv.Itoa(c.got) + "'/>"
	case x != nil && c.token != "":
		done, ok := c.settle(x[1])
		if !ok {
			m.fail(c, "undefined-condition")
			return
		}
		m.forget(c.user, done)
		m.flush(c.user)
	default:
		m.stanza(c, s)
	}
}

func (m *model) stanza(c *modelConn, s string) {
	l, _ := xml.New().Feed([]byte(s))
	q, errno := stanza.Decode(l)
	if errno != api.OK {
		m.fail(c, "unsupported-stanza-type")
		return
	}
	if c.token != "" {
		c.got++
	}
	switch {
	case strings.HasPrefix(s, "<presence/>"):
		c.there = true
		m.flush(c.user)
	case strings.HasPrefix(s, "<presence type='unavailable'"):
		c.there = false
	case q.Type == "error", q.Type == "result", q.Kind == api.Presence:
	case q.Kind == api.Message:
		m.answer(c, stanza.Error(q, api.ServiceUnavailable))
	default:
		m.iq(c, q)
	}
}

func (m *model) answer(c *modelConn, q api.Stanza) {
	if cond, ok := stanza.Failed(q); ok {
		m.met["condition "+strconv.Itoa(int(cond))]++
	}
	l, _ := stanza.Encode(q)
	s, _ := write.Print(l)
	if c.token != "" {
		if len(c.queue) == 16 {
			m.fail(c, "resource-constraint")
			return
		}
		c.queue = append(c.queue, modelSent{text: s})
	}
	c.out += s
}

func (m *model) iq(c *modelConn, q api.Stanza) {
	r, errno := request.Decode(q.Payload)
	asks := r.Verb == api.Items || r.Verb == api.Nodes
	if errno != api.OK || asks != (q.Type == "get") {
		m.answer(c, stanza.Error(q, api.BadRequest))
		return
	}
	j, _ := jid.Parse(c.jid)
	who, _ := jid.Print(jid.Bare(j))
	before := m.pairs()
	after, reply, notes := service.Do(before, who, r)
	logs := map[string][]*string{}
	for user, l := range m.logs {
		logs[user] = slices.Clone(l)
	}
	fits := true
	for _, n := range notes {
		user := strings.TrimSuffix(n.To, "@d")
		inside, _ := write.Print(request.Event(n))
		s := "<message from='pubsub.d' to='" + n.To + "'>" + inside + "</message>"
		fits = fits && after.Put("log/"+user+"/"+strconv.Itoa(10000001+len(logs[user])), s) == api.OK
		logs[user] = append(logs[user], &s)
	}
	if fits && string(after.Bytes()) != string(before.Bytes()) {
		fits = m.save(after)
	}
	switch {
	case !fits:
		m.met["no room"]++
		m.answer(c, stanza.Error(q, api.ResourceConstraint))
		return
	case reply.Cond != api.NoCond:
		m.answer(c, stanza.Error(q, reply.Cond))
	default:
		m.nodes, m.logs = after.Scan("node/"), logs
		m.answer(c, stanza.Result(q, request.Answer(r, reply)))
	}
	for _, n := range notes {
		m.flush(strings.TrimSuffix(n.To, "@d"))
	}
}
