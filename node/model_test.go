package node

import (
	"fmt"
	"regexp"
	"slices"
	"strings"
	"unicode/utf8"

	"heliograph/api"
)

// The document read a second time, by other means than the program's: tests hold the program against this.

var (
	nameForm    = regexp.MustCompile(`\A[a-z0-9-]{1,24}\z`)
	addressForm = regexp.MustCompile(`\A([a-z0-9._-]+@)?[a-z0-9._-]+\z`)
	barredChars = regexp.MustCompile("[\\x00-\\x08\\x0b\\x0c\\x0e-\\x1f\\x{fffe}\\x{ffff}]")
)

func modelAddress(s string) bool { return len(s) <= 64 && addressForm.MatchString(s) }

func modelBody(s string) bool {
	return len(s) <= 512 && utf8.ValidString(s) && !barredChars.MatchString(s)
}

func modelMax(n int, collection bool) bool { return n == 0 || n > 0 && n <= 8 && !collection }

// rising tells whether texts are sorted with no two alike.
func rising(l []string) bool {
	sorted := slices.Clone(l)
	slices.Sort(sorted)
	return slices.Equal(slices.Compact(sorted), l)
}

func modelRight(n api.Node) bool {
	if !nameForm.MatchString(n.Name) || n.Parent != "" && !nameForm.MatchString(n.Parent) || n.Access > 2 || !modelMax(n.Max, n.Collection) {
		return false
	}
	if len(n.Affs) > 16 || len(n.Subs) > 16 || len(n.Items) > n.Max {
		return false
	}
	owners, keys := 0, []string{}
	for _, a := range n.Affs {
		if !modelAddress(a.Jid) || !slices.Contains([]api.Role{1, 3, 4, 5}, a.Role) {
			return false
		}
		if a.Role == 5 {
			owners++
		}
		keys = append(keys, a.Jid)
	}
	if owners == 0 || !rising(keys) {
		return false
	}
	keys = nil
	for _, s := range n.Subs {
		if !modelAddress(s.Jid) || s.Depth < 0 || s.Depth > 255 {
			return false
		}
		keys = append(keys, s.Jid)
	}
	if !rising(keys) {
		return false
	}
	ids := map[string]bool{}
	for _, i := range n.Items {
		if ids[i.Id] || !nameForm.MatchString(i.Id) || !modelAddress(i.Publisher) || !modelBody(i.Text) {
			return false
		}
		ids[i.Id] = true
	}
	return true
}

// modelText is the text of any node, right or not.
func modelText(n api.Node) string {
	var b strings.Builder
	word := func(x any) {
		s := fmt.Sprint(x)
		fmt.Fprintf(&b, "%d:%s", len(s), s)
	}
	word(n.Name)
	word(map[bool]string{true: "c", false: "l"}[n.Collection])
	word(n.Access)
	word(n.Max)
	word(n.Parent)
	word(len(n.Affs))
	for _, a := range n.Affs {
		word(a.Jid)
		word(a.Role)
	}
	word(len(n.Subs))
	for _, s := range n.Subs {
		word(s.Jid)
		word(map[bool]string{true: "p", false: "s"}[s.Pending])
		word(s.Depth)
	}
	word(len(n.Items))
	for _, i := range n.Items {
		word(i.Id)
		word(i.Publisher)
		word(i.Text)
	}
	return b.String()
}

// modelNode takes a text apart as loosely as can be: it is a right node's only if modelText says the same again.
func modelNode(s string) (api.Node, bool) {
	var l []string
	for s != "" {
		var n int
		head, rest, ok := strings.Cut(s, ":")
		if _, err := fmt.Sscanf(head, "%d", &n); !ok || err != nil || n < 0 || n > len(rest) {
			return api.Node{}, false
		}
		l, s = append(l, rest[:n]), rest[n:]
	}
	whole := modelWords(l)
	if whole == nil || !modelRight(*whole) {
		return api.Node{}, false
	}
	return *whole, true
}

func modelWords(l []string) *api.Node {
	short := false
	text := func() string {
		if len(l) == 0 {
			short = true
			return ""
		}
		s := l[0]
		l = l[1:]
		return s
	}
	number := func() int {
		n := -1
		fmt.Sscanf(text(), "%d", &n)
		return n
	}
	var n api.Node
	n.Name = text()
	n.Collection = text() == "c"
	n.Access = api.Access(number())
	n.Max = number()
	n.Parent = text()
	for i := number(); i > 0 && !short; i-- {
		n.Affs = append(n.Affs, api.Aff{Jid: text(), Role: api.Role(number())})
	}
	for i := number(); i > 0 && !short; i-- {
		n.Subs = append(n.Subs, api.Sub{Jid: text(), Pending: text() == "p", Depth: number()})
	}
	for i := number(); i > 0 && !short; i-- {
		n.Items = append(n.Items, api.Item{Id: text(), Publisher: text(), Text: text()})
	}
	if short || len(l) > 0 {
		return nil
	}
	return &n
}

// model is a node as maps, of which lists are made only at the end.
type model struct {
	node  api.Node
	roles map[string]api.Role
	subs  map[string]api.Sub
	items []api.Item
}

func modelOf(n api.Node) *model {
	m := &model{n, map[string]api.Role{}, map[string]api.Sub{}, slices.Clone(n.Items)}
	for _, a := range n.Affs {
		m.roles[a.Jid] = a.Role
	}
	for _, s := range n.Subs {
		m.subs[s.Jid] = s
	}
	return m
}

func (m *model) whole() api.Node {
	n := m.node
	n.Affs, n.Subs, n.Items = nil, nil, m.items
	for j, r := range m.roles {
		n.Affs = append(n.Affs, api.Aff{Jid: j, Role: r})
	}
	for _, s := range m.subs {
		n.Subs = append(n.Subs, s)
	}
	slices.SortFunc(n.Affs, func(a, b api.Aff) int { return strings.Compare(a.Jid, b.Jid) })
	slices.SortFunc(n.Subs, func(a, b api.Sub) int { return strings.Compare(a.Jid, b.Jid) })
	return n
}

func (m *model) role(j string) api.Role {
	if r, ok := m.roles[j]; ok {
		return r
	}
	return api.NoRole
}

func (m *model) trim() {
	for len(m.items) > m.node.Max {
		m.items = m.items[1:]
	}
}

func (m *model) reads(j string) bool {
	s, has := m.subs[j]
	return map[api.Role]bool{
		api.Outcast: false, api.Member: true, api.Publisher: true, api.Owner: true,
		api.NoRole: m.node.Access == api.Open || m.node.Access == api.Authorize && has && !s.Pending,
	}[m.role(j)]
}

// act is one of the calls that change a node, with all that any of them takes.
type act struct {
	call      string
	by, jid   string
	depth     int
	yes       bool
	role      api.Role
	item, txt string
	access    api.Access
}

// do does it by the program.
func (a act) do(n api.Node) (api.Node, api.Cond) {
	switch a.call {
	case "subscribe":
		return Subscribe(n, a.jid, a.depth)
	case "unsubscribe":
		return Unsubscribe(n, a.jid)
	case "decide":
		return Decide(n, a.by, a.jid, a.yes)
	case "affiliate":
		return Affiliate(n, a.by, a.jid, a.role)
	case "publish":
		return Publish(n, a.by, a.item, a.txt)
	case "retract":
		return Retract(n, a.by, a.item)
	case "purge":
		return Purge(n, a.by)
	}
	return Configure(n, a.by, a.access, a.depth)
}

var calls = []string{"subscribe", "unsubscribe", "decide", "affiliate", "publish", "retract", "purge", "configure"}

// model does it by the words of the document.
func (a act) model(n api.Node) (api.Node, api.Cond) {
	if !modelRight(n) {
		return api.Node{}, api.BadRequest
	}
	m := modelOf(n)
	c := map[string]func(*model) api.Cond{
		"subscribe": a.subscribe, "unsubscribe": a.unsubscribe, "decide": a.decide, "affiliate": a.affiliate,
		"publish": a.publish, "retract": a.retract, "purge": a.purge, "configure": a.configure,
	}[a.call](m)
	if c != api.NoCond {
		return api.Node{}, c
	}
	return m.whole(), c
}

func (a act) subscribe(m *model) api.Cond {
	if !modelAddress(a.jid) || a.depth < 0 || a.depth > 255 {
		return api.BadRequest
	}
	r := m.role(a.jid)
	if r == api.Outcast {
		return api.Forbidden
	}
	if m.node.Access == api.Whitelist && r == api.NoRole {
		return api.NotAllowed
	}
	if s, ok := m.subs[a.jid]; ok {
		if s.Pending {
			return api.NotAuthorized
		}
		m.subs[a.jid] = api.Sub{Jid: a.jid, Depth: a.depth}
		return api.NoCond
	}
	if len(m.subs) == 16 {
		return api.ResourceConstraint
	}
	m.subs[a.jid] = api.Sub{Jid: a.jid, Depth: a.depth, Pending: m.node.Access == api.Authorize && r == api.NoRole}
	return api.NoCond
}

func (a act) unsubscribe(m *model) api.Cond {
	if _, ok := m.subs[a.jid]; !ok {
		return api.UnexpectedRequest
	}
	delete(m.subs, a.jid)
	return api.NoCond
}

func (a act) decide(m *model) api.Cond {
	if m.role(a.by) != api.Owner {
		return api.Forbidden
	}
	s := m.subs[a.jid]
	if !s.Pending {
		return api.ItemNotFound
	}
	delete(m.subs, a.jid)
	if a.yes {
		m.subs[a.jid] = api.Sub{Jid: a.jid, Depth: s.Depth}
	}
	return api.NoCond
}

func (a act) affiliate(m *model) api.Cond {
	if m.role(a.by) != api.Owner {
		return api.Forbidden
	}
	if !modelAddress(a.jid) || a.role < 1 || a.role > 5 {
		return api.BadRequest
	}
	delete(m.roles, a.jid)
	if a.role != api.NoRole {
		m.roles[a.jid] = a.role
	}
	owners := 0
	for _, r := range m.roles {
		if r == api.Owner {
			owners++
		}
	}
	if owners == 0 {
		return api.Conflict
	}
	if len(m.roles) > 16 {
		return api.ResourceConstraint
	}
	if a.role == api.Outcast {
		delete(m.subs, a.jid)
	}
	return api.NoCond
}

func (a act) publish(m *model) api.Cond {
	if m.node.Collection {
		return api.NotAllowed
	}
	if r := m.role(a.by); r != api.Publisher && r != api.Owner {
		return api.Forbidden
	}
	if !nameForm.MatchString(a.item) || !modelBody(a.txt) {
		return api.BadRequest
	}
	m.drop(a.item)
	m.items = append(m.items, api.Item{Id: a.item, Publisher: a.by, Text: a.txt})
	m.trim()
	return api.NoCond
}

func (m *model) drop(id string) bool {
	for i, x := range m.items {
		if x.Id == id {
			m.items = append(slices.Clone(m.items[:i]), m.items[i+1:]...)
			return true
		}
	}
	return false
}

func (a act) retract(m *model) api.Cond {
	if m.node.Collection {
		return api.NotAllowed
	}
	if r := m.role(a.by); r != api.Publisher && r != api.Owner {
		return api.Forbidden
	}
	if !m.drop(a.item) {
		return api.ItemNotFound
	}
	return api.NoCond
}

func (a act) purge(m *model) api.Cond {
	if m.node.Collection {
		return api.NotAllowed
	}
	if m.role(a.by) != api.Owner {
		return api.Forbidden
	}
	m.items = nil
	return api.NoCond
}

func (a act) configure(m *model) api.Cond {
	if m.role(a.by) != api.Owner {
		return api.Forbidden
	}
	if a.access > 2 || !modelMax(a.depth, m.node.Collection) {
		return api.BadRequest
	}
	m.node.Access, m.node.Max = a.access, a.depth
	m.trim()
	return api.NoCond
}
