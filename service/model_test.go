package service

import (
	"maps"
	"regexp"
	"slices"
	"strings"

	"heliograph/api"
	"heliograph/kv"
	"heliograph/node"
	"heliograph/request"
)

// The document read a second time, by other means than the program's: tests hold the program against this. What becomes of one node it leaves to package node, which has a second reading of its own.

var addressForm = regexp.MustCompile(`\A([a-z0-9._-]+@)?[a-z0-9._-]+\z`)

// world are the pairs of a map.
type world map[string]string

func worldOf(m *kv.Map) world {
	w := world{}
	for _, p := range m.Scan("") {
		w[p.Key] = p.Value
	}
	return w
}

func (w world) fill() *kv.Map {
	m := kv.New()
	for key, value := range w {
		if e := m.Put(key, value); e != api.OK {
			panic(e)
		}
	}
	return m
}

func (w world) nodes() map[string]api.Node {
	nodes := map[string]api.Node{}
	for key, value := range w {
		n, e := node.Decode(value)
		if name, ok := strings.CutPrefix(key, "node/"); ok && e == api.OK && n.Name == name {
			nodes[name] = n
		}
	}
	return nodes
}

// write answers whether it could be done.
func (w world) write(n api.Node) bool {
	s, e := node.Encode(n)
	_, has := w["node/"+n.Name]
	if e != api.OK || len(s) > 4096 || !has && len(w) >= 128 {
		return false
	}
	w["node/"+n.Name] = s
	return true
}

func roleOf(n api.Node, who string) api.Role {
	for _, a := range n.Affs {
		if a.Jid == who {
			return a.Role
		}
	}
	return api.NoRole
}

func visible(n api.Node, who string) bool {
	switch roleOf(n, who) {
	case api.Outcast:
		return false
	case api.NoRole:
		return n.Access != api.Whitelist
	}
	return true
}

func readable(n api.Node, who string) bool {
	switch role := roleOf(n, who); {
	case role != api.NoRole:
		return role != api.Outcast
	case n.Access == api.Authorize:
		return slices.ContainsFunc(n.Subs, func(s api.Sub) bool { return s.Jid == who && !s.Pending })
	}
	return n.Access == api.Open
}

// above are the names above one, the nearest first, as far as none comes twice, and each is there.
func above(nodes map[string]api.Node, name string) []string {
	var l []string
	for {
		name = nodes[name].Parent
		if _, there := nodes[name]; !there || slices.Contains(l, name) {
			return l
		}
		l = append(l, name)
	}
}

func fan(nodes map[string]api.Node, name string) []string {
	var told []string
	for steps, from := range slices.Concat([]string{name}, above(nodes, name)) {
		for _, s := range nodes[from].Subs {
			far := steps > 0 && s.Depth > 0 && s.Depth < steps
			if !s.Pending && !far && readable(nodes[name], s.Jid) && !slices.Contains(told, s.Jid) {
				told = append(told, s.Jid)
			}
		}
	}
	slices.Sort(told)
	return told
}

// edgesRight asks of the edges what chapter 12 does; a Parent need not be there.
func edgesRight(nodes map[string]api.Node) bool {
	edges := 0
	for name, n := range nodes {
		if n.Parent != "" {
			edges++
		}
		at := n.Parent
		// A circle has no more names than there are nodes.
		for range nodes {
			if at == name {
				return false
			}
			at = nodes[at].Parent
		}
	}
	return edges <= 64
}

func modelRight(w world) bool {
	nodes := w.nodes()
	for key := range w {
		if name, ok := strings.CutPrefix(key, "node/"); ok {
			if _, there := nodes[name]; !there {
				return false
			}
		}
	}
	for _, n := range nodes {
		if n.Parent != "" && !nodes[n.Parent].Collection {
			return false
		}
	}
	return len(nodes) <= 16 && edgesRight(nodes)
}

// modelDo is what a request comes to. Of a condition the world is as it was.
func modelDo(w world, from string, r api.Request) (world, api.Reply, []api.Note) {
	behind := maps.Clone(w)
	x, notes := behind.do(from, r)
	if x.Cond != api.NoCond {
		return w, api.Reply{Cond: x.Cond}, nil
	}
	return behind, x, notes
}

func (w world) do(from string, r api.Request) (api.Reply, []api.Note) {
	cond := func(c api.Cond) (api.Reply, []api.Note) { return api.Reply{Cond: c}, nil }
	if len(from) > 64 || !addressForm.MatchString(from) || !request.Right(r) {
		return cond(api.BadRequest)
	}
	nodes := w.nodes()
	n, there := nodes[r.Node]
	if r.Verb == api.Create {
		if there {
			return cond(api.Conflict)
		}
		most := 4
		if r.Collection {
			most = 0
		}
		if len(nodes) >= 16 || !w.write(api.Node{Name: r.Node, Collection: r.Collection, Max: most, Affs: []api.Aff{{Jid: from, Role: api.Owner}}}) {
			return cond(api.ResourceConstraint)
		}
		return cond(api.NoCond)
	}
	if r.Verb == api.Nodes || r.Verb == api.Items {
		return w.ask(from, r)
	}
	if !there {
		return cond(api.ItemNotFound)
	}
	if r.Verb == api.Remove {
		if roleOf(n, from) != api.Owner {
			return cond(api.Forbidden)
		}
		for name, kid := range nodes {
			if kid.Parent == r.Node {
				kid.Parent = ""
				w["node/"+name], _ = node.Encode(kid)
			}
		}
		delete(w, "node/"+r.Node)
		return cond(api.NoCond)
	}
	n, c := w.edit(n, from, r)
	if c == api.NoCond && !w.write(n) {
		c = api.ResourceConstraint
	}
	if c != api.NoCond {
		return cond(c)
	}
	return api.Reply{}, w.tell(r)
}

func (w world) ask(from string, r api.Request) (api.Reply, []api.Note) {
	n, there := w.nodes()[r.Node]
	top := r.Verb == api.Nodes && r.Node == ""
	switch {
	case !top && (!there || !visible(n, from)):
		return api.Reply{Cond: api.ItemNotFound}, nil
	case !top && n.Collection != (r.Verb == api.Nodes):
		return api.Reply{Cond: api.NotAllowed}, nil
	case r.Verb == api.Items && !readable(n, from):
		return api.Reply{Cond: api.Forbidden}, nil
	case r.Verb == api.Items:
		return api.Reply{Items: n.Items}, nil
	}
	var names []string
	for name, kid := range w.nodes() {
		if kid.Parent == r.Node && visible(kid, from) {
			names = append(names, name)
		}
	}
	slices.Sort(names)
	return api.Reply{Names: names}, nil
}

func (w world) edit(n api.Node, from string, r api.Request) (api.Node, api.Cond) {
	nodes := w.nodes()
	owner := roleOf(n, from) == api.Owner
	switch r.Verb {
	case api.Subscribe:
		return node.Subscribe(n, from, r.Depth)
	case api.Unsubscribe:
		return node.Unsubscribe(n, from)
	case api.Approve:
		return node.Decide(n, from, r.Jid, true)
	case api.Deny:
		return node.Decide(n, from, r.Jid, false)
	case api.Configure:
		return node.Configure(n, from, r.Access, r.Max)
	case api.Affiliate:
		return node.Affiliate(n, from, r.Jid, r.Role)
	case api.Publish:
		return node.Publish(n, from, r.Item, r.Text)
	case api.Retract:
		return node.Retract(n, from, r.Item)
	case api.Purge:
		return node.Purge(n, from)
	case api.Associate:
		if !owner {
			return n, api.Forbidden
		}
		p, there := nodes[r.Parent]
		if !there {
			return n, api.ItemNotFound
		}
		if !p.Collection {
			return n, api.NotAllowed
		}
		if roleOf(p, from) != api.Owner {
			return n, api.Forbidden
		}
		if edgesRight(nodes) && (r.Node == r.Parent || slices.Contains(above(nodes, r.Parent), r.Node)) {
			return n, api.Conflict
		}
		n.Parent = r.Parent
		return n, api.NoCond
	}
	if !owner {
		return n, api.Forbidden
	}
	if n.Parent == "" {
		return n, api.UnexpectedRequest
	}
	n.Parent = ""
	return n, api.NoCond
}

func (w world) tell(r api.Request) []api.Note {
	var l []api.Note
	for _, to := range fan(w.nodes(), r.Node) {
		switch r.Verb {
		case api.Publish:
			l = append(l, api.Note{To: to, Node: r.Node, Item: r.Item, Text: r.Text})
		case api.Retract:
			l = append(l, api.Note{To: to, Node: r.Node, Item: r.Item, Gone: true})
		case api.Purge:
			l = append(l, api.Note{To: to, Node: r.Node, Gone: true})
		}
	}
	return l
}
