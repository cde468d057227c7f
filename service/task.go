package service

import (
	"heliograph/api"
	"heliograph/collect"
	"heliograph/kv"
	"heliograph/node"
	"heliograph/request"
)

// asker is he for whom something is done.
type asker struct{ from string }

func (a asker) owns(n api.Node) bool { return node.Role(n, a.from) == api.Owner }

func (a asker) sees(n api.Node) bool {
	role := node.Role(n, a.from)
	return role >= api.Member || role != api.Outcast && n.Access != api.Whitelist
}

// task is what is done, for whom, and over which map: a fork, in which it may write.
type task struct {
	api.Request
	asker
	m *kv.Map
}

// edit is what becomes of a node, or why nothing does.
type edit func(api.Node) (api.Node, api.Cond)

func (t task) do() api.Reply {
	switch {
	case t.Verb == api.Create:
		return api.Reply{Cond: t.create()}
	case t.Verb == api.Nodes && t.Node == "":
		return api.Reply{Names: t.inside("")}
	}
	n, there := Node(t.m, t.Node)
	if !there || request.Get(t.Request) && !t.sees(n) {
		return api.Reply{Cond: api.ItemNotFound}
	}
	switch t.Verb {
	case api.Items:
		return t.items(n)
	case api.Nodes:
		return t.nodes(n)
	case api.Remove:
		return api.Reply{Cond: t.remove(n)}
	}
	return api.Reply{Cond: t.change(n, t.asked())}
}

func (t task) create() api.Cond {
	if _, there := Node(t.m, t.Node); there {
		return api.Conflict
	}
	if len(Nodes(t.m)) >= api.MaxNodes {
		return api.ResourceConstraint
	}
	n := api.Node{Name: t.Node, Collection: t.Collection, Access: api.Open, Max: 4, Affs: []api.Aff{{Jid: t.from, Role: api.Owner}}}
	if n.Collection {
		n.Max = 0
	}
	return t.write(n)
}

// inside are the names of the nodes of a Parent, as far as he who asks may know of them.
func (t task) inside(parent string) []string {
	var l []string
	for _, n := range Nodes(t.m) {
		if n.Parent == parent && t.sees(n) {
			l = append(l, n.Name)
		}
	}
	return l
}

func (t task) items(n api.Node) api.Reply {
	switch {
	case n.Collection:
		return api.Reply{Cond: api.NotAllowed}
	case !node.Reads(n, t.from):
		return api.Reply{Cond: api.Forbidden}
	}
	return api.Reply{Items: n.Items}
}

func (t task) nodes(n api.Node) api.Reply {
	if !n.Collection {
		return api.Reply{Cond: api.NotAllowed}
	}
	return api.Reply{Names: t.inside(n.Name)}
}

// remove takes the key away first, so that a node that is its own Parent is not written anew.
func (t task) remove(n api.Node) api.Cond {
	if !t.owns(n) {
		return api.Forbidden
	}
	t.m.Delete(prefix + n.Name)
	for _, kid := range Nodes(t.m) {
		if kid.Parent != n.Name {
			continue
		}
		if c := t.change(kid, orphaned); c != api.NoCond {
			return c
		}
	}
	return api.NoCond
}

func orphaned(n api.Node) (api.Node, api.Cond) {
	n.Parent = ""
	return n, api.NoCond
}

// change writes what an edit makes of a node.
func (t task) change(n api.Node, e edit) api.Cond {
	n, c := e(n)
	if c != api.NoCond {
		return c
	}
	return t.write(n)
}

func (t task) write(n api.Node) api.Cond {
	s, errno := node.Encode(n)
	if errno != api.OK || t.m.Put(prefix+n.Name, s) != api.OK {
		return api.ResourceConstraint
	}
	return api.NoCond
}

// notes are those of what was done.
func (t task) notes() []api.Note {
	switch t.Verb {
	case api.Publish, api.Retract, api.Purge:
	default:
		return nil
	}
	var l []api.Note
	for _, to := range collect.Fan(Nodes(t.m), t.Node) {
		l = append(l, api.Note{To: to, Node: t.Node, Item: t.Item, Text: t.Text, Gone: t.Verb != api.Publish})
	}
	return l
}
