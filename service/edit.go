package service

import (
	"heliograph/api"
	"heliograph/collect"
	"heliograph/node"
)

// asked is what the request makes of its node.
func (t task) asked() edit {
	switch t.Verb {
	case api.Subscribe:
		return func(n api.Node) (api.Node, api.Cond) { return node.Subscribe(n, t.from, t.Depth) }
	case api.Unsubscribe:
		return func(n api.Node) (api.Node, api.Cond) { return node.Unsubscribe(n, t.from) }
	case api.Approve, api.Deny:
		return func(n api.Node) (api.Node, api.Cond) { return node.Decide(n, t.from, t.Jid, t.Verb == api.Approve) }
	case api.Configure:
		return func(n api.Node) (api.Node, api.Cond) { return node.Configure(n, t.from, t.Access, t.Max) }
	case api.Affiliate:
		return func(n api.Node) (api.Node, api.Cond) { return node.Affiliate(n, t.from, t.Jid, t.Role) }
	case api.Publish:
		return func(n api.Node) (api.Node, api.Cond) { return node.Publish(n, t.from, t.Item, t.Text) }
	case api.Retract:
		return func(n api.Node) (api.Node, api.Cond) { return node.Retract(n, t.from, t.Item) }
	case api.Purge:
		return func(n api.Node) (api.Node, api.Cond) { return node.Purge(n, t.from) }
	case api.Associate:
		return t.associate
	}
	// No other verb is left that edits.
	return t.dissociate
}

func refuse(c api.Cond) (api.Node, api.Cond) { return api.Node{}, c }

func (t task) associate(n api.Node) (api.Node, api.Cond) {
	parent, there := Node(t.m, t.Parent)
	switch {
	case !t.owns(n):
		return refuse(api.Forbidden)
	case !there:
		return refuse(api.ItemNotFound)
	case !parent.Collection:
		return refuse(api.NotAllowed)
	case !t.owns(parent):
		return refuse(api.Forbidden)
	case t.circles():
		return refuse(api.Conflict)
	}
	n.Parent = t.Parent
	return n, api.NoCond
}

// circles tells whether a node would come to stand above itself.
func (t task) circles() bool {
	_, errno := collect.Add(edges(Nodes(t.m)), t.Node, t.Parent)
	return errno == api.ErrCycle
}

func (t task) dissociate(n api.Node) (api.Node, api.Cond) {
	switch {
	case !t.owns(n):
		return refuse(api.Forbidden)
	case n.Parent == "":
		return refuse(api.UnexpectedRequest)
	}
	return orphaned(n)
}
