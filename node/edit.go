package node

import (
	"heliograph/api"
	"heliograph/names"
)

// fresh is the same node with lists of its own, so that none of what is answered lies in what was handed in.
func fresh(n api.Node) api.Node {
	n.Affs, n.Subs, n.Items = copied(n.Affs), copied(n.Subs), copied(n.Items)
	return n
}

func refuse(c api.Cond) (api.Node, api.Cond) { return api.Node{}, c }

// Subscribe is a node to which somebody subscribes.
func Subscribe(n api.Node, jid string, depth int) (api.Node, api.Cond) {
	role := Role(n, jid)
	sub, has := Sub(n, jid)
	switch {
	case !Right(n) || !names.Address(jid) || !isDepth(depth):
		return refuse(api.BadRequest)
	case role == api.Outcast:
		return refuse(api.Forbidden)
	case n.Access == api.Whitelist && role < api.Member:
		return refuse(api.NotAllowed)
	case has && sub.Pending:
		return refuse(api.NotAuthorized)
	case !has && len(n.Subs) >= api.MaxPeople:
		return refuse(api.ResourceConstraint)
	}
	if !has {
		sub = api.Sub{Jid: jid, Pending: n.Access == api.Authorize && role < api.Member}
	}
	sub.Depth = depth
	n = fresh(n)
	n.Subs = with(n.Subs, subKey, sub)
	return n, api.NoCond
}

// Unsubscribe is a node from which somebody goes.
func Unsubscribe(n api.Node, jid string) (api.Node, api.Cond) {
	_, has := Sub(n, jid)
	switch {
	case !Right(n):
		return refuse(api.BadRequest)
	case !has:
		return refuse(api.UnexpectedRequest)
	}
	n = fresh(n)
	n.Subs = without(n.Subs, subKey, jid)
	return n, api.NoCond
}

// Decide is a node of which an owner says whether somebody who waits may subscribe.
func Decide(n api.Node, by, jid string, yes bool) (api.Node, api.Cond) {
	sub, has := Sub(n, jid)
	switch {
	case !Right(n):
		return refuse(api.BadRequest)
	case Role(n, by) != api.Owner:
		return refuse(api.Forbidden)
	case !has || !sub.Pending:
		return refuse(api.ItemNotFound)
	}
	n = fresh(n)
	if !yes {
		n.Subs = without(n.Subs, subKey, jid)
		return n, api.NoCond
	}
	sub.Pending = false
	n.Subs = with(n.Subs, subKey, sub)
	return n, api.NoCond
}

// Affiliate is a node of which an owner gives somebody a role.
func Affiliate(n api.Node, by, jid string, r api.Role) (api.Node, api.Cond) {
	switch {
	case !Right(n):
		return refuse(api.BadRequest)
	case Role(n, by) != api.Owner:
		return refuse(api.Forbidden)
	case !names.Address(jid) || !isRole(r):
		return refuse(api.BadRequest)
	}
	affs := affiliated(n.Affs, api.Aff{Jid: jid, Role: r})
	switch {
	case !hasOwner(affs):
		return refuse(api.Conflict)
	case len(affs) > api.MaxPeople:
		return refuse(api.ResourceConstraint)
	}
	n = fresh(n)
	n.Affs = affs
	if r == api.Outcast {
		n.Subs = without(n.Subs, subKey, jid)
	}
	return n, api.NoCond
}

func affiliated(l []api.Aff, a api.Aff) []api.Aff {
	if a.Role == api.NoRole {
		return without(l, affKey, a.Jid)
	}
	return with(l, affKey, a)
}

// Publish is a node at which somebody publishes an item.
func Publish(n api.Node, by string, item, body string) (api.Node, api.Cond) {
	if c := barred(n, by, api.Publisher); c != api.NoCond {
		return refuse(c)
	}
	if !names.Name(item) || !isBody(body) {
		return refuse(api.BadRequest)
	}
	n = fresh(n)
	items := append(without(n.Items, itemKey, item), api.Item{Id: item, Publisher: by, Text: body})
	n.Items = newest(items, n.Max)
	return n, api.NoCond
}

// Retract is a node from which somebody takes an item back.
func Retract(n api.Node, by, item string) (api.Node, api.Cond) {
	if c := barred(n, by, api.Publisher); c != api.NoCond {
		return refuse(c)
	}
	if _, has := first(n.Items, itemKey, item); !has {
		return refuse(api.ItemNotFound)
	}
	n = fresh(n)
	n.Items = without(n.Items, itemKey, item)
	return n, api.NoCond
}

// Purge is a node of which an owner takes all items out.
func Purge(n api.Node, by string) (api.Node, api.Cond) {
	if c := barred(n, by, api.Owner); c != api.NoCond {
		return refuse(c)
	}
	n = fresh(n)
	n.Items = nil
	return n, api.NoCond
}

// barred is why somebody may not change the items of a node; least is the role that it takes.
func barred(n api.Node, by string, least api.Role) api.Cond {
	switch {
	case !Right(n):
		return api.BadRequest
	case n.Collection:
		return api.NotAllowed
	case Role(n, by) < least:
		return api.Forbidden
	}
	return api.NoCond
}

// Configure is a node of which an owner says who may subscribe, and how many items are kept.
func Configure(n api.Node, by string, a api.Access, most int) (api.Node, api.Cond) {
	switch {
	case !Right(n):
		return refuse(api.BadRequest)
	case Role(n, by) != api.Owner:
		return refuse(api.Forbidden)
	case !isAccess(a) || !isMax(most, n.Collection):
		return refuse(api.BadRequest)
	}
	n = fresh(n)
	n.Access, n.Max = a, most
	n.Items = newest(n.Items, most)
	return n, api.NoCond
}
