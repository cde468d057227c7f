package request

import (
	"slices"

	"heliograph/api"
)

// words stand at their numbers; where there is none, none is.
type words [api.Nodes + 1]string

func verbs() words {
	return words{
		api.Create: "create", api.Remove: "remove", api.Configure: "configure", api.Subscribe: "subscribe", api.Unsubscribe: "unsubscribe",
		api.Approve: "approve", api.Deny: "deny", api.Affiliate: "affiliate", api.Publish: "publish", api.Retract: "retract",
		api.Purge: "purge", api.Items: "items", api.Associate: "associate", api.Dissociate: "dissociate", api.Nodes: "nodes",
	}
}

func roles() words {
	return words{api.Outcast: "outcast", api.NoRole: "none", api.Member: "member", api.Publisher: "publisher", api.Owner: "owner"}
}

func accesses() words {
	return words{api.Open: "open", api.Authorize: "authorize", api.Whitelist: "whitelist"}
}

// The numbers of the two types of nodes.
const (
	leaf = iota
	collection
)

func types() words { return words{leaf: "leaf", collection: "collection"} }

func typeOf(isCollection bool) int {
	if isCollection {
		return collection
	}
	return leaf
}

// find is a word's number; of a word that is none it is 0, which is not told by that word again.
func (w words) find(s string) int {
	return max(0, slices.Index(w[:], s))
}

// things are what a verb names.
type things struct{ node, item, jid, role, access, max, depth, parent, kind, text bool }

func named(v api.Verb) things {
	n := things{node: Verb(v) != ""}
	switch v {
	case api.Create:
		n.kind = true
	case api.Configure:
		n.access, n.max = true, true
	case api.Subscribe:
		n.depth = true
	case api.Affiliate:
		n.role = true
		fallthrough
	case api.Approve, api.Deny:
		n.jid = true
	case api.Publish:
		n.text = true
		fallthrough
	case api.Retract:
		n.item = true
	case api.Associate:
		n.parent = true
	}
	return n
}
