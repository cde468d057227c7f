package node

import (
	"heliograph/api"
	"heliograph/names"
	"heliograph/text"
)

// maxDepth is that of a Sub.
const maxDepth = 255

// Right tells whether a node is right.
func Right(n api.Node) bool {
	return names.Name(n.Name) && isAccess(n.Access) && isMax(n.Max, n.Collection) && (n.Parent == "" || names.Name(n.Parent)) &&
		rightAffs(n.Affs) && rightSubs(n.Subs) && rightItems(n.Items, n.Max)
}

func isAccess(a api.Access) bool { return a <= api.Whitelist }

func isMax(n int, collection bool) bool {
	if collection {
		return n == 0
	}
	return 0 <= n && n <= api.MaxItems
}

func isDepth(n int) bool { return 0 <= n && n <= maxDepth }

func isBody(s string) bool { return len(s) <= api.MaxText && text.Chars(s) }

// isRole tells whether a role may be given; NoRole is given by taking the Aff away.
func isRole(r api.Role) bool { return api.Outcast <= r && r <= api.Owner }

func rightAffs(l []api.Aff) bool {
	if len(l) > api.MaxPeople || !rise(l, affKey) {
		return false
	}
	for _, a := range l {
		if !names.Address(a.Jid) || !isRole(a.Role) || a.Role == api.NoRole {
			return false
		}
	}
	return hasOwner(l)
}

func hasOwner(l []api.Aff) bool {
	for _, a := range l {
		if a.Role == api.Owner {
			return true
		}
	}
	return false
}

func rightSubs(l []api.Sub) bool {
	if len(l) > api.MaxPeople || !rise(l, subKey) {
		return false
	}
	for _, s := range l {
		if !names.Address(s.Jid) || !isDepth(s.Depth) {
			return false
		}
	}
	return true
}

func rightItems(l []api.Item, most int) bool {
	if len(l) > most {
		return false
	}
	for i, x := range l {
		if _, twice := first(l[:i], itemKey, x.Id); twice || !names.Name(x.Id) || !names.Address(x.Publisher) || !isBody(x.Text) {
			return false
		}
	}
	return true
}
