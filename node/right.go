package node

import (
	"heliograph/api"
	"heliograph/jid"
	"heliograph/text"
)

const (
	maxName  = 24  // bytes of a name of a node or an item
	maxDepth = 255 // of a Sub
)

// Right tells whether a node is right.
func Right(n api.Node) bool {
	return isName(n.Name) && isAccess(n.Access) && isMax(n.Max, n.Collection) && (n.Parent == "" || isName(n.Parent)) &&
		rightAffs(n.Affs) && rightSubs(n.Subs) && rightItems(n.Items, n.Max)
}

func isName(s string) bool {
	for i := range len(s) {
		if !isNameByte(s[i]) {
			return false
		}
	}
	return s != "" && len(s) <= maxName
}

func isNameByte(c byte) bool {
	return 'a' <= c && c <= 'z' || '0' <= c && c <= '9' || c == '-'
}

func isAddress(s string) bool {
	j, errno := jid.Parse(s)
	return errno == api.OK && j.Resource == "" && j == jid.Normal(j)
}

func isAccess(a api.Access) bool { return a <= api.Whitelist }

func isMax(n int, collection bool) bool {
	if collection {
		return n == 0
	}
	return 0 <= n && n <= api.MaxItems
}

func isDepth(n int) bool { return 0 <= n && n <= maxDepth }

func isBody(s string) bool { return len(s) <= api.MaxText && text.Chars(s) }

// isRole tells whether a role may be given; NoRole is given by taking the Aff away.
func isRole(r api.Role) bool { return api.Outcast <= r && r <= api.Owner }

func rightAffs(l []api.Aff) bool {
	if len(l) > api.MaxPeople || !rise(l, affKey) {
		return false
	}
	for _, a := range l {
		if !isAddress(a.Jid) || !isRole(a.Role) || a.Role == api.NoRole {
			return false
		}
	}
	return hasOwner(l)
}

func hasOwner(l []api.Aff) bool {
	for _, a := range l {
		if a.Role == api.Owner {
			return true
		}
	}
	return false
}

func rightSubs(l []api.Sub) bool {
	if len(l) > api.MaxPeople || !rise(l, subKey) {
		return false
	}
	for _, s := range l {
		if !isAddress(s.Jid) || !isDepth(s.Depth) {
			return false
		}
	}
	return true
}

func rightItems(l []api.Item, most int) bool {
	if len(l) > most {
		return false
	}
	for i, x := range l {
		if _, twice := first(l[:i], itemKey, x.Id); twice || !isName(x.Id) || !isAddress(x.Publisher) || !isBody(x.Text) {
			return false
		}
	}
	return true
}
