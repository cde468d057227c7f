// Package names is the names and addresses of ../../shared/doc/11-node.md, which several layers ask for.
package names

import (
	"heliograph/api"
	"heliograph/jid"
)

// longest is how many bytes a name may have.
const longest = 24

// Name tells whether s may be the name of a node, an item or a user.
func Name(s string) bool {
	for i := range len(s) {
		if !nameByte(s[i]) {
			return false
		}
	}
	return s != "" && len(s) <= longest
}

func nameByte(c byte) bool {
	return 'a' <= c && c <= 'z' || '0' <= c && c <= '9' || c == '-'
}

// Address tells whether s is an address that somebody is known by: small letters, without a resource.
func Address(s string) bool {
	j, errno := jid.Parse(s)
	return errno == api.OK && j.Resource == "" && j == jid.Normal(j)
}
