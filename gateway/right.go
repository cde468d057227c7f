package gateway

import (
	"heliograph/api"
	"heliograph/jid"
	"heliograph/names"
)

// How many bytes there may be at most.
const (
	maxDomain   = 20
	maxSecret   = 32
	maxResource = 16
)

func rightDomain(s string) bool {
	j := api.Jid{Domain: s}
	return jid.Right(j) && jid.Normal(j) == j && len(s) <= maxDomain
}

func rightUsers(users []User) bool {
	if len(users) < 1 || len(users) > api.MaxUsers {
		return false
	}
	for i, u := range users {
		if !names.Name(u.Name) || !rightSecret(u.Secret) || named(users[:i], u.Name) {
			return false
		}
	}
	return true
}

func named(users []User, name string) bool {
	for _, u := range users {
		if u.Name == name {
			return true
		}
	}
	return false
}

func rightSecret(s string) bool {
	for i := range len(s) {
		c := s[i]
		if !('a' <= c && c <= 'z' || 'A' <= c && c <= 'Z' || '0' <= c && c <= '9') {
			return false
		}
	}
	return s != "" && len(s) <= maxSecret
}
