package node

import (
	"slices"

	"heliograph/api"
)

// What a list is looked through by, and, of Affs and Subs, kept in order by.
func affKey(a api.Aff) string   { return a.Jid }
func subKey(s api.Sub) string   { return s.Jid }
func itemKey(i api.Item) string { return i.Id }

// first is the first one of a key.
func first[T any](l []T, key func(T) string, k string) (T, bool) {
	for _, x := range l {
		if key(x) == k {
			return x, true
		}
	}
	var none T
	return none, false
}

// rise tells whether the keys rise, no two alike.
func rise[T any](l []T, key func(T) string) bool {
	for i := 1; i < len(l); i++ {
		if key(l[i-1]) >= key(l[i]) {
			return false
		}
	}
	return true
}

// copied is a list of its own, as all are that are answered.
func copied[T any](l []T) []T {
	return append([]T(nil), l...)
}

// without is a copy that has none of a key.
func without[T any](l []T, key func(T) string, k string) []T {
	return slices.DeleteFunc(copied(l), func(x T) bool { return key(x) == k })
}

// with is a copy of a list whose keys rise, and they still do: x takes the place of what has its key.
func with[T any](l []T, key func(T) string, x T) []T {
	l = without(l, key, key(x))
	at := 0
	for at < len(l) && key(l[at]) < key(x) {
		at++
	}
	return slices.Insert(l, at, x)
}

// newest is a copy of the last ones, at most so many.
func newest[T any](l []T, most int) []T {
	return copied(l[max(0, len(l)-most):])
}
