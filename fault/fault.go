// Package fault is stanza errors as errors. See ../../shared/doc/01-fault.md.
package fault

import (
	"errors"

	"heliograph/api"
)

// row is what a condition is called, and the type of its error.
type row struct{ name, kind string }

// rows has each condition at its own number; the place of NoCond stays empty.
var rows = [...]row{
	api.BadRequest:         {"bad-request", "modify"},
	api.Conflict:           {"conflict", "cancel"},
	api.Forbidden:          {"forbidden", "auth"},
	api.ItemNotFound:       {"item-not-found", "cancel"},
	api.JidMalformed:       {"jid-malformed", "modify"},
	api.NotAllowed:         {"not-allowed", "cancel"},
	api.NotAuthorized:      {"not-authorized", "auth"},
	api.ResourceConstraint: {"resource-constraint", "wait"},
	api.ServiceUnavailable: {"service-unavailable", "cancel"},
	api.UnexpectedRequest:  {"unexpected-request", "wait"},
}

func known(c api.Cond) bool { return c > api.NoCond && int(c) < len(rows) }

// Make is an error of a condition; nil, if it is none.
func Make(c api.Cond) error {
	if !known(c) {
		return nil
	}
	return made{c}
}

// Wrap is an error with a place; nil of nil.
func Wrap(err error, place int) error {
	if err == nil {
		return nil
	}
	return &placed{err, place}
}

// Cond is the condition of the first error in err's chain that Make made.
func Cond(err error) (api.Cond, bool) {
	m, ok := first[made](err)
	if !ok {
		return api.NoCond, false
	}
	return m.cond, true
}

// Place is the outermost place of an error.
func Place(err error) (int, bool) {
	p, ok := first[*placed](err)
	if !ok {
		return 0, false
	}
	return p.place, true
}

// Is tells whether err's chain has an error that Make made of c.
func Is(err error, c api.Cond) bool {
	return has(err, made{c})
}

// Depth is how often an error was wrapped.
func Depth(err error) int {
	n := 0
	for p, ok := first[*placed](err); ok; p, ok = first[*placed](p.err) {
		n++
	}
	return n
}

// Name is a condition's name; empty, if it is none.
func Name(c api.Cond) string {
	if !known(c) {
		return ""
	}
	return rows[c].name
}

// Type is the type of a condition's error; empty, if it is none.
func Type(c api.Cond) string {
	if !known(c) {
		return ""
	}
	return rows[c].kind
}

// Parse is the condition of a name.
func Parse(name string) (api.Cond, bool) {
	for i, r := range rows {
		c := api.Cond(i)
		// The empty row of NoCond must not answer to the empty name.
		if known(c) && r.name == name {
			return c, true
		}
	}
	return api.NoCond, false
}

// first is the first error of type E in err's chain. The methods of errors from elsewhere run meanwhile: one that panics ends the chain, and one whose As says yes but hands nothing over has found nothing.
func first[E own](err error) (found E, ok bool) {
	var none E
	defer func() {
		if recover() != nil {
			found, ok = none, false
		}
	}()
	ok = errors.As(err, &found) && found != none
	return found, ok
}

// has is errors.Is, where a panic of an error from elsewhere ends the chain.
func has(err, target error) (ok bool) {
	defer func() {
		if recover() != nil {
			ok = false
		}
	}()
	return errors.Is(err, target)
}
