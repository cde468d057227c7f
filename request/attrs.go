package request

import (
	"strconv"

	"heliograph/api"
)

// attrs are the attributes of a right request.
func attrs(r api.Request) []api.Attr {
	n := named(r.Verb)
	var l []api.Attr
	add := func(named bool, name, value string) {
		if named {
			l = append(l, api.Attr{Name: name, Value: value})
		}
	}
	add(n.node, "node", r.Node)
	add(n.item, "item", r.Item)
	add(n.jid, "jid", r.Jid)
	add(n.role, "role", roles()[r.Role])
	add(n.access, "access", accesses()[r.Access])
	add(n.max, "max", strconv.Itoa(r.Max))
	add(n.depth, "depth", strconv.Itoa(r.Depth))
	add(n.parent, "parent", r.Parent)
	add(n.kind, "type", types()[typeOf(r.Collection)])
	return l
}

// read takes out of tokens what a payload has there. Whether they are one it does not ask: Decode does, by telling it again.
func read(l []api.Token) api.Request {
	if len(l) < 3 {
		return api.Request{}
	}
	verb, inside := l[1], l[2]
	r := api.Request{Verb: api.Verb(verbs().find(verb.Name)), Text: inside.Text}
	for _, a := range verb.Attrs {
		take(&r, a)
	}
	return r
}

func take(r *api.Request, a api.Attr) {
	switch a.Name {
	case "node":
		r.Node = a.Value
	case "item":
		r.Item = a.Value
	case "jid":
		r.Jid = a.Value
	case "role":
		r.Role = api.Role(roles().find(a.Value))
	case "access":
		r.Access = api.Access(accesses().find(a.Value))
	case "max":
		r.Max = number(a.Value)
	case "depth":
		r.Depth = number(a.Value)
	case "parent":
		r.Parent = a.Value
	case "type":
		r.Collection = types().find(a.Value) == collection
	}
}

// number is what digits say; of other texts it is some number, which is not told by that text again.
func number(s string) int {
	n, _ := strconv.Atoi(s)
	return n
}
