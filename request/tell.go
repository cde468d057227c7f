package request

import (
	"heliograph/api"
	"heliograph/write"
)

// Answer is the payload of a reply.
func Answer(r api.Request, x api.Reply) []api.Token {
	var inside []api.Token
	switch r.Verb {
	case api.Items:
		for _, i := range x.Items {
			inside = append(inside, element("item", i.Text, "id", i.Id, "publisher", i.Publisher)...)
		}
	case api.Nodes:
		for _, name := range x.Names {
			inside = append(inside, element("node", "", "name", name)...)
		}
	default:
		return nil
	}
	return write.Element(Verb(r.Verb), []api.Attr{{Name: "node", Value: r.Node}}, inside...)
}

// Event is the payload of a notification.
func Event(n api.Note) []api.Token {
	return write.Element("event", nil, happened(n)...)
}

func happened(n api.Note) []api.Token {
	switch {
	case !n.Gone:
		return element("item", n.Text, "node", n.Node, "id", n.Item)
	case n.Item != "":
		return element("retract", "", "node", n.Node, "id", n.Item)
	}
	return element("purge", "", "node", n.Node)
}

// element is one with a text in it, and attributes: names, each with its value behind it.
func element(name, text string, pairs ...string) []api.Token {
	var attrs []api.Attr
	for i := 1; i < len(pairs); i += 2 {
		attrs = append(attrs, api.Attr{Name: pairs[i-1], Value: pairs[i]})
	}
	return write.Element(name, attrs, chars(text)...)
}

// chars is a text as tokens: none, if it is empty.
func chars(s string) []api.Token {
	if s == "" {
		return nil
	}
	return []api.Token{{Kind: api.Chars, Text: s}}
}
