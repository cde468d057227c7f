package request

import (
	"fmt"
	"regexp"
	"slices"
	"strings"
	"unicode/utf8"

	"heliograph/api"
	"heliograph/text"
	"heliograph/write"
)

// The document read a second time, by other means than the program's: tests hold the program against this.

const (
	nameForm    = `[a-z0-9-]{1,24}`
	addressForm = `(?:[a-z0-9._-]+@)?[a-z0-9._-]+`
)

var (
	aName       = regexp.MustCompile(`\A` + nameForm + `\z`)
	anAddress   = regexp.MustCompile(`\A` + addressForm + `\z`)
	barredChars = regexp.MustCompile("[\\x00-\\x08\\x0b\\x0c\\x0e-\\x1f\\x{fffe}\\x{ffff}]")
)

// modelNames are the verbs' names as the document lists them, with what each names in the order of the attributes.
var modelNames = []struct{ verb, things string }{
	1:  {"create", "node type"},
	2:  {"remove", "node"},
	3:  {"configure", "node access max"},
	4:  {"subscribe", "node depth"},
	5:  {"unsubscribe", "node"},
	6:  {"approve", "node jid"},
	7:  {"deny", "node jid"},
	8:  {"affiliate", "node jid role"},
	9:  {"publish", "node item text"},
	10: {"retract", "node item"},
	11: {"purge", "node"},
	12: {"items", "node"},
	13: {"associate", "node parent"},
	14: {"dissociate", "node"},
	15: {"nodes", "node"},
}

var (
	modelRoles    = []string{1: "outcast", 2: "none", 3: "member", 4: "publisher", 5: "owner"}
	modelAccesses = []string{"open", "authorize", "whitelist"}
)

func modelChars(s string) bool {
	return len(s) <= 512 && utf8.ValidString(s) && !barredChars.MatchString(s)
}

// modelThings are all things of a request that are not zero, with whether each is right.
func modelThings(r api.Request) (there []string, right map[string]bool) {
	right = map[string]bool{
		"node":   aName.MatchString(r.Node) || r.Verb == 15 && r.Node == "",
		"item":   aName.MatchString(r.Item),
		"jid":    anAddress.MatchString(r.Jid) && len(r.Jid) <= 64,
		"role":   slices.Contains([]api.Role{1, 2, 3, 4, 5}, r.Role),
		"access": slices.Contains([]api.Access{0, 1, 2}, r.Access),
		"max":    slices.Contains([]int{0, 1, 2, 3, 4, 5, 6, 7, 8}, r.Max),
		"depth":  r.Depth >= 0 && r.Depth < 256,
		"parent": aName.MatchString(r.Parent),
		"type":   true,
		"text":   modelChars(r.Text),
	}
	for name, is := range map[string]bool{"node": r.Node != "", "item": r.Item != "", "jid": r.Jid != "", "role": r.Role != 0, "access": r.Access != 0, "max": r.Max != 0, "depth": r.Depth != 0, "parent": r.Parent != "", "type": r.Collection, "text": r.Text != ""} {
		if is {
			there = append(there, name)
		}
	}
	return there, right
}

func modelRight(r api.Request) bool {
	if r.Verb < 1 || r.Verb > 15 {
		return false
	}
	names := strings.Fields(modelNames[r.Verb].things)
	there, right := modelThings(r)
	for _, name := range there {
		if !slices.Contains(names, name) {
			return false
		}
	}
	for _, name := range names {
		if !right[name] {
			return false
		}
	}
	return true
}

// modelText is the text of a right request's payload.
func modelText(r api.Request) string {
	kind := "leaf"
	if r.Collection {
		kind = "collection"
	}
	verb := modelNames[r.Verb].verb
	s := "<pubsub><" + verb
	for _, name := range strings.Fields(modelNames[r.Verb].things) {
		switch name {
		case "node":
			s += fmt.Sprintf(" node='%s'", r.Node)
		case "item":
			s += fmt.Sprintf(" item='%s'", r.Item)
		case "jid":
			s += fmt.Sprintf(" jid='%s'", r.Jid)
		case "role":
			s += fmt.Sprintf(" role='%s'", modelRoles[r.Role])
		case "access":
			s += fmt.Sprintf(" access='%s'", modelAccesses[r.Access])
		case "max":
			s += fmt.Sprintf(" max='%d'", r.Max)
		case "depth":
			s += fmt.Sprintf(" depth='%d'", r.Depth)
		case "parent":
			s += fmt.Sprintf(" parent='%s'", r.Parent)
		case "type":
			s += fmt.Sprintf(" type='%s'", kind)
		}
	}
	if r.Text != "" {
		return s + ">" + text.Escape(r.Text) + "</" + verb + "></pubsub>"
	}
	return s + "/></pubsub>"
}

// modelForms are what the payloads of each verb look like as text.
func modelForms() []*regexp.Regexp {
	forms := map[string]string{
		"node": nameForm, "item": nameForm, "jid": addressForm, "role": "outcast|none|member|publisher|owner", "access": "open|authorize|whitelist",
		"max": "[0-8]", "depth": "[0-9]|[1-9][0-9]|1[0-9][0-9]|2[0-4][0-9]|25[0-5]", "parent": nameForm, "type": "leaf|collection",
	}
	var l []*regexp.Regexp
	for _, v := range modelNames[1:] {
		s, inside := `\A<pubsub><`+v.verb, "/>"
		for _, name := range strings.Fields(v.things) {
			switch {
			case name == "text":
				inside = "(?:/>|>([^<]+)</" + v.verb + ">)"
			case v.verb == "nodes":
				s += " node='(?:" + nameForm + ")?'"
			default:
				s += " " + name + "='(?:" + forms[name] + ")'"
			}
		}
		l = append(l, regexp.MustCompile(s+inside+`</pubsub>\z`))
	}
	return l
}

// modelPayload tells whether tokens are the payload of a right request: what is a payload can be printed, and what is printed is of one of the forms.
func modelPayload(forms []*regexp.Regexp, l []api.Token) bool {
	s, e := write.Print(l)
	if e != api.OK {
		return false
	}
	for _, form := range forms {
		if form.MatchString(s) {
			// How long an address may be the forms don't say.
			jid, _ := write.Attr(l[1], "jid")
			return len(jid) <= 64
		}
	}
	return false
}
