package request

import (
	"math/rand"
	"reflect"
	"slices"
	"strings"
	"testing"

	"heliograph/api"
	"heliograph/text"
	"heliograph/write"
)

// printed is the text of tokens that must be right.
func printed(t *testing.T, l []api.Token) string {
	t.Helper()
	s, e := write.Print(l)
	if e != api.OK {
		t.Errorf("%q can't be printed: error %d", l, e)
	}
	return s
}

// P13.2
func TestAnswer(t *testing.T) {
	items := []api.Item{{Id: "i", Publisher: "a@d", Text: "t<"}, {Id: "j", Publisher: "b@d"}}
	names := []string{"a", "b", "c"}
	for _, x := range []struct {
		r    api.Request
		x    api.Reply
		want string
	}{
		{api.Request{Verb: api.Items, Node: "n"}, api.Reply{}, "<items node='n'/>"},
		{api.Request{Verb: api.Items, Node: "n"}, api.Reply{Items: items}, "<items node='n'><item id='i' publisher='a@d'>t&lt;</item><item id='j' publisher='b@d'/></items>"},
		{api.Request{Verb: api.Items, Node: "n"}, api.Reply{Items: items, Names: names}, "<items node='n'><item id='i' publisher='a@d'>t&lt;</item><item id='j' publisher='b@d'/></items>"},
		{api.Request{Verb: api.Items}, api.Reply{Items: items[1:]}, "<items node=''><item id='j' publisher='b@d'/></items>"},
		{api.Request{Verb: api.Items, Node: "n"}, api.Reply{Names: names}, "<items node='n'/>"},
		{api.Request{Verb: api.Nodes, Node: "n"}, api.Reply{}, "<nodes node='n'/>"},
		{api.Request{Verb: api.Nodes, Node: "n"}, api.Reply{Names: names}, "<nodes node='n'><node name='a'/><node name='b'/><node name='c'/></nodes>"},
		{api.Request{Verb: api.Nodes}, api.Reply{Names: names[:1], Items: items}, "<nodes node=''><node name='a'/></nodes>"},
		{api.Request{Verb: api.Nodes}, api.Reply{Names: []string{"z", "", "z"}}, "<nodes node=''><node name='z'/><node name=''/><node name='z'/></nodes>"},
	} {
		if s := printed(t, Answer(x.r, x.x)); s != x.want {
			t.Errorf("%+v: %s, want %s", x.r, s, x.want)
		}
	}
	for v := range 256 {
		if v == int(api.Items) || v == int(api.Nodes) {
			continue
		}
		if l := Answer(api.Request{Verb: api.Verb(v), Node: "n"}, api.Reply{Items: items, Names: names}); len(l) != 0 {
			t.Errorf("verb %d: %q", v, l)
		}
	}
}

// P13.2: what is not right is told as it is.
func TestAnswerWrong(t *testing.T) {
	l := Answer(api.Request{Verb: api.Items, Node: "\xff"}, api.Reply{Items: []api.Item{{Id: "\x00", Publisher: "", Text: "\xff"}}})
	want := []api.Token{
		{Kind: api.Begin, Name: "items", Attrs: []api.Attr{{Name: "node", Value: "\xff"}}},
		{Kind: api.Begin, Name: "item", Attrs: []api.Attr{{Name: "id", Value: "\x00"}, {Name: "publisher"}}},
		{Kind: api.Chars, Text: "\xff"}, {Kind: api.End, Name: "item"}, {Kind: api.End, Name: "items"},
	}
	if !reflect.DeepEqual(l, want) {
		t.Errorf("%q", l)
	}
	if l := Answer(api.Request{Verb: api.Items}, api.Reply{Items: make([]api.Item, 1000)}); len(l) != 2002 {
		t.Error("tokens:", len(l))
	}
}

// P13.2: the greatest answers that the service gives can be printed.
func TestAnswerGreatest(t *testing.T) {
	var x api.Reply
	for range api.MaxItems {
		x.Items = append(x.Items, api.Item{Id: strings.Repeat("i", 24), Publisher: strings.Repeat("d", 64), Text: strings.Repeat("<", 512)})
	}
	for range api.MaxNodes {
		x.Names = append(x.Names, strings.Repeat("n", 24))
	}
	for _, v := range []api.Verb{api.Items, api.Nodes} {
		if !write.Whole(Answer(api.Request{Verb: v, Node: strings.Repeat("n", 24)}, x)) {
			t.Error(Verb(v))
		}
	}
}

// P13.2
func TestEvent(t *testing.T) {
	for _, x := range []struct {
		n    api.Note
		want string
	}{
		{api.Note{To: "a@d", Node: "n", Item: "i", Text: "t&"}, "<event><item node='n' id='i'>t&amp;</item></event>"},
		{api.Note{Node: "n", Item: "i"}, "<event><item node='n' id='i'/></event>"},
		{api.Note{Node: "n"}, "<event><item node='n' id=''/></event>"},
		{api.Note{}, "<event><item node='' id=''/></event>"},
		{api.Note{Text: "x"}, "<event><item node='' id=''>x</item></event>"},
		{api.Note{To: "a@d", Node: "n", Item: "i", Gone: true}, "<event><retract node='n' id='i'/></event>"},
		{api.Note{Node: "n", Item: "i", Text: "t", Gone: true}, "<event><retract node='n' id='i'/></event>"},
		{api.Note{To: "a@d", Node: "n", Gone: true}, "<event><purge node='n'/></event>"},
		{api.Note{Node: "n", Text: "t", Gone: true}, "<event><purge node='n'/></event>"},
		{api.Note{Gone: true}, "<event><purge node=''/></event>"},
	} {
		if s := printed(t, Event(x.n)); s != x.want {
			t.Errorf("%+v: %s, want %s", x.n, s, x.want)
		}
	}
	if l := Event(api.Note{Node: "\xff", Item: "\x00", Text: "\xfe"}); len(l) != 5 || l[1].Attrs[0].Value != "\xff" || l[1].Attrs[1].Value != "\x00" || l[2].Text != "\xfe" {
		t.Errorf("%q", l)
	}
}

// P13.2: answers and events of all kinds, put together by texts.
func TestTellRandom(t *testing.T) {
	rnd := rand.New(rand.NewSource(3))
	word := func() string { return []string{"", "a", "b&", "<c>", "d'"}[rnd.Intn(5)] }
	attr := func(name, value string) string { return " " + name + "='" + text.Escape(value) + "'" }
	element := func(begin, name, inside string) string {
		if inside == "" {
			return "<" + begin + "/>"
		}
		return "<" + begin + ">" + inside + "</" + name + ">"
	}
	for range 5000 {
		r := api.Request{Verb: api.Items, Node: word()}
		var x api.Reply
		items, nodes := "", ""
		for range rnd.Intn(5) {
			i := api.Item{Id: word(), Publisher: word(), Text: word()}
			x.Items = append(x.Items, i)
			items += element("item"+attr("id", i.Id)+attr("publisher", i.Publisher), "item", text.Escape(i.Text))
			name := word()
			x.Names = append(x.Names, name)
			nodes += element("node"+attr("name", name), "node", "")
		}
		if s := printed(t, Answer(r, x)); s != element("items"+attr("node", r.Node), "items", items) {
			t.Errorf("%+v: %s", x, s)
		}
		r.Verb = api.Nodes
		if s := printed(t, Answer(r, x)); s != element("nodes"+attr("node", r.Node), "nodes", nodes) {
			t.Errorf("%+v: %s", x, s)
		}
		n := api.Note{To: word(), Node: word(), Item: word(), Text: word(), Gone: rnd.Intn(2) == 0}
		inside := element("purge"+attr("node", n.Node), "purge", "")
		if !n.Gone {
			inside = element("item"+attr("node", n.Node)+attr("id", n.Item), "item", text.Escape(n.Text))
		} else if n.Item != "" {
			inside = element("retract"+attr("node", n.Node)+attr("id", n.Item), "retract", "")
		}
		if s := printed(t, Event(n)); s != element("event", "event", inside) {
			t.Errorf("%+v: %s", n, s)
		}
	}
}

// P3: what is handed in stays, and what is answered is the caller's.
func TestTellSharing(t *testing.T) {
	items, itemsSame := spare([]api.Item{{Id: "i", Publisher: "a@d", Text: "t"}}, api.Item{Id: "mark"})
	names, namesSame := spare([]string{"a", "b"}, "mark")
	x := api.Reply{Items: items, Names: names}
	for _, tell := range []func() []api.Token{
		func() []api.Token { return Answer(api.Request{Verb: api.Items, Node: "n"}, x) },
		func() []api.Token { return Answer(api.Request{Verb: api.Nodes, Node: "n"}, x) },
		func() []api.Token { return Event(api.Note{Node: "n", Item: "i", Text: "t"}) },
	} {
		a, b := tell(), tell()
		want := clone(b)
		for i := range a {
			for k := range a[i].Attrs {
				a[i].Attrs[k].Value = "spoilt"
			}
			a[i].Attrs = append(a[i].Attrs, api.Attr{Name: "spoilt"})
			a[i].Name = "spoilt"
		}
		if !slices.EqualFunc(b, want, func(x, y api.Token) bool { return write.Same([]api.Token{x}, []api.Token{y}) }) || !itemsSame() || !namesSame() {
			t.Error("something is shared")
		}
	}
}
