package node

import (
	"reflect"
	"strconv"
	"strings"
	"testing"

	"heliograph/api"
)

// sample is a right node with something of everything.
func sample() api.Node {
	return api.Node{
		Name: "n-1", Access: api.Authorize, Max: 3, Parent: "top",
		Affs:  []api.Aff{{Jid: "a@d", Role: api.Outcast}, {Jid: "m@d", Role: api.Member}, {Jid: "o@d", Role: api.Owner}, {Jid: "p@d", Role: api.Publisher}},
		Subs:  []api.Sub{{Jid: "m@d"}, {Jid: "s@d", Depth: 255}, {Jid: "w@d", Pending: true, Depth: 2}},
		Items: []api.Item{{Id: "i", Publisher: "o@d", Text: "x"}, {Id: "j", Publisher: "gone@d", Text: ""}},
	}
}

// collection is a right one, with no more than it must have.
func collection() api.Node {
	return api.Node{Name: "c", Collection: true, Affs: []api.Aff{{Jid: "o@d", Role: api.Owner}}}
}

// crowd are so many addresses that rise.
func crowd(n int) []string {
	var l []string
	for i := range n {
		l = append(l, "u"+strconv.Itoa(100+i)+"@d")
	}
	return l
}

func affs(n int) []api.Aff {
	var l []api.Aff
	for _, j := range crowd(n) {
		l = append(l, api.Aff{Jid: j, Role: api.Owner})
	}
	return l
}

func subs(n int) []api.Sub {
	var l []api.Sub
	for _, j := range crowd(n) {
		l = append(l, api.Sub{Jid: j})
	}
	return l
}

func items(n int) []api.Item {
	var l []api.Item
	for i := range n {
		l = append(l, api.Item{Id: "i" + strconv.Itoa(i), Publisher: "o@d", Text: strconv.Itoa(i)})
	}
	return l
}

// variants are nodes at the edges of what is right, and beyond each of them.
func variants() []api.Node {
	var l []api.Node
	add := func(change func(n *api.Node)) {
		for _, n := range []api.Node{sample(), collection()} {
			change(&n)
			l = append(l, n)
		}
	}
	add(func(n *api.Node) {})
	for _, s := range someNames() {
		add(func(n *api.Node) { n.Name = s })
		add(func(n *api.Node) { n.Parent = s })
		add(func(n *api.Node) { n.Max, n.Items = 1, []api.Item{{Id: s, Publisher: "o@d"}} })
	}
	for _, s := range someAddresses() {
		add(func(n *api.Node) { n.Affs = []api.Aff{{Jid: s, Role: api.Owner}} })
		add(func(n *api.Node) { n.Subs = []api.Sub{{Jid: s}} })
		add(func(n *api.Node) { n.Max, n.Items = 1, []api.Item{{Id: "i", Publisher: s}} })
	}
	for _, s := range someTexts() {
		add(func(n *api.Node) { n.Max, n.Items = 1, []api.Item{{Id: "i", Publisher: "o@d", Text: s}} })
	}
	for _, i := range []int{-1 << 63, -256, -1, 0, 1, 2, 3, 4, 5, 6, 7, 8, 9, 15, 16, 17, 255, 256, 1 << 32, 1<<63 - 1} {
		add(func(n *api.Node) { n.Access = api.Access(i) })
		add(func(n *api.Node) { n.Max = i })
		add(func(n *api.Node) { n.Max, n.Items = i, nil })
		add(func(n *api.Node) { n.Affs[0].Role = api.Role(i) })
		add(func(n *api.Node) { n.Affs = []api.Aff{{Jid: "o@d", Role: api.Role(i)}} })
		add(func(n *api.Node) { n.Subs = []api.Sub{{Jid: "s@d", Depth: i}} })
		add(func(n *api.Node) { n.Subs = []api.Sub{{Jid: "s@d", Depth: i, Pending: true}} })
		if i >= 0 && i < 20 {
			add(func(n *api.Node) { n.Affs = affs(i) })
			add(func(n *api.Node) { n.Subs = subs(i) })
			add(func(n *api.Node) { n.Items = items(i) })
			add(func(n *api.Node) { n.Max, n.Items = 8, items(i) })
			add(func(n *api.Node) { n.Max, n.Items = i, items(i) })
			add(func(n *api.Node) { n.Max, n.Items = i, items(i+1) })
		}
	}
	for _, two := range [][2]string{{"a@d", "b@d"}, {"b@d", "a@d"}, {"a@d", "a@d"}, {"a", "a@d"}, {"a-b@d", "a@d"}, {"a@d", "a_b@d"}, {"9@d", "a@d"}, {"a@d", "9@d"}} {
		add(func(n *api.Node) { n.Affs = []api.Aff{{Jid: two[0], Role: api.Owner}, {Jid: two[1], Role: api.Owner}} })
		add(func(n *api.Node) {
			n.Affs = []api.Aff{{Jid: two[0], Role: api.Outcast}, {Jid: two[1], Role: api.Owner}}
		})
		add(func(n *api.Node) { n.Subs = []api.Sub{{Jid: two[0]}, {Jid: two[1], Pending: true}} })
	}
	add(func(n *api.Node) { n.Affs = nil })
	add(func(n *api.Node) { n.Collection = !n.Collection })
	add(func(n *api.Node) { n.Collection, n.Max, n.Items = true, 0, nil })
	add(func(n *api.Node) { n.Parent = n.Name })
	add(func(n *api.Node) { n.Items = append(items(2), items(1)...); n.Max = 8 })
	add(func(n *api.Node) { *n = api.Node{} })
	return l
}

func someNames() []string {
	return []string{"", "a", "z", "0", "9", "-", "---", "a-b", "0a", strings.Repeat("a", 23), strings.Repeat("a", 24), strings.Repeat("a", 25), strings.Repeat("9", 300),
		"A", "aB", "_", "a_b", ".", "a.b", " ", "a ", "a:b", "a/b", "a@b", "a\n", "\n", "\x00", "\u00e9", "\xff", "`", "{", ",", "/"}
}

func someAddresses() []string {
	long := strings.Repeat("l", 32) + "@" + strings.Repeat("d", 31)
	return []string{"", "d", "a@d", "a.b-c_d@e.f", "0@0", "-@.", long, long + "d", strings.Repeat("d", 64), strings.Repeat("d", 65),
		"A@d", "a@D", "D", "a@d/r", "d/r", "a@d/", "@d", "a@", "@", "a@b@c", "/", " a@d", "a@d ", "a@d\n", "\u00e9@d", "\xff@d", "a:b@d", "a@d\x00"}
}

func someTexts() []string {
	return []string{"", "x", "5:x", "\t\n\r ", "<&>", "\x00", "\x1f", "\x7f", "\xff", "\xc3", "\u00e9", "\ufffd", "\ufffe", "\uffff", "\U0001F600", "\xed\xa0\x80",
		strings.Repeat("x", 511), strings.Repeat("x", 512), strings.Repeat("x", 513), strings.Repeat("\u00e9", 256), strings.Repeat("\u00e9", 257), strings.Repeat("\u20ac", 171)}
}

// P11.1: Right at all edges that the document names.
func TestRight(t *testing.T) {
	right := 0
	for _, n := range variants() {
		if Right(n) != modelRight(n) {
			t.Errorf("%+v: %v", n, Right(n))
		}
		if Right(n) {
			right++
		}
	}
	if right < 60 || right > len(variants())-60 {
		t.Errorf("%d of %d are right", right, len(variants()))
	}
}

// P11.1: some edges written out, so that they do not hang on the second reading alone.
func TestRightWrittenOut(t *testing.T) {
	change := func(want bool, f func(n *api.Node)) {
		t.Helper()
		n := sample()
		f(&n)
		if Right(n) != want {
			t.Errorf("%+v: %v", n, !want)
		}
	}
	change(true, func(n *api.Node) {})
	change(true, func(n *api.Node) { n.Name = "abcdefghijklmnopqrstuvwx" })
	change(false, func(n *api.Node) { n.Name = "abcdefghijklmnopqrstuvwxy" })
	change(true, func(n *api.Node) { n.Name = "yz-0123456789" })
	change(false, func(n *api.Node) { n.Name = "a.b" })
	change(false, func(n *api.Node) { n.Name = "" })
	change(true, func(n *api.Node) { n.Parent = "" })
	change(false, func(n *api.Node) { n.Parent = "Top" })
	change(true, func(n *api.Node) { n.Access = 2 })
	change(false, func(n *api.Node) { n.Access = 3 })
	change(true, func(n *api.Node) { n.Max = 2 })
	change(false, func(n *api.Node) { n.Max = 1 })
	change(true, func(n *api.Node) { n.Max = 8 })
	change(false, func(n *api.Node) { n.Max = 9 })
	change(false, func(n *api.Node) { n.Max, n.Items = -1, nil })
	change(false, func(n *api.Node) { n.Collection, n.Items = true, nil })
	change(true, func(n *api.Node) { n.Collection, n.Items, n.Max = true, nil, 0 })
	change(false, func(n *api.Node) { n.Affs[2].Role = api.Publisher })
	change(false, func(n *api.Node) { n.Affs[0].Role = api.NoRole })
	change(false, func(n *api.Node) { n.Affs[0].Role = 0 })
	change(false, func(n *api.Node) { n.Affs[0].Role = 6 })
	change(false, func(n *api.Node) { n.Affs[0], n.Affs[1] = n.Affs[1], n.Affs[0] })
	change(false, func(n *api.Node) { n.Affs[1] = n.Affs[0] })
	change(true, func(n *api.Node) { n.Affs = affs(16) })
	change(false, func(n *api.Node) { n.Affs = affs(17) })
	change(true, func(n *api.Node) { n.Subs = subs(16) })
	change(false, func(n *api.Node) { n.Subs = subs(17) })
	change(false, func(n *api.Node) { n.Subs[1].Depth = 256 })
	change(false, func(n *api.Node) { n.Subs[1].Depth = -1 })
	change(false, func(n *api.Node) { n.Subs[1] = n.Subs[0] })
	change(true, func(n *api.Node) { n.Subs[0].Jid = "d" })
	change(false, func(n *api.Node) { n.Subs[0].Jid = "M@d" })
	change(false, func(n *api.Node) { n.Subs[0].Jid = "m@d/r" })
	change(false, func(n *api.Node) { n.Items[1].Id = "i" })
	change(false, func(n *api.Node) { n.Items[1].Publisher = "" })
	change(true, func(n *api.Node) { n.Items[1].Text = strings.Repeat("x", 512) })
	change(false, func(n *api.Node) { n.Items[1].Text = strings.Repeat("x", 513) })
	change(false, func(n *api.Node) { n.Items[1].Text = "\x01" })
}

// P11.1: two are the same only if all of them is.
func TestSame(t *testing.T) {
	l := variants()
	var texts []string
	for _, n := range l {
		texts = append(texts, modelText(n))
	}
	for i, a := range l {
		for k, b := range l {
			if Same(a, b) != (texts[i] == texts[k]) {
				t.Fatalf("%d, %d: %+v, %+v", i, k, a, b)
			}
		}
	}
	empty, none := collection(), collection()
	empty.Subs, empty.Items = []api.Sub{}, []api.Item{}
	if !Same(empty, none) || !Same(api.Node{}, api.Node{Affs: []api.Aff{}}) {
		t.Error("an empty list is not as none")
	}
}

// P11.1: of several the first one; exactly that address; of nobody NoRole and no Sub.
func TestRoleAndSub(t *testing.T) {
	n := sample()
	n.Affs = append(n.Affs, api.Aff{Jid: "m@d", Role: api.Outcast}, api.Aff{Jid: "", Role: 9})
	n.Subs = append(n.Subs, api.Sub{Jid: "w@d", Depth: 7}, api.Sub{Jid: "", Depth: -1})
	for jid, want := range map[string]api.Role{"a@d": api.Outcast, "m@d": api.Member, "p@d": api.Publisher, "o@d": api.Owner, "s@d": api.NoRole, "M@d": api.NoRole, "m@d/r": api.NoRole, "m": api.NoRole, "": 9} {
		if got := Role(n, jid); got != want {
			t.Errorf("%q: %d", jid, got)
		}
	}
	for jid, want := range map[string]api.Sub{"m@d": {Jid: "m@d"}, "s@d": {Jid: "s@d", Depth: 255}, "w@d": {Jid: "w@d", Pending: true, Depth: 2}, "": {Depth: -1}} {
		if got, ok := Sub(n, jid); got != want || !ok {
			t.Errorf("%q: %+v", jid, got)
		}
	}
	for _, jid := range []string{"a@d", "S@d", "s@d/r", "s", "\xff"} {
		if got, ok := Sub(n, jid); got != (api.Sub{}) || ok {
			t.Errorf("%q: %+v", jid, got)
		}
	}
	if _, ok := Sub(api.Node{}, ""); ok || Role(api.Node{}, "") != api.NoRole {
		t.Error("of the zero Node")
	}
}

// P11.1: Reads, of each role, each access and each kind of Sub.
func TestReads(t *testing.T) {
	var want = map[api.Role][3]string{ // of Open, Authorize, Whitelist: without a Sub, with one that is Pending, with one that is not
		api.Outcast: {"---", "---", "---"}, api.NoRole: {"yyy", "--y", "---"}, api.Member: {"yyy", "yyy", "yyy"}, api.Publisher: {"yyy", "yyy", "yyy"}, api.Owner: {"yyy", "yyy", "yyy"},
	}
	for role, rows := range want {
		for access, row := range rows {
			for i, y := range row {
				n := api.Node{Access: api.Access(access), Affs: []api.Aff{{Jid: "x@d", Role: role}}, Subs: []api.Sub{{Jid: "other@d"}}}
				if i > 0 {
					n.Subs = append(n.Subs, api.Sub{Jid: "x@d", Pending: i == 1})
				}
				if Reads(n, "x@d") != (y == 'y') {
					t.Errorf("role %d, access %d, %d: %v", role, access, i, y != 'y')
				}
				if n.Affs = nil; role == api.NoRole && Reads(n, "x@d") != (y == 'y') {
					t.Errorf("without an Aff, access %d, %d: %v", access, i, y != 'y')
				}
			}
		}
	}
	for _, n := range variants() {
		for _, jid := range []string{"a@d", "m@d", "o@d", "s@d", "w@d", "nobody@d", ""} {
			if modelRight(n) && Reads(n, jid) != modelOf(n).reads(jid) {
				t.Errorf("%+v, %q", n, jid)
			}
		}
	}
}

// P11.1, P1: nodes that are not right are asked too.
func TestReadsOfWrong(t *testing.T) {
	if Reads(api.Node{Access: 3}, "x@d") || Reads(api.Node{Access: 255, Subs: []api.Sub{{Jid: "x@d"}}}, "x@d") {
		t.Error("of no Access")
	}
	if !Reads(api.Node{}, "") || !Reads(api.Node{Access: api.Whitelist, Affs: []api.Aff{{Role: api.Member}}}, "") {
		t.Error("of the empty address")
	}
	twice := []api.Sub{{Jid: "x@d", Pending: true}, {Jid: "x@d"}}
	if !Reads(api.Node{Access: api.Authorize, Subs: twice}, "x@d") {
		t.Error("it has a Sub that is not Pending")
	}
}

// P11.1: the text, written out.
func TestEncode(t *testing.T) {
	for _, c := range []struct {
		n    api.Node
		want string
	}{
		{collection(), "1:c1:c1:01:00:1:13:o@d1:51:01:0"},
		{sample(), "3:n-11:l1:11:33:top1:43:a@d1:13:m@d1:33:o@d1:53:p@d1:41:33:m@d1:s1:03:s@d1:s3:2553:w@d1:p1:21:21:i3:o@d1:x1:j6:gone@d0:"},
		{api.Node{Name: "n", Access: api.Whitelist, Max: 8, Affs: affs(10), Items: []api.Item{{Id: "ten-ten-te", Publisher: "d", Text: "1:\u00e9:"}}},
			"1:n1:l1:21:80:2:10" + "6:u100@d1:56:u101@d1:56:u102@d1:56:u103@d1:56:u104@d1:56:u105@d1:56:u106@d1:56:u107@d1:56:u108@d1:56:u109@d1:5" + "1:01:110:ten-ten-te1:d5:1:\u00e9:"},
	} {
		if got, errno := Encode(c.n); got != c.want || errno != api.OK {
			t.Errorf("%s, %d; want %s", got, errno, c.want)
		}
		if n, errno := Decode(c.want); !reflect.DeepEqual(n, c.n) || errno != api.OK {
			t.Errorf("%s: %+v, %d", c.want, n, errno)
		}
	}
}
