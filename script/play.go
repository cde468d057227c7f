package script

import (
	"strconv"
	"strings"

	"heliograph/api"
	"heliograph/gateway"
)

// users are those of every script's server, by their numbers.
func users() []gateway.User {
	return []gateway.User{{Name: "ann", Secret: "pa"}, {Name: "bob", Secret: "pb"}, {Name: "cy", Secret: "pc"}}
}

// play is a server that lines are done by.
type play struct{ *gateway.Server }

func newPlay() play { return play{gateway.New("d", 200, users()...)} }

// wants is how many parts a line of that word has; 0: there is no such line.
func wants(word string) int {
	n := 0
	switch word {
	case "feed":
		n++
		fallthrough
	case "cut", "out", "crash", "jid", "stored":
		n++
		fallthrough
	case "connect", "tick", "nodes":
		n++
	}
	return n
}

func (p play) answer(line string) string {
	l, ok := split(line)
	if !ok || l.count != wants(l.word) {
		return "word"
	}
	return p.do(l)
}

func (p play) do(l parts) string {
	switch l.word {
	case "connect":
		number, errno := p.Connect()
		return done(errno, " "+strconv.Itoa(number))
	case "feed":
		return done(p.Feed(l.conn, []byte(l.rest)), "")
	case "cut":
		return done(p.Cut(l.conn), "")
	case "tick":
		return done(p.Tick(), "")
	case "crash":
		return done(p.Crash(l.conn, nil, 0, nil), "")
	case "out":
		return string(p.Out(l.conn))
	case "jid":
		address, _ := p.Jid(l.conn)
		return orNone(address)
	case "stored":
		return strconv.Itoa(p.stored(l.conn))
	}
	return orNone(p.names())
}

// done tells how something ended, and what behind it is to be told, if it did well.
func done(errno api.Errno, told string) string {
	if errno != api.OK {
		return "error " + strconv.Itoa(int(errno))
	}
	return "ok" + told
}

func orNone(s string) string {
	if s == "" {
		return "-"
	}
	return s
}

// stored is how much waits for a user; of a number that no user has nothing does.
func (p play) stored(number int) int {
	l := users()
	if number >= len(l) {
		return 0
	}
	return len(p.Stored(l[number].Name))
}

func (p play) names() string {
	var l []string
	for _, n := range p.Nodes() {
		l = append(l, n.Name)
	}
	return strings.Join(l, " ")
}
