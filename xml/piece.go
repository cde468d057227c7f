package xml

import (
	"strings"

	"heliograph/api"
	"heliograph/text"
)

// takeText tells what a text says. An empty one is no piece: else no tag could be the very first.
func (p *Parser) takeText(s string) []api.Token {
	if s == "" {
		return nil
	}
	p.begun = true
	plain, err := text.Unescape(s)
	if err != api.OK || !text.Chars(s) {
		giveUp(api.ErrXml)
	}
	if len(p.open) > 0 {
		return []api.Token{{Kind: api.Chars, Text: plain}}
	}
	if !text.Space(s) {
		giveUp(api.ErrXml)
	}
	return nil
}

// takeTag tells what a tag says.
func (p *Parser) takeTag(s string) []api.Token {
	first := !p.begun
	p.begun = true
	if !text.Chars(s) {
		giveUp(api.ErrXml)
	}
	if first && isDeclaration(s) {
		return nil
	}
	if strings.HasPrefix(s, "<!") || strings.HasPrefix(s, "<?") {
		giveUp(api.ErrBarred)
	}
	if strings.HasPrefix(s, "</") {
		return p.end(readEnding(s))
	}
	return p.begin(readBeginning(s))
}

func isDeclaration(s string) bool {
	rest, ok := strings.CutPrefix(s, "<?xml")
	return ok && text.Space(rest[:1]) && strings.HasSuffix(rest, "?>")
}

func (p *Parser) begin(b beginning) []api.Token {
	switch {
	case len(p.open) == 0 && p.rooted:
		giveUp(api.ErrXml)
	case len(b.attrs) > api.MaxAttrs:
		giveUp(api.ErrLong)
	case repeats(b.attrs):
		giveUp(api.ErrXml)
	case len(p.open) >= api.MaxDepth:
		giveUp(api.ErrLong)
	}
	p.rooted = true
	told := []api.Token{{Kind: api.Begin, Name: b.name, Attrs: b.attrs}}
	if b.ends {
		return append(told, api.Token{Kind: api.End, Name: b.name})
	}
	p.open = append(p.open, b.name)
	return told
}

func repeats(attrs []api.Attr) bool {
	for i, a := range attrs {
		for _, b := range attrs[:i] {
			if a.Name == b.Name {
				return true
			}
		}
	}
	return false
}

func (p *Parser) end(name string) []api.Token {
	last := len(p.open) - 1
	if last < 0 || p.open[last] != name {
		giveUp(api.ErrXml)
	}
	p.open = p.open[:last]
	return []api.Token{{Kind: api.End, Name: name}}
}
