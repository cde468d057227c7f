package write

import (
	"iter"

	"heliograph/api"
	"heliograph/text"
)

// step is a token with what stands around it.
type step struct {
	token        api.Token
	last, next   api.TokenKind // of its neighbours; NoToken, where there is none
	inside       string        // the name of the element that it stands in
	ahead, after int           // how many elements are open ahead of it, and behind it
}

// walk yields tokens one by one; of those that are not balanced it goes on as well as it can.
func walk(l []api.Token) iter.Seq[step] {
	return func(yield func(step) bool) {
		var open []string
		for i, t := range l {
			s := step{token: t, last: kindAt(l, i-1), next: kindAt(l, i+1), ahead: len(open)}
			if s.ahead > 0 {
				s.inside = open[s.ahead-1]
			}
			switch {
			case t.Kind == api.Begin:
				open = append(open, t.Name)
			case t.Kind == api.End && s.ahead > 0:
				open = open[:s.ahead-1]
			}
			s.after = len(open)
			if !yield(s) {
				return
			}
		}
	}
}

func kindAt(l []api.Token, i int) api.TokenKind {
	if i < 0 || i >= len(l) {
		return api.NoToken
	}
	return l[i].Kind
}

// fits tells whether a token is right where it stands.
func (s step) fits() bool {
	t := s.token
	switch t.Kind {
	case api.Begin:
		return s.after <= api.MaxDepth && text.Name(t.Name) && t.Text == "" && rightAttrs(t.Attrs)
	case api.End:
		return s.ahead > 0 && s.inside == t.Name && t.Text == "" && len(t.Attrs) == 0
	case api.Chars:
		return s.ahead > 0 && s.last != api.Chars && t.Text != "" && rightText(t.Text) && t.Name == "" && len(t.Attrs) == 0
	}
	return false
}

func rightAttrs(attrs []api.Attr) bool {
	if len(attrs) > api.MaxAttrs {
		return false
	}
	for i, a := range attrs {
		_, again := Attr(api.Token{Attrs: attrs[:i]}, a.Name)
		if again || !text.Name(a.Name) || !rightText(a.Value) {
			return false
		}
	}
	return true
}

func rightText(s string) bool { return len(s) <= api.MaxText && text.Chars(s) }
