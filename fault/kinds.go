package fault

import (
	"strconv"
	"strings"

	"heliograph/api"
)

// own are the errors that this package makes; none that it makes is the zero value of its type.
type own interface {
	made | *placed
	error
}

// made is what Make makes: a value, so that errors.Is finds any error of the same condition.
type made struct{ cond api.Cond }

func (m made) Error() string { return Name(m.cond) }

// placed is what Wrap makes: used by its pointer, since the error inside may not be comparable.
type placed struct {
	err   error
	place int
}

func (p *placed) Unwrap() error {
	if p == nil {
		return nil
	}
	return p.err
}

// Error goes inward by a loop, since an error that is wrapped very often would be copied once for each time.
func (p *placed) Error() string {
	if p == nil {
		return ""
	}
	var b strings.Builder
	for {
		b.WriteString("at " + strconv.Itoa(p.place) + ": ")
		inner, ok := p.err.(*placed)
		if !ok {
			break
		}
		p = inner
	}
	b.WriteString(p.err.Error())
	return b.String()
}
