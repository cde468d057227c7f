package fault

import (
	"errors"
	"fmt"
	"math"
	"strings"
	"testing"

	"heliograph/api"
)

// told is the document's list, written out once more, so that a slip in the table shows.
var told = []struct {
	cond       api.Cond
	name, kind string
}{
	{api.BadRequest, "bad-request", "modify"},
	{api.Conflict, "conflict", "cancel"},
	{api.Forbidden, "forbidden", "auth"},
	{api.ItemNotFound, "item-not-found", "cancel"},
	{api.JidMalformed, "jid-malformed", "modify"},
	{api.NotAllowed, "not-allowed", "cancel"},
	{api.NotAuthorized, "not-authorized", "auth"},
	{api.ResourceConstraint, "resource-constraint", "wait"},
	{api.ServiceUnavailable, "service-unavailable", "cancel"},
	{api.UnexpectedRequest, "unexpected-request", "wait"},
}

// wrongConds are numbers that are no condition, the nearest ones and the farthest.
var wrongConds = []api.Cond{api.NoCond, -1, api.UnexpectedRequest + 1, 99, math.MinInt, math.MaxInt}

// plain is an error from elsewhere that cannot be compared.
type plain []string

func (p plain) Error() string { return strings.Join(p, " ") }

// broken is an error from elsewhere whose methods panic when it is nil.
type broken struct{ inner error }

func (b *broken) Error() string { return b.inner.Error() }
func (b *broken) Unwrap() error { return b.inner }

// boaster is an error from elsewhere whose As says yes, but hands nothing over.
type boaster struct{}

func (boaster) Error() string { return "boaster" }
func (boaster) As(any) bool   { return true }

// bursting is an error from elsewhere whose Is and As panic.
type bursting struct{}

func (bursting) Error() string { return "bursting" }
func (bursting) Is(error) bool { panic("is") }
func (bursting) As(any) bool   { panic("as") }

func wantCond(t *testing.T, err error, cond api.Cond, ok bool) {
	t.Helper()
	if c, o := Cond(err); c != cond || o != ok {
		t.Errorf("Cond(%T): %v %v, want %v %v", err, c, o, cond, ok)
	}
}

func wantPlace(t *testing.T, err error, place int, ok bool) {
	t.Helper()
	if p, o := Place(err); p != place || o != ok {
		t.Errorf("Place(%T): %v %v, want %v %v", err, p, o, place, ok)
	}
}

func wantDepth(t *testing.T, err error, depth int) {
	t.Helper()
	if n := Depth(err); n != depth {
		t.Errorf("Depth(%T): %v, want %v", err, n, depth)
	}
}

// wantIs asks of every condition whether err has it.
func wantIs(t *testing.T, err error, conds ...api.Cond) {
	t.Helper()
	want := map[api.Cond]bool{}
	for _, c := range conds {
		want[c] = true
	}
	for _, x := range told {
		if Is(err, x.cond) != want[x.cond] {
			t.Errorf("Is(%T, %s): want %v", err, x.name, want[x.cond])
		}
	}
	for _, c := range wrongConds {
		if Is(err, c) {
			t.Errorf("Is(%T, %d)", err, c)
		}
	}
}

// P1.1
func TestNameTypeParse(t *testing.T) {
	for _, x := range told {
		if Name(x.cond) != x.name || Type(x.cond) != x.kind {
			t.Errorf("%d: %q %q, want %q %q", x.cond, Name(x.cond), Type(x.cond), x.name, x.kind)
		}
		if c, ok := Parse(x.name); c != x.cond || !ok {
			t.Errorf("Parse(%q): %d %v", x.name, c, ok)
		}
	}
}

// P1.1
func TestNameTypeOfWrongConds(t *testing.T) {
	for _, c := range wrongConds {
		if Name(c) != "" || Type(c) != "" {
			t.Errorf("%d: %q %q", c, Name(c), Type(c))
		}
	}
}

// P1.1
func TestParseWrongNames(t *testing.T) {
	for _, s := range []string{"", " ", "Conflict", "CONFLICT", "conflict ", " conflict", "conflic", "conflicts", "bad request", "cancel", "0", "2", "\xff", "conflict\x00", strings.Repeat("x", 1<<16)} {
		if c, ok := Parse(s); c != api.NoCond || ok {
			t.Errorf("Parse(%.20q): %d %v", s, c, ok)
		}
	}
}

// P1.2
func TestMake(t *testing.T) {
	for _, x := range told {
		err := Make(x.cond)
		if err == nil || errors.Unwrap(err) != nil {
			t.Errorf("Make(%d): %v", x.cond, err)
			continue
		}
		wantCond(t, err, x.cond, true)
		wantPlace(t, err, 0, false)
		wantDepth(t, err, 0)
		wantIs(t, err, x.cond)
		if err.Error() != x.name {
			t.Errorf("its text: %q", err.Error())
		}
	}
	for _, c := range wrongConds {
		if err := Make(c); err != nil {
			t.Errorf("Make(%d): %v", c, err)
		}
	}
}

// P1.2
func TestWrap(t *testing.T) {
	inner := Make(api.NotAllowed)
	for _, place := range []int{0, 1, -1, math.MinInt, math.MaxInt} {
		err := Wrap(inner, place)
		if errors.Unwrap(err) != inner {
			t.Errorf("Wrap at %d is not taken back", place)
		}
		wantCond(t, err, api.NotAllowed, true)
		wantPlace(t, err, place, true)
		wantDepth(t, err, 1)
		wantIs(t, err, api.NotAllowed)
		if Wrap(nil, place) != nil {
			t.Errorf("Wrap(nil, %d)", place)
		}
	}
	if s := Wrap(Wrap(inner, 3), -7).Error(); s != "at -7: at 3: not-allowed" {
		t.Errorf("its text: %q", s)
	}
}

// P1.2: what is asked of nil is none.
func TestNil(t *testing.T) {
	wantCond(t, nil, api.NoCond, false)
	wantPlace(t, nil, 0, false)
	wantDepth(t, nil, 0)
	wantIs(t, nil)
}

// P1.2: errors from elsewhere have no condition and no place, but those around and inside them count.
func TestForeignErrors(t *testing.T) {
	for _, err := range []error{errors.New("conflict"), plain{"conflict"}, fmt.Errorf("x: %w", errors.New("y"))} {
		wantCond(t, err, api.NoCond, false)
		wantPlace(t, err, 0, false)
		wantDepth(t, err, 0)
		wantIs(t, err)
		w := Wrap(err, 5)
		wantCond(t, w, api.NoCond, false)
		wantPlace(t, w, 5, true)
		wantDepth(t, w, 1)
		wantIs(t, w)
	}
	err := Wrap(fmt.Errorf("x: %w", Wrap(fmt.Errorf("y: %w", Make(api.Conflict)), 4)), 9)
	wantCond(t, err, api.Conflict, true)
	wantPlace(t, err, 9, true)
	wantDepth(t, err, 2)
	wantIs(t, err, api.Conflict)
	wantPlace(t, errors.Unwrap(err), 4, true)
	wantDepth(t, errors.Unwrap(err), 1)
}

// P1.2: of errors that were joined the first is told, and each is asked.
func TestJoinedErrors(t *testing.T) {
	err := Wrap(errors.Join(Make(api.Forbidden), Wrap(Make(api.Conflict), 2)), 1)
	wantCond(t, err, api.Forbidden, true)
	wantPlace(t, err, 1, true)
	wantIs(t, err, api.Forbidden, api.Conflict)
}

// P1: no call panics, whatever errors from elsewhere do.
func TestForeignErrorsThatPanic(t *testing.T) {
	for _, err := range []error{(*broken)(nil), boaster{}, bursting{}, (*placed)(nil)} {
		wantCond(t, err, api.NoCond, false)
		wantPlace(t, err, 0, false)
		wantDepth(t, err, 0)
		wantIs(t, err)
		w := Wrap(Wrap(err, 6), 8)
		wantCond(t, w, api.NoCond, false)
		wantPlace(t, w, 8, true)
		wantDepth(t, w, 2)
		wantIs(t, w)
	}
}

// P1.3
func TestConditionStaysHoweverOftenWrapped(t *testing.T) {
	for _, x := range told {
		err := Make(x.cond)
		for i := range 20 {
			err = Wrap(err, i*i-50)
			wantCond(t, err, x.cond, true)
			wantPlace(t, err, i*i-50, true)
			wantDepth(t, err, i+1)
			wantIs(t, err, x.cond)
		}
	}
}

// P1.3, at the depth up to which the document promises anything.
func TestDeepChain(t *testing.T) {
	const deep = 1<<16 - 1
	err := Make(api.ItemNotFound)
	for i := range deep {
		err = Wrap(err, i)
	}
	wantCond(t, err, api.ItemNotFound, true)
	wantPlace(t, err, deep-1, true)
	wantDepth(t, err, deep)
	wantIs(t, err, api.ItemNotFound)
	if s := err.Error(); !strings.HasPrefix(s, "at 65534: at 65533: ") || !strings.HasSuffix(s, ": at 0: item-not-found") {
		t.Errorf("its text: %.40q..", s)
	}
}
