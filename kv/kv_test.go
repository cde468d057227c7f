package kv

import (
	"bytes"
	"maps"
	"math/rand"
	"slices"
	"strconv"
	"strings"
	"testing"

	"heliograph/api"
)

// of is a map of keys and values, one behind the other.
func of(t *testing.T, texts ...string) *Map {
	t.Helper()
	m := New()
	for i := 0; i < len(texts); i += 2 {
		if errno := m.Put(texts[i], texts[i+1]); errno != api.OK {
			t.Fatalf("%q: %d", texts[i], errno)
		}
	}
	return m
}

// full is a map of MaxPairs pairs.
func full(t *testing.T) *Map {
	t.Helper()
	m := New()
	for i := range api.MaxPairs {
		if errno := m.Put("k"+strconv.Itoa(i), strconv.Itoa(i)); errno != api.OK {
			t.Fatal(i, errno)
		}
	}
	return m
}

// sorted are the pairs of a Go map, rising by their keys: what a test holds a Map against.
func sorted(model map[string]string) []api.Pair {
	var l []api.Pair
	for _, k := range slices.Sorted(maps.Keys(model)) {
		l = append(l, api.Pair{Key: k, Value: model[k]})
	}
	return l
}

// holds tells whether a map is that of pairs, by all of its calls that tell something.
func holds(t *testing.T, m *Map, want []api.Pair) {
	t.Helper()
	if got := m.Scan(""); !slices.Equal(got, want) {
		t.Fatalf("Scan: %q; want %q", got, want)
	}
	if m.Len() != len(want) {
		t.Fatalf("Len: %d; want %d", m.Len(), len(want))
	}
	for _, p := range want {
		if v, ok := m.Get(p.Key); !ok || v != p.Value {
			t.Fatalf("Get %q: %q, %v; want %q", p.Key, v, ok, p.Value)
		}
	}
	b := written(want)
	if got := m.Bytes(); !bytes.Equal(got, b) {
		t.Fatalf("Bytes: %q; want %q", got, b)
	}
	if m.Size() != len(b) {
		t.Fatalf("Size: %d; want %d", m.Size(), len(b))
	}
}

// P1: nil, also where another error applies.
func TestNil(t *testing.T) {
	var m *Map
	for _, key := range []string{"", "a", strings.Repeat("a", 65)} {
		if m.Put(key, "") != api.ErrNil || m.Put(key, strings.Repeat("v", 4097)) != api.ErrNil || m.Delete(key) != api.ErrNil {
			t.Errorf("%q: no ErrNil", key)
		}
		if v, ok := m.Get(key); v != "" || ok || len(m.Scan(key)) != 0 {
			t.Errorf("%q: %q, %v", key, v, ok)
		}
	}
	if len(m.Bytes()) != 0 || m.Len() != 0 || m.Size() != 0 || m.Fork() != nil {
		t.Error("not zero")
	}
}

// P9.1: a new map is empty, and maps are apart.
func TestNew(t *testing.T) {
	m, o := New(), New()
	holds(t, m, nil)
	if m.Put("a", "b") != api.OK {
		t.Error("Put")
	}
	holds(t, m, []api.Pair{{Key: "a", Value: "b"}})
	holds(t, o, nil)
}

// P9.1: lengths of keys and values at their edges.
func TestPutRange(t *testing.T) {
	text := func(n int) string { return strings.Repeat("\xff", n) }
	for _, c := range []struct {
		key, value int
		want       api.Errno
	}{
		{1, 0, api.OK}, {1, 1, api.OK}, {2, 255, api.OK}, {3, 256, api.OK}, {63, 4095, api.OK}, {64, 4096, api.OK}, {64, 0, api.OK}, {1, 4096, api.OK},
		{0, 0, api.ErrRange}, {0, 4096, api.ErrRange}, {0, 4097, api.ErrRange},
		{65, 0, api.ErrRange}, {256, 0, api.ErrRange}, {257, 1, api.ErrRange}, {65, 4097, api.ErrRange},
		{1, 4097, api.ErrRange}, {64, 4097, api.ErrRange}, {1, 65536, api.ErrRange}, {1, 1 << 20, api.ErrRange},
	} {
		m := of(t, "b", "there")
		if got := m.Put(text(c.key), text(c.value)); got != c.want {
			t.Errorf("%d, %d: %d", c.key, c.value, got)
		}
		want := []api.Pair{{Key: "b", Value: "there"}}
		if c.want == api.OK {
			want = append(want, api.Pair{Key: text(c.key), Value: text(c.value)})
		}
		holds(t, m, want)
		if got := m.Put("b", text(c.value)); (got == api.OK) != (c.value <= 4096) {
			t.Errorf("instead of a value, %d: %d", c.value, got)
		}
	}
}

// P9.1: lengths are of bytes, not of characters.
func TestPutCountsBytes(t *testing.T) {
	m := New()
	if m.Put(strings.Repeat("\u00e9", 32), "") != api.OK || m.Put(strings.Repeat("\u00e9", 33), "") != api.ErrRange {
		t.Error("keys")
	}
	if m.Put("a", strings.Repeat("\u00e9", 2048)) != api.OK || m.Put("a", strings.Repeat("\u00e9", 2049)) != api.ErrRange {
		t.Error("values")
	}
}

// P9.1: a key that is there gets the new value, the empty one too.
func TestPutAgain(t *testing.T) {
	m := of(t, "a", "one", "b", "two", "a", "three")
	holds(t, m, []api.Pair{{Key: "a", Value: "three"}, {Key: "b", Value: "two"}})
	m.Put("a", "")
	holds(t, m, []api.Pair{{Key: "a", Value: ""}, {Key: "b", Value: "two"}})
}

// P9.1: MaxPairs, and none more; ErrRange is named ahead of ErrFull; P2: nothing changes.
func TestFull(t *testing.T) {
	m := full(t)
	was := m.Scan("")
	if m.Put("new", "") != api.ErrFull || m.Put("", "") != api.ErrRange || m.Put(strings.Repeat("k", 65), "") != api.ErrRange || m.Put("new", strings.Repeat("v", 4097)) != api.ErrRange {
		t.Error("another answer")
	}
	holds(t, m, was)
	if m.Put("k0", "other") != api.OK {
		t.Error("a key that is there")
	}
	if m.Delete("k5") != api.OK || m.Put("new", "x") != api.OK || m.Put("k5", "") != api.ErrFull {
		t.Error("one for another")
	}
	if m.Len() != 128 {
		t.Error(m.Len())
	}
}

// P9.1: Delete, and Get of what is not there.
func TestDelete(t *testing.T) {
	m := of(t, "a", "1", "b", "", "c", "3")
	for _, key := range []string{"", "A", "aa", "d", strings.Repeat("a", 100)} {
		if got := m.Delete(key); got != api.ErrNone {
			t.Errorf("%q: %d", key, got)
		}
		if v, ok := m.Get(key); v != "" || ok {
			t.Errorf("%q: %q, %v", key, v, ok)
		}
	}
	holds(t, m, []api.Pair{{Key: "a", Value: "1"}, {Key: "b"}, {Key: "c", Value: "3"}})
	if m.Delete("b") != api.OK || m.Delete("b") != api.ErrNone {
		t.Error("b")
	}
	if v, ok := m.Get("b"); v != "" || ok {
		t.Error(v, ok)
	}
	holds(t, m, []api.Pair{{Key: "a", Value: "1"}, {Key: "c", Value: "3"}})
	if m.Delete("a") != api.OK || m.Delete("c") != api.OK {
		t.Error("a, c")
	}
	holds(t, m, nil)
}

// P9.1: the keys of a prefix, rising by bytes.
func TestScan(t *testing.T) {
	keys := []string{"a/1", "a", "\xff", "\x00", "a/", "a/2", "b", "A", "a0", "a/10", "\u00e9", "a/\x00", "a/\xff", "~", "Z", "\xff\xff"}
	m := New()
	for i, k := range keys {
		m.Put(k, strconv.Itoa(i))
	}
	for prefix, want := range map[string][]string{
		"":       {"\x00", "A", "Z", "a", "a/", "a/\x00", "a/1", "a/10", "a/2", "a/\xff", "a0", "b", "~", "\u00e9", "\xff", "\xff\xff"},
		"a":      {"a", "a/", "a/\x00", "a/1", "a/10", "a/2", "a/\xff", "a0"},
		"a/":     {"a/", "a/\x00", "a/1", "a/10", "a/2", "a/\xff"},
		"a/1":    {"a/1", "a/10"},
		"a/10":   {"a/10"},
		"a/100":  nil,
		"b":      {"b"},
		"c":      nil,
		"\xff":   {"\xff", "\xff\xff"},
		"\xc3":   {"\u00e9"},
		"\u00e8": nil,
		"\x00":   {"\x00"},
		"/":      nil,
		"1":      nil,
	} {
		var got []string
		for _, p := range m.Scan(prefix) {
			got = append(got, p.Key)
			if i := slices.Index(keys, p.Key); i < 0 || p.Value != strconv.Itoa(i) {
				t.Errorf("%q: %q", p.Key, p.Value)
			}
		}
		if !slices.Equal(got, want) {
			t.Errorf("%q: %q; want %q", prefix, got, want)
		}
	}
	if got := m.Scan(strings.Repeat("a", 1000)); len(got) != 0 {
		t.Error(got)
	}
}

// P9.4: Scan of the empty prefix is all; Put and then Delete of a new key changes nothing.
func TestPutThenDelete(t *testing.T) {
	for _, m := range []*Map{New(), of(t, "b", "1"), of(t, "a", "1", "c", "2", "b\x00", "3")} {
		was := m.Scan("")
		if len(was) != m.Len() {
			t.Error("not all")
		}
		for _, key := range []string{"\x00", "a0", "b/", "z", strings.Repeat("\xff", 64)} {
			if m.Put(key, "v"+key) != api.OK || m.Delete(key) != api.OK {
				t.Errorf("%q", key)
			}
			holds(t, m, was)
		}
	}
}

// P9.1, P9.2, P9.3, P4: long runs of calls, held against a Go map, with Forks that go their own way.
func TestRuns(t *testing.T) {
	r := rand.New(rand.NewSource(9))
	for range 40 {
		keys := 2 + r.Intn(200)
		m, model := New(), map[string]string{}
		for range 400 {
			key := "k/" + strconv.Itoa(r.Intn(keys))
			_, there := model[key]
			switch r.Intn(6) {
			case 0:
				want := api.ErrNone
				if there {
					want = api.OK
				}
				if got := m.Delete(key); got != want {
					t.Fatal(key, got)
				}
				delete(model, key)
			case 1:
				f := m.Fork()
				f.Delete(key)
				f.Put("other", "value")
				f.Put(key, "forked")
			default:
				value := strings.Repeat("x", r.Intn(5))
				want := api.OK
				if !there && len(model) == api.MaxPairs {
					want = api.ErrFull
				}
				if got := m.Put(key, value); got != want {
					t.Fatal(key, got)
				}
				if want == api.OK {
					model[key] = value
				}
			}
		}
		holds(t, m, sorted(model))
		again, errno := Load(m.Bytes())
		if errno != api.OK {
			t.Fatal(errno)
		}
		holds(t, again, sorted(model))
	}
}

// P4: a Fork has the same, and each goes its own way.
func TestFork(t *testing.T) {
	for _, m := range []*Map{New(), of(t, "a", "1", "b", "2"), full(t)} {
		was := m.Scan("")
		f := m.Fork()
		holds(t, f, was)
		f.Delete("a")
		f.Delete("k7")
		f.Put("b", "3")
		f.Put("new", "4")
		holds(t, m, was)
		forked := f.Scan("")
		m.Delete("b")
		m.Put("a", "5")
		m.Put("c", "6")
		holds(t, f, forked)
	}
}

// P3: what is answered is the caller's.
func TestAnswersAreTheCallers(t *testing.T) {
	m := of(t, "a", "1", "b", "2", "c", "3")
	want := m.Scan("")
	l, b, bits := m.Scan(""), m.Bytes(), m.Scan("b")
	for _, pairs := range [][]api.Pair{l[:cap(l)], bits[:cap(bits)]} {
		clear(pairs)
	}
	clear(b[:cap(b)])
	holds(t, m, want)
	one, two := m.Bytes(), m.Bytes()
	clear(one[:cap(one)])
	if !bytes.Equal(two, written(want)) {
		t.Error("two answers share their bytes")
	}
}
