package kv

import "heliograph/api"

// How many bytes tell the length of a key, and of a value.
const (
	keyWidth   = 1
	valueWidth = 2
)

// Load is the map of bytes. The keys must rise, since Bytes tells them so: no two forms are of one map.
func Load(b []byte) (*Map, api.Errno) {
	m := New()
	last := ""
	for len(b) > 0 {
		p, rest, ok := cutPair(b)
		if !ok || p.Key <= last || m.Put(p.Key, p.Value) != api.OK {
			return nil, api.ErrForm
		}
		last, b = p.Key, rest
	}
	return m, api.OK
}

// Bytes are all pairs as bytes.
func (m *Map) Bytes() []byte {
	if m == nil {
		return nil
	}
	b := make([]byte, 0, m.Size())
	for p := range m.rising("") {
		b = addText(b, keyWidth, p.Key)
		b = addText(b, valueWidth, p.Value)
	}
	return b
}

// Size is how many bytes Bytes are.
func (m *Map) Size() int {
	if m == nil {
		return 0
	}
	n := 0
	for key, e := range m.pairs {
		n += keyWidth + len(key) + valueWidth + len(e.value)
	}
	return n
}

// addText adds a text behind its length, which takes so many bytes.
func addText(b []byte, width int, s string) []byte {
	for i := range width {
		b = append(b, byte(len(s)>>(8*(width-1-i))))
	}
	return append(b, s...)
}

// cutPair is the pair with which bytes begin, and what is behind it; false: they begin with none.
func cutPair(b []byte) (api.Pair, []byte, bool) {
	key, b, ok := cutText(b, keyWidth)
	if !ok {
		return api.Pair{}, nil, false
	}
	value, b, ok := cutText(b, valueWidth)
	if !ok {
		return api.Pair{}, nil, false
	}
	return api.Pair{Key: key, Value: value}, b, true
}

// cutText is the text with which bytes begin, behind its length, and what is behind it; false: the bytes end too soon.
func cutText(b []byte, width int) (string, []byte, bool) {
	if len(b) < width {
		return "", nil, false
	}
	n := 0
	for _, c := range b[:width] {
		n = n<<8 | int(c)
	}
	b = b[width:]
	if len(b) < n {
		return "", nil, false
	}
	return string(b[:n]), b[n:], true
}
