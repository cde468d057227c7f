package kv

import (
	"bytes"
	"encoding/binary"
	"encoding/hex"
	"math/rand"
	"slices"
	"strconv"
	"strings"
	"testing"

	"heliograph/api"
)

// written are pairs as the document has them, made by other means than the program's.
func written(l []api.Pair) []byte {
	var b []byte
	for _, p := range l {
		b = append(b, uint8(len(p.Key)))
		b = append(b, p.Key...)
		b = binary.BigEndian.AppendUint16(b, uint16(len(p.Value)))
		b = append(b, p.Value...)
	}
	return b
}

// read are the pairs of bytes, by the words of the document alone; false: they are of no map.
func read(b []byte) ([]api.Pair, bool) {
	var l []api.Pair
	for at := 0; at < len(b); {
		keyEnd := at + 1 + int(b[at])
		if keyEnd+2 > len(b) {
			return nil, false
		}
		end := keyEnd + 2 + int(binary.BigEndian.Uint16(b[keyEnd:]))
		if end > len(b) {
			return nil, false
		}
		p := api.Pair{Key: string(b[at+1 : keyEnd]), Value: string(b[keyEnd+2 : end])}
		if p.Key == "" || len(p.Key) > 64 || len(p.Value) > 4096 || len(l) == 128 {
			return nil, false
		}
		if len(l) > 0 && strings.Compare(l[len(l)-1].Key, p.Key) >= 0 {
			return nil, false
		}
		l = append(l, p)
		at = end
	}
	return l, true
}

// loads holds Load of bytes against the document: the map, or ErrForm and no map.
func loads(t *testing.T, b []byte) {
	t.Helper()
	want, ok := read(b)
	m, errno := Load(b)
	if !ok {
		if m != nil || errno != api.ErrForm {
			t.Fatalf("%q: %v, %d; want ErrForm", b, m, errno)
		}
		return
	}
	if errno != api.OK {
		t.Fatalf("%q: %d", b, errno)
	}
	holds(t, m, want)
}

// refused are bytes that are of no map.
func refused(t *testing.T, why string, b []byte) {
	t.Helper()
	if m, errno := Load(b); m != nil || errno != api.ErrForm {
		t.Errorf("%s: %v, %d", why, m, errno)
	}
}

// P9.2: Bytes, written out.
func TestBytes(t *testing.T) {
	for _, c := range []struct {
		m    *Map
		want string
	}{
		{New(), ""},
		{of(t, "a", "b"), "01 61 00 01 62"},
		{of(t, "a", ""), "01 61 00 00"},
		{of(t, "b", "xy", "a", "z"), "01 61 00 01 7a 01 62 00 02 78 79"},
		{of(t, "ab", "", "b", "", "a", ""), "01 61 00 00 02 61 62 00 00 01 62 00 00"},
		{of(t, "\x00", "\x00\xff"), "01 00 00 02 00 ff"},
	} {
		if got := hex.EncodeToString(c.m.Bytes()); got != strings.ReplaceAll(c.want, " ", "") {
			t.Errorf("%s; want %s", got, c.want)
		}
		if c.m.Size() != len(c.m.Bytes()) {
			t.Error(c.m.Size())
		}
	}
}

// P9.2: the higher byte of a value's length stands first.
func TestBytesOfLengths(t *testing.T) {
	for _, n := range []int{0, 1, 255, 256, 257, 511, 4095, 4096} {
		for _, k := range []int{1, 2, 63, 64} {
			m := of(t, strings.Repeat("k", k), strings.Repeat("v", n))
			b := m.Bytes()
			if int(b[0]) != k || int(b[k+1]) != n/256 || int(b[k+2]) != n%256 || len(b) != k+n+3 || m.Size() != k+n+3 {
				t.Error(n, k, b[:k+3])
			}
			loads(t, b)
		}
	}
}

// P9.2, P9.3: no bytes are those of the empty map.
func TestLoadOfNothing(t *testing.T) {
	for _, b := range [][]byte{nil, {}} {
		m, errno := Load(b)
		if m == nil || errno != api.OK {
			t.Fatal(m, errno)
		}
		holds(t, m, nil)
		if m.Put("a", "b") != api.OK {
			t.Error("Put")
		}
		holds(t, m, []api.Pair{{Key: "a", Value: "b"}})
	}
}

// P9.2: bytes that no map has.
func TestLoadRefuses(t *testing.T) {
	pair := func(key, value string) []byte { return written([]api.Pair{{Key: key, Value: value}}) }
	refused(t, "an empty key", pair("", "x"))
	refused(t, "an empty key alone", []byte{0})
	refused(t, "an empty key behind", append(pair("a", ""), pair("", "")...))
	refused(t, "a key of 65", pair(strings.Repeat("k", 65), ""))
	refused(t, "a key of 255", pair(strings.Repeat("k", 255), ""))
	refused(t, "a value of 4097", pair("k", strings.Repeat("v", 4097)))
	refused(t, "a value of 65535", pair("k", strings.Repeat("v", 65535)))
	refused(t, "a key twice", append(pair("a", "1"), pair("a", "1")...))
	refused(t, "a key twice with another value", append(pair("a", "1"), pair("a", "2")...))
	refused(t, "keys that fall", append(pair("b", ""), pair("a", "")...))
	refused(t, "keys that fall by a shorter one", append(pair("ab", ""), pair("a", "")...))
	refused(t, "keys that fall as bytes", append(pair("\xff", ""), pair("a", "")...))
	refused(t, "a byte 0 behind", append(pair("a", ""), 0))
	refused(t, "the lower byte first", []byte("\x01a\x01\x00b"))
	loads(t, append(pair("a", ""), pair("aa", "")...))
	loads(t, append(pair("a", ""), pair("\xff", "")...))
	loads(t, append(pair("Z", ""), pair("a", "")...))
}

// P9.2: MaxPairs pairs are a map's, and no more.
func TestLoadFull(t *testing.T) {
	var l []api.Pair
	for i := range 130 {
		l = append(l, api.Pair{Key: "k" + strconv.Itoa(1000+i), Value: strings.Repeat("v", i)})
	}
	loads(t, written(l[:127]))
	loads(t, written(l[:128]))
	refused(t, "129 pairs", written(l[:129]))
	refused(t, "130 pairs", written(l))
	m, _ := Load(written(l[:128]))
	if m.Put("new", "") != api.ErrFull {
		t.Error("no ErrFull")
	}
}

// P9.2: each beginning of a map's bytes, and each with one byte that is another.
func TestLoadSpoilt(t *testing.T) {
	b := of(t, "a", "", "ab", "xyz", "b/1", "\x01c\x00\x00", "c", "\x00\x00\x00\x00\x00").Bytes()
	for i := range b {
		loads(t, b[:i])
		for c := range 256 {
			spoilt := bytes.Clone(b)
			spoilt[i] = byte(c)
			loads(t, spoilt)
		}
		loads(t, slices.Insert(bytes.Clone(b), i, 0))
		loads(t, slices.Delete(bytes.Clone(b), i, i+1))
	}
}

// P9.2, P9.3, P1: all short bytes of a few kinds, and random ones.
func TestLoadOfAnything(t *testing.T) {
	var try func(b []byte, n int)
	try = func(b []byte, n int) {
		loads(t, b)
		if n == 0 {
			return
		}
		for _, c := range []byte{0, 1, 2, 'a'} {
			try(append(bytes.Clone(b), c), n-1)
		}
	}
	try(nil, 9)
	r := rand.New(rand.NewSource(92))
	for range 20000 {
		b := make([]byte, r.Intn(40))
		for i := range b {
			b[i] = byte(r.Intn(4))
		}
		loads(t, b)
		r.Read(b)
		loads(t, b)
	}
}

// P9.3: the greatest map, there and back.
func TestGreatest(t *testing.T) {
	m := New()
	for i := range 128 {
		key := strconv.Itoa(100+i) + strings.Repeat("k", 61)
		if m.Put(key, strings.Repeat(string(rune('a'+i%26)), 4096)) != api.OK {
			t.Fatal(i)
		}
	}
	b := m.Bytes()
	if len(b) != 128*(1+64+2+4096) || m.Size() != len(b) {
		t.Error(len(b), m.Size())
	}
	loads(t, b)
	for _, n := range []int{1, 4096, 4097, 4163, len(b) - 1} {
		loads(t, b[:len(b)-n])
	}
	refused(t, "one byte more", append(b, 0))
}

// P3: Load leaves what it is handed as it is, and keeps none of it.
func TestLoadKeepsNothing(t *testing.T) {
	want := []api.Pair{{Key: "a", Value: "one"}, {Key: "b", Value: "two"}}
	room := append(written(want), "spare"...)
	was := bytes.Clone(room)
	b := room[:len(room)-len("spare")]
	m, errno := Load(b)
	if errno != api.OK || !bytes.Equal(room, was) {
		t.Fatal(errno, "what was handed in has changed")
	}
	clear(room)
	holds(t, m, want)
}
