package auth_test

import (
	"bytes"
	"math"
	"slices"
	"strconv"
	"strings"
	"testing"

	"gazetteer/api"
	"gazetteer/auth"
	"gazetteer/wire"
	"gazetteer/zone"
)

// packed gives the bytes of a message.
func packed(m api.Message) []byte {
	b, e := wire.Pack(m)
	if e != api.OK {
		panic("a message that can't be packed")
	}
	return b
}

func unpacked(t *testing.T, b []byte) api.Message {
	t.Helper()
	m, at, e := wire.Unpack(b)
	if e != api.OK {
		t.Fatalf("P9.2: %x is no message: error %d at %d", b, e, at)
	}
	return m
}

func TestServe(t *testing.T) {
	zones := []*zone.Zone{plain("ex.", example()...)}
	for _, m := range []api.Message{ask("www.ex.", "A"), ask("x.b.ex.", "A"), ask("x.ex.", "MX"), ask("mx.ex.", "MX"), ask("org.", "A"), ask("x.gr.ex.", "TXT"), proved(ask("ex.", "ANY")), {}, {Opcode: 5}} {
		a := said(t, zones, m)
		b := packed(m)
		given := slices.Clone(b)
		if got := auth.Serve(zones, b, 4096); !bytes.Equal(got, packed(a)) {
			t.Errorf("P9.2 of %+v: %x", m, got)
		}
		if !bytes.Equal(b, given) {
			t.Errorf("P2: the bytes %x were changed", given)
		}
	}
}

func TestServeNothing(t *testing.T) {
	zones := []*zone.Zone{plain("ex.", "www A 10.0.0.1")}
	whole := packed(ask("www.ex.", "A"))
	for size := range 12 {
		if got := auth.Serve(zones, whole[:size], 512); got != nil {
			t.Errorf("P9.2 of %d bytes: %x", size, got)
		}
	}
	if auth.Serve(zones, nil, 512) != nil || auth.Serve(nil, []byte{}, 512) != nil {
		t.Error("P9.2: something is said to nothing")
	}
	response := slices.Clone(whole)
	response[2] |= 128
	broken := slices.Clone(response[:13])
	for _, b := range [][]byte{response, response[:12], broken, bytes.Repeat([]byte{255}, 70000)} {
		if got := auth.Serve(zones, b, 512); got != nil {
			t.Errorf("P9.2 of a response: %x", got)
		}
	}
}

// TestServeBroken: of bytes that are no message the head alone is answered.
func TestServeBroken(t *testing.T) {
	zones := []*zone.Zone{plain("ex.", "www A 10.0.0.1")}
	whole := packed(proved(ask("www.ex.", "A")))
	turned := func(at int, to byte) []byte {
		b := slices.Clone(whole)
		b[at] = to
		return b
	}
	broken := map[string][]byte{
		"a bit that is always 0":   turned(3, 64),
		"no question for a number": whole[:12],
		"it ends in a name":        whole[:15],
		"it ends in the extra":     whole[:len(whole)-1],
		"a wrong pointer":          turned(12, 192),
		"a wrong label":            turned(12, 64),
		"something behind the end": append(slices.Clone(whole), 0),
		"fewer additional records": turned(11, 0),
		"too long":                 slices.Concat(whole, make([]byte, 65536)),
	}
	for what, b := range broken {
		for _, signs := range []byte{0, 1, 2 | 4, 5 << 3, 15<<3 | 7} {
			b := slices.Clone(b)
			b[2] = signs
			b[3] |= 16 | 5 // CD and a code, which don't come back
			want := []byte{b[0], b[1], 128 | signs&^6, 1, 0, 0, 0, 0, 0, 0, 0, 0}
			for _, limit := range []int{512, 65535, 0, -1, 11} {
				if got := auth.Serve(zones, b, limit); !bytes.Equal(got, want) {
					t.Errorf("P9.2, %s: %x; wanted %x", what, got, want)
				}
			}
		}
	}
}

// sized gives a zone of which t.ex. TXT is answered in so many bytes, and the
// question. An extra's eleven are counted.
func sized(t *testing.T, size int, extra ...api.Record) (*zone.Zone, api.Message) {
	t.Helper()
	m := with(ask("t.ex.", "TXT"), extra...)
	// Behind the head and the question each record has twelve bytes, a pointer
	// in the place of its owner, and its text, with a byte for each 255.
	left := size - len(packed(m))
	var lines []string
	for i := 0; left > 0; i++ {
		text := min(left, 200) - 13
		if left > 200 && left < 214 {
			text = 100
		}
		left -= text + 13
		lines = append(lines, `t TXT `+string(rune('a'+i%26))+strings.Repeat(string(rune('a'+i/26)), text-1))
	}
	z := plain("ex.", lines...)
	if b := packed(said(t, []*zone.Zone{z}, m)); len(b) != size {
		t.Fatalf("an answer of %d bytes has %d", size, len(b))
	}
	return z, m
}

func TestServeRoom(t *testing.T) {
	for _, c := range []struct {
		limit int
		extra []api.Record
		room  int
	}{
		// Without an extra it is 512, whatever the limit is.
		{512, nil, 512},
		{513, nil, 512},
		{65535, nil, 512},
		{math.MaxInt, nil, 512},
		{511, nil, 512},
		{0, nil, 512},
		{-1, nil, 512},
		{math.MinInt, nil, 512},
		// The class of the extra, if it is above 512; and the limit, if it is.
		{4096, []api.Record{opt(0, 0)}, 512},
		{4096, []api.Record{opt(511, 0)}, 512},
		{4096, []api.Record{opt(512, 0)}, 512},
		{4096, []api.Record{opt(513, 0)}, 513},
		{4096, []api.Record{opt(1232, 0)}, 1232},
		{1231, []api.Record{opt(1232, 0)}, 1231},
		{1233, []api.Record{opt(1232, 0)}, 1232},
		{4096, []api.Record{opt(4096, 0)}, 4096},
		{5000, []api.Record{opt(5001, 0)}, 5000},
		{513, []api.Record{opt(4096, 0)}, 513},
		{512, []api.Record{opt(4096, 0)}, 512},
		{511, []api.Record{opt(4096, 0)}, 512},
		{-4096, []api.Record{opt(4096, 0)}, 512},
		{math.MinInt, []api.Record{opt(65535, 0)}, 512},
		{20000, []api.Record{opt(65535, 32768)}, 20000},
	} {
		z, m := sized(t, c.room, c.extra...)
		got := auth.Serve([]*zone.Zone{z}, packed(m), c.limit)
		if len(got) != c.room || unpacked(t, got).TC {
			t.Errorf("P9.2, limit %d, extra %+v: an answer of %d bytes has no room", c.limit, c.extra, c.room)
		}
		z, m = sized(t, c.room+1, c.extra...)
		a := unpacked(t, auth.Serve([]*zone.Zone{z}, packed(m), c.limit))
		if !a.TC || len(a.Answers) != 0 || len(a.Questions) != 1 || !a.AA || a.Rcode != 0 || len(opts(a)) != len(c.extra) {
			t.Errorf("P9.2, limit %d, extra %+v: an answer of %d bytes is answered %+v", c.limit, c.extra, c.room+1, a)
		}
	}
}

// TestServeMost: 65535 bytes are the most that there can be.
func TestServeMost(t *testing.T) {
	z, m := sized(t, 65535, opt(65535, 0))
	for _, limit := range []int{65535, 65536, math.MaxInt} {
		if got := auth.Serve([]*zone.Zone{z}, packed(m), limit); len(got) != 65535 {
			t.Errorf("P9.2, limit %d: %d bytes", limit, len(got))
		}
	}
	if a := unpacked(t, auth.Serve([]*zone.Zone{z}, packed(m), 65534)); !a.TC {
		t.Error("P9.2: 65535 bytes have room in 65534")
	}
}

// TestServeLess: additional records go first, from the last on; the OPT stays.
func TestServeLess(t *testing.T) {
	var lines []string
	for i := range 12 {
		host := "host-" + strings.Repeat(string(rune('a'+i)), 10)
		lines = append(lines, "mx MX 1 "+host, host+" A 10.0.0.1", host+" AAAA ::1")
	}
	z := plain("ex.", lines...)
	whole := said(t, []*zone.Zone{z}, with(ask("mx.ex.", "MX"), opt(4096, 0)))
	a := unpacked(t, auth.Serve([]*zone.Zone{z}, packed(with(ask("mx.ex.", "MX"), opt(600, 0))), 4096))
	left := len(a.Additional) - 1
	if a.TC || len(a.Answers) != 12 || left < 1 || left > 23 || !slices.Equal(a.Additional[:left], whole.Additional[:left]) || a.Additional[left] != opt(4096, 0) {
		t.Errorf("P9.2: what is left of an answer is %q", tell(a))
	}
}

// TestServeNoRoom: what can't be told back at all.
func TestServeNoRoom(t *testing.T) {
	zones := []*zone.Zone{plain("ex.")}
	// The first of these questions has 200 bytes, each other nine.
	for count, size := range map[int]int{34: 509, 35: 518} {
		m := api.Message{ID: 1}
		for i := range count {
			q := strconv.Itoa(10+i) + strings.Repeat("."+strings.Repeat("l", 63), 3)
			m.Questions = append(m.Questions, api.Question{Name: n(q + "."), Type: api.A, Class: api.IN})
		}
		if len(packed(m)) != size {
			t.Fatalf("%d questions have %d bytes", count, len(packed(m)))
		}
		for _, c := range []struct {
			extras []api.Record
			want   int
		}{
			{nil, size},
			{[]api.Record{opt(4096, 0)}, size + 11},
			// Such extras say nothing of the room.
			{[]api.Record{opt(4096, 0), opt(4096, 0)}, size},
			{[]api.Record{owned("ex.", opt(4096, 0))}, size},
		} {
			want := c.want
			if size > 512 && want == size {
				want = 0
			}
			got := auth.Serve(zones, packed(with(m, c.extras...)), 65535)
			if len(got) != want || (got == nil) != (want == 0) {
				t.Errorf("P9.2: %d questions, extras %+v: %d bytes, wanted %d", count, c.extras, len(got), want)
			}
			if got != nil && unpacked(t, got).Rcode != api.FormErr {
				t.Errorf("P9.2: %d questions aren't answered by FormErr", count)
			}
		}
	}
}

// TestServeTooMany: an answer of more records than a message has.
func TestServeTooMany(t *testing.T) {
	var lines []string
	for i := range 300 {
		lines = append(lines, "mx MX 1 h"+strconv.Itoa(i)+".w")
	}
	for i := range 250 {
		lines = append(lines, "*.w A 10.0.0."+strconv.Itoa(i))
	}
	z := plain("ex.", lines...)
	m := with(ask("mx.ex.", "MX"), opt(4096, 0))
	if a := said(t, []*zone.Zone{z}, m); len(a.Answers) != 300 || len(a.Additional) != 300*250+1 {
		t.Fatalf("P9.1: an answer of %d and %d records", len(a.Answers), len(a.Additional))
	}
	if got := auth.Serve([]*zone.Zone{z}, packed(m), 4096); got != nil {
		t.Errorf("P9.2: more records than a message has: %d bytes", len(got))
	}
}
