package update_test

import (
	"bytes"
	"reflect"
	"testing"

	"gazetteer/api"
	"gazetteer/update"
	"gazetteer/zone"
)

// P10.3: keepers, and what is done by them.

func TestNew(t *testing.T) {
	if k := update.New(nil); k != nil {
		t.Errorf("P10.3: New of nil: %v", k)
	}
	z := example()
	k := update.New(z)
	if k == nil || !same(k.Zone(), z) || len(k.Journal()) == 0 {
		t.Fatal("P10.3: New")
	}
	if !bytes.Equal(k.Journal(), update.New(example()).Journal()) {
		t.Error("P2: two journals of one zone")
	}
}

// TestDo: what is answered, and what the keeper has then.
func TestDo(t *testing.T) {
	right := changes("+ a.ex. 60 A 10.0.0.1")
	right.AA, right.TC, right.RD, right.RA, right.AD, right.CD, right.Rcode = true, true, true, true, true, true, 9
	right.Additional = []api.Record{part("+ b.ex. 60 A 10.0.0.1")}
	question := right.Questions[0]
	org := api.Question{Name: n("org."), Type: api.SOA, Class: api.IN}
	for _, c := range []struct {
		what string
		do   func(m *api.Message)
		want int
		done bool
	}{
		{"as it is", func(m *api.Message) {}, api.NoError, true},
		{"nothing to do", func(m *api.Message) { m.Authority = nil }, api.NoError, false},
		{"nothing changes", func(m *api.Message) { m.Authority = parts([]string{"= ex. ANY"}) }, api.NoError, false},
		{"a response", func(m *api.Message) { m.Response = true }, api.FormErr, false},
		{"a query", func(m *api.Message) { m.Opcode = api.OpQuery }, api.FormErr, false},
		{"an ID that is none", func(m *api.Message) { m.ID = 65536 }, api.FormErr, false},
		{"no question", func(m *api.Message) { m.Questions = nil }, api.FormErr, false},
		{"three questions", func(m *api.Message) { m.Questions = []api.Question{org, question, {Type: -1}} }, api.FormErr, false},
		{"another zone", func(m *api.Message) { m.Questions = []api.Question{org} }, api.NotAuth, false},
		{"lacks a name", func(m *api.Message) { m.Answers = parts([]string{"has a.ex. ANY"}) }, api.NxDomain, false},
		{"lacks a set", func(m *api.Message) { m.Answers = parts([]string{"has a.ex. A"}) }, api.NxSet, false},
		{"has a name", func(m *api.Message) { m.Answers = parts([]string{"no ex. ANY"}) }, api.YxDomain, false},
		{"has a set", func(m *api.Message) { m.Answers = parts([]string{"no ex. NS"}) }, api.YxSet, false},
		{"met", func(m *api.Message) { m.Answers = parts([]string{"has ex. NS"}) }, api.NoError, true},
		{"outside", func(m *api.Message) { m.Authority = parts([]string{"+ a.org. 60 A 10.0.0.1"}) }, api.NotZone, false},
		{"half of it outside", func(m *api.Message) { m.Authority = append(m.Authority, part("+ a.org. 60 A 10.0.0.1")) }, api.NotZone, false},
		{"no zone comes out", func(m *api.Message) { m.Authority = append(m.Authority, part("+ *.ex. 60 NS a")) }, api.Refused, false},
	} {
		k := update.New(plain())
		m := right
		m.Questions, m.Authority = []api.Question{question}, parts([]string{"+ a.ex. 60 A 10.0.0.1"})
		c.do(&m)
		journal := k.Journal()
		a := k.Do(m)
		if want := (api.Message{ID: m.ID, Response: true, Opcode: m.Opcode, Rcode: c.want, Questions: m.Questions}); !sameAnswer(a, want) {
			t.Errorf("P10.3, %s: answered %+v, wanted %+v", c.what, a, want)
		}
		want := plain()
		if c.done {
			want = serialed(8, "a A 10.0.0.1")
		}
		if !same(k.Zone(), want) {
			t.Errorf("P10.3, %s: the zone\n%s", c.what, tell(k.Zone()))
		}
		if got := k.Journal(); !bytes.HasPrefix(got, journal) || (len(got) > len(journal)) != c.done {
			t.Errorf("P10.3, %s: the journal of %d bytes has %d", c.what, len(journal), len(got))
		}
		if o, ok := update.Open(k.Journal()); !ok || !same(o.Zone(), want) {
			t.Errorf("P10.4, %s: not opened", c.what)
		}
	}
}

// sameAnswer: lists that have nothing in them may be nil or empty.
func sameAnswer(a, b api.Message) bool {
	empty := len(a.Answers) == 0 && len(a.Authority) == 0 && len(a.Additional) == 0
	a.Answers, a.Authority, a.Additional = nil, nil, nil
	if len(a.Questions) == 0 && len(b.Questions) == 0 {
		a.Questions, b.Questions = nil, nil
	}
	return empty && reflect.DeepEqual(a, b)
}

// history: a keeper that has done something of each kind, the zones that it
// had, and how long its journal was when it had them.
type history struct {
	keeper *update.Keeper
	zones  []*zone.Zone
	sizes  []int
}

func newHistory(k *update.Keeper) *history {
	return &history{k, []*zone.Zone{k.Zone()}, []int{len(k.Journal())}}
}

func (h *history) do(t *testing.T, m api.Message) {
	t.Helper()
	before := h.keeper.Journal()
	h.keeper.Do(m)
	after := h.keeper.Journal()
	if !bytes.HasPrefix(after, before) {
		t.Fatalf("P10.3: %x isn't the beginning of %x", before, after)
	}
	h.zones = append(h.zones, h.keeper.Zone())
	h.sizes = append(h.sizes, len(after))
}

// last: the last zone that was there when the journal had at most that length.
func (h *history) last(size int) *zone.Zone {
	var z *zone.Zone
	for i, at := range h.sizes {
		if at <= size {
			z = h.zones[i]
		}
	}
	return z
}

// had: was it ever there?
func (h *history) had(z *zone.Zone) bool {
	for _, o := range h.zones {
		if same(o, z) {
			return true
		}
	}
	return false
}

func past(t *testing.T) *history {
	t.Helper()
	h := newHistory(update.New(newZone("Ex.", list("ex.", "EX. SOA ns h 7 2 3 4 5", "@ NS ns.org.", "a A 10.0.0.1", "a A 10.0.0.2"))))
	for _, text := range []string{
		"+ b.ex. 5 TXT x",
		"+ b.ex. 5 TXT x", // nothing
		"- A.ex. A 10.0.0.1;+ A.ex. 70 A 10.0.0.2",
		"+ ex. 61 SOA ns h 4000000000 2 3 4 5", // nothing: it is older
		"+ eX. 61 SOA ns h 2000000000 2 3 4 5;+ a.ex. 2147483647 TYPE700 \\# 0",
		"+ *.ex. 60 NS a", // refused
		"= a.ex. ANY;= b.ex. ANY",
	} {
		h.do(t, changes(lines(text)...))
	}
	return h
}

func TestOpen(t *testing.T) {
	h := past(t)
	journal := h.keeper.Journal()
	o, ok := update.Open(journal)
	if !ok || !same(o.Zone(), h.keeper.Zone()) || !bytes.Equal(o.Journal(), journal) {
		t.Fatal("P10.3: Open of a journal isn't the keeper that it was")
	}
	// It goes on as the other does.
	m := changes("+ c.ex. 60 A 10.0.0.1", "- ex. NS ns.org.", "+ ex. 60 NS b")
	if a, b := o.Do(m), h.keeper.Do(m); !reflect.DeepEqual(a, b) || !same(o.Zone(), h.keeper.Zone()) || !bytes.Equal(o.Journal(), h.keeper.Journal()) {
		t.Error("P10.3: the keeper that was opened goes another way")
	}
}

// TestCut: a crash came while the journal was written.
func TestCut(t *testing.T) {
	h := past(t)
	journal := h.keeper.Journal()
	sizes := map[int]int{}
	for size := range len(journal) + 1 {
		o, ok := update.Open(journal[:size])
		if size < h.sizes[0] {
			if ok || o != nil {
				t.Fatalf("P10.3: of %d bytes, less than New's %d, a zone came out", size, h.sizes[0])
			}
			continue
		}
		if !ok || !same(o.Zone(), h.last(size)) {
			t.Fatalf("P10.3: of %d bytes: %v\n%s\nwanted\n%s", size, ok, tellOf(o.Zone()), tell(h.last(size)))
		}
		again := o.Journal()
		if !bytes.HasPrefix(journal[:size], again) {
			t.Fatalf("P10.3: of %d bytes the journal isn't a beginning", size)
		}
		sizes[len(again)]++
		// What is done next stands behind what was there.
		o.Do(changes("+ next.ex. 60 A 10.0.0.1"))
		p, ok := update.Open(o.Journal())
		if !ok || !same(p.Zone(), o.Zone()) || len(p.Zone().Set(n("next.ex."), api.A)) != 1 || !bytes.HasPrefix(o.Journal(), again) {
			t.Fatalf("P10.3: of %d bytes: what was done next isn't there", size)
		}
	}
	if len(sizes) != 5 { // New's, and four changes
		t.Errorf("P10.3: %d lengths of journals; wanted 5", len(sizes))
	}
}

// TestTurned: no byte can be turned so that a zone comes out that never was.
func TestTurned(t *testing.T) {
	t.Parallel()
	h := past(t)
	journal := h.keeper.Journal()
	none := 0
	for at := range journal {
		for by := 1; by < 256; by++ {
			b := bytes.Clone(journal)
			b[at] ^= byte(by)
			o, ok := update.Open(b)
			if !ok {
				none++
				if o != nil {
					t.Fatalf("P10.3: byte %d turned by %d: a keeper, and false", at, by)
				}
			} else if !h.had(o.Zone()) {
				t.Fatalf("P10.3: byte %d turned by %d:\n%s", at, by, tell(o.Zone()))
			}
		}
	}
	// Nothing of the first zone can be mended.
	if none < 255*h.sizes[0] {
		t.Errorf("P10.3: %d of %d turned bytes were seen in the first zone", none, 255*h.sizes[0])
	}
}

// TestCutAndTurned: both.
func TestCutAndTurned(t *testing.T) {
	t.Parallel()
	h := past(t)
	journal := h.keeper.Journal()
	for size := range len(journal) + 1 {
		for at := range size {
			b := bytes.Clone(journal[:size])
			b[at] ^= 1 << (at % 8)
			if o, ok := update.Open(b); ok && !h.had(o.Zone()) {
				t.Fatalf("P10.3: %d bytes, byte %d turned:\n%s", size, at, tell(o.Zone()))
			}
		}
	}
}

func TestTidy(t *testing.T) {
	h := past(t)
	z, long := h.keeper.Zone(), h.keeper.Journal()
	fresh := update.New(z)
	h.keeper.Tidy()
	if !same(h.keeper.Zone(), z) || !bytes.Equal(h.keeper.Journal(), fresh.Journal()) || len(long) <= len(h.keeper.Journal()) {
		t.Fatal("P10.3: Tidy")
	}
	again := h.keeper.Journal()
	h.keeper.Tidy()
	if !same(h.keeper.Zone(), z) || !bytes.Equal(h.keeper.Journal(), again) {
		t.Error("P10.3: Tidy right behind Tidy")
	}
	// What is done behind it stands behind it, and whatever is cut there is as
	// with a new keeper.
	tidied := newHistory(h.keeper)
	for _, text := range []string{"+ c.ex. 60 A 10.0.0.1", "- c.ex. A 10.0.0.1"} {
		m := changes(text)
		if a, b := fresh.Do(m), update.New(tidied.keeper.Zone()).Do(m); !reflect.DeepEqual(a, b) {
			t.Errorf("P10.3: answered %+v and %+v", a, b)
		}
		tidied.do(t, m)
		if !bytes.Equal(fresh.Journal(), tidied.keeper.Journal()) || !same(fresh.Zone(), tidied.keeper.Zone()) {
			t.Error("P10.3: Do behind Tidy")
		}
	}
	journal := tidied.keeper.Journal()
	for size := tidied.sizes[0]; size <= len(journal); size++ {
		if o, ok := update.Open(journal[:size]); !ok || !same(o.Zone(), tidied.last(size)) {
			t.Fatalf("P10.3: of %d bytes behind Tidy: %v", size, ok)
		}
	}
	// Of a keeper that has done nothing, and of one that was opened.
	k := update.New(example())
	k.Tidy()
	if !bytes.Equal(k.Journal(), update.New(example()).Journal()) || !same(k.Zone(), example()) {
		t.Error("P10.3: Tidy right behind New")
	}
	o, ok := update.Open(long)
	if !ok {
		t.Fatal("P10.3: Open")
	}
	o.Tidy()
	if !same(o.Zone(), z) || !bytes.Equal(o.Journal(), again) {
		t.Error("P10.3: Tidy behind Open")
	}
}

// TestApart: what was handed in or out is the caller's own.
func TestApart(t *testing.T) {
	k := update.New(plain())
	m := changes("+ a.ex. 60 A 10.0.0.1")
	a := k.Do(m)
	z, journal := tell(k.Zone()), k.Journal()
	a.Questions[0].Name = n("org.")
	if m.Questions[0].Name != n("ex.") {
		t.Error("P2: the answer's questions are the message's")
	}
	m.Authority[0].Owner, m.Questions[0].Type = n("b.ex."), api.A
	out := k.Journal()
	clear(out[:cap(out)])
	if tell(k.Zone()) != z || !bytes.Equal(k.Journal(), journal) {
		t.Error("P2: the keeper has changed")
	}
	in := append(bytes.Clone(journal), "spare room"...)
	o, ok := update.Open(in[:len(journal)])
	if !ok || string(in[len(journal):]) != "spare room" || !bytes.Equal(in[:len(journal)], journal) {
		t.Fatal("P2: Open has changed what it was handed")
	}
	o.Do(changes("+ c.ex. 60 A 10.0.0.1"))
	if string(in[len(journal):]) != "spare room" {
		t.Error("P2: Do wrote into what Open was handed")
	}
	z, journal = tell(o.Zone()), o.Journal()
	clear(in)
	if tell(o.Zone()) != z || !bytes.Equal(o.Journal(), journal) {
		t.Error("P2: a keeper has changed with what Open was handed")
	}
	// Two of one journal go their own ways.
	first, _ := update.Open(journal)
	second, _ := update.Open(journal)
	first.Do(changes("+ d.ex. 60 A 10.0.0.1"))
	if !same(second.Zone(), o.Zone()) || !bytes.Equal(second.Journal(), journal) {
		t.Error("P2: one keeper has changed another")
	}
}
