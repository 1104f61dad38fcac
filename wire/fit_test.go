package wire_test

import (
	"slices"
	"testing"

	"gazetteer/api"
	"gazetteer/wire"
)

// sizeOf: how many bytes a message has.
func sizeOf(t *testing.T, m api.Message) int {
	t.Helper()
	b, e := wire.Pack(m)
	if e != api.OK {
		t.Fatalf("Pack(%v) = %d", m, e)
	}
	return len(b)
}

// crowded gives a message with OPTs between its other additional records.
func crowded() api.Message {
	ip := func(owner string) api.Record { return record(owner, api.A, "\x0a\x00\x00\x01") }
	opt := func(d string) api.Record {
		return api.Record{Owner: api.Root, Type: api.OPT, Class: 4096, Data: d}
	}
	m := whole()
	m.Additional = []api.Record{ip("a.ex."), opt("one"), ip("b.ex."), ip("c.ex."), opt("two"), ip("d.ex.")}
	return m
}

// without gives m with these of its additional records.
func without(m api.Message, kept ...int) api.Message {
	var list []api.Record
	for _, i := range kept {
		list = append(list, m.Additional[i])
	}
	m.Additional = list
	return m
}

func cut(m api.Message) api.Message {
	m.Answers, m.Authority, m.TC = nil, nil, true
	return m
}

func TestFit(t *testing.T) {
	m := crowded()
	tried := []api.Message{m, without(m, 0, 1, 2, 3, 4), without(m, 0, 1, 2, 4), without(m, 0, 1, 4), without(m, 1, 4), cut(without(m, 1, 4))}
	above := 1 << 40
	for i, want := range tried {
		size := sizeOf(t, want)
		for _, limit := range []int{size, size + 1, above - 1} {
			part, e := wire.Fit(m, limit)
			if !same(part, want) || e != api.OK {
				t.Errorf("P3.4 Fit in %d bytes = %v, %d; wanted the message number %d that is tried, %v", limit, part, e, i, want)
			}
		}
		above = size
	}
	for _, limit := range []int{above - 1, 12, 11, 0, -1, -1 << 63} {
		part, e := wire.Fit(m, limit)
		if !same(part, api.Message{}) || e != api.ErrLarge {
			t.Errorf("P3.4 Fit in %d bytes = %v, %d; wanted ErrLarge", limit, part, e)
		}
	}
	if !same(m, crowded()) {
		t.Errorf("P2 Fit made %v of %v", m, crowded())
	}
}

func TestFitEdges(t *testing.T) {
	part, e := wire.Fit(api.Message{}, 12)
	if !same(part, api.Message{}) || e != api.OK {
		t.Errorf("P3.4 Fit of nothing in 12 bytes = %v, %d; wanted OK", part, e)
	}
	part, e = wire.Fit(api.Message{}, 11)
	if !same(part, api.Message{}) || e != api.ErrLarge {
		t.Errorf("P3.4 Fit of nothing in 11 bytes = %v, %d; wanted ErrLarge", part, e)
	}
	// OPTs stay wherever they stand, and count in other sections as all records do.
	m := api.Message{ID: 5, Response: true, AA: true, RD: true, Rcode: 3, Questions: asked("ex."), Answers: []api.Record{filler(100), {Owner: api.Root, Type: api.OPT}},
		Authority: []api.Record{filler(200)}, Additional: []api.Record{{Owner: api.Root, Type: api.OPT, Class: 512}}}
	part, e = wire.Fit(m, sizeOf(t, m)-1)
	if !same(part, cut(m)) || e != api.OK {
		t.Errorf("P3.4 Fit of a message without other additional records = %v, %d; wanted %v", part, e, cut(m))
	}
	// Above what a message may have no limit helps.
	m = api.Message{Answers: []api.Record{filler(60000)}, Additional: []api.Record{filler(1000), filler(5000)}}
	part, e = wire.Fit(m, 1<<40)
	if !same(part, without(m, 0)) || e != api.OK {
		t.Errorf("P3.4 Fit of a message above 65535 bytes = %d records, %d; wanted one less", len(part.Additional), e)
	}
	m = api.Message{Answers: []api.Record{filler(65535)}, Additional: []api.Record{filler(1000)}}
	part, e = wire.Fit(m, 65535)
	if !same(part, api.Message{TC: true}) || e != api.OK {
		t.Errorf("P3.4 Fit of an answer above 65535 bytes = %v, %d; wanted TC alone", part, e)
	}
	m = api.Message{Additional: []api.Record{{Owner: api.Root, Type: api.OPT, Data: zeros(65535)}, filler(5)}}
	part, e = wire.Fit(m, 65535)
	if !same(part, api.Message{}) || e != api.ErrLarge {
		t.Errorf("P3.4 Fit of an OPT above 65535 bytes = %v, %d; wanted ErrLarge", part, e)
	}
}

// A message may grow by what is left out: of the names of OPTs the first is
// written whole then, at a place to which no pointer leads.
func TestFitGrows(t *testing.T) {
	opt := func(owner, d string) api.Record { return api.Record{Owner: owner, Type: api.OPT, Data: d} }
	named := func(owner string) api.Record { return api.Record{Owner: owner, Type: 65280, Class: 1} }
	list := []api.Record{named(n("b.")), named(name255), opt(api.Root, zeros(17000))}
	m := api.Message{Additional: append(list, repeat(opt(name255, ""), 20)...)}
	kept := []int{0}
	for i := range 21 {
		kept = append(kept, 2+i)
	}
	most, less := sizeOf(t, m), sizeOf(t, without(m, kept...))
	if less <= most {
		t.Fatalf("the message doesn't grow: %d, then %d", most, less)
	}
	for _, c := range []struct {
		limit int
		want  api.Message
		e     api.Errno
	}{
		{most, m, api.OK},
		{most - 1, api.Message{}, api.ErrLarge},
		{less, m, api.OK},
	} {
		part, e := wire.Fit(m, c.limit)
		if !same(part, c.want) || e != c.e {
			t.Errorf("P3.4 Fit in %d bytes = %d records, %d; wanted %d, %d", c.limit, len(part.Additional), e, len(c.want.Additional), c.e)
		}
	}
}

func TestFitMany(t *testing.T) {
	m := api.Message{Additional: repeat(filler(0), 65535)}
	part, e := wire.Fit(m, 65535)
	if want := (65535 - headSize) / 11; len(part.Additional) != want || e != api.OK {
		t.Errorf("P3.4 Fit of 65535 records = %d records, %d; wanted %d", len(part.Additional), e, want)
	}
}

// What comes out is new memory, and the room behind what is handed in is nobody's.
func TestFitNew(t *testing.T) {
	m := crowded()
	spare := slices.Clone(m.Additional)
	m.Additional = m.Additional[:3]
	for _, limit := range []int{65535, sizeOf(t, m) - 1, sizeOf(t, cut(without(m, 1)))} {
		part, e := wire.Fit(m, limit)
		if e != api.OK {
			t.Fatalf("P3.4 Fit in %d bytes = %d", limit, e)
		}
		clear(part.Questions)
		clear(part.Answers)
		clear(part.Authority)
		clear(part.Additional)
		_ = append(part.Additional, api.Record{})
		if want := without(crowded(), 0, 1, 2); !same(m, want) || !slices.Equal(m.Additional[:6], spare) {
			t.Errorf("P2 Fit in %d bytes: what was handed in is %v; wanted %v", limit, m, want)
		}
	}
}
