package update_test

import (
	"bytes"
	"math/rand"
	"strings"
	"testing"

	"gazetteer/api"
	"gazetteer/seal"
	"gazetteer/spell"
	"gazetteer/update"
)

// What Open makes of bytes that no keeper has written.

// block gives a text as it would stand in a journal.
func block(text string) string {
	length := spell.Bytes(len(text), 4)
	return length + seal.Digest(length) + text + seal.Digest(text)
}

// raw gives a list of records as it would stand there.
func raw(records ...api.Record) string {
	text := spell.Bytes(len(records), 4)
	for _, r := range records {
		text += spell.Bytes(r.Type, 2) + spell.Bytes(r.TTL, 4) + spell.Bytes(len(r.Owner), 2) + r.Owner + spell.Bytes(len(r.Data), 2) + r.Data
	}
	return text
}

func TestNoJournal(t *testing.T) {
	apex, all := n("ex."), plain().Records()
	good := block(apex) + block(raw()+raw(all...))
	if got := string(update.New(plain()).Journal()); got != good {
		t.Fatalf("New's journal: %q; wanted %q", got, good)
	}
	soa, ns := all[1], all[0]
	wrong := func(do func(r *api.Record)) string {
		r := ns
		do(&r)
		return block(apex) + block(raw()+raw(soa, r))
	}
	for _, c := range [][2]string{
		{"nothing", ""},
		{"a byte", "\x00"},
		{"noughts", strings.Repeat("\x00", 1000)},
		{"an apex alone", block(apex)},
		{"no apex", good[len(block(apex)):]},
		{"an apex that is no name", block("ex.") + good[len(block(apex)):]},
		{"another apex", block(n("org.")) + good[len(block(apex)):]},
		{"something ahead", "x" + good},
		{"an empty step", block(apex) + block("")},
		{"no records", block(apex) + block(raw()+raw())},
		{"one list of records", block(apex) + block(raw(all...))},
		{"three lists of records", block(apex) + block(raw()+raw(all...)+raw())},
		{"a count that is cut", block(apex) + block(raw()+"\x00\x00\x00")},
		{"more records than there are", block(apex) + block(raw()+"\xff\xff\xff\xff"+raw(all...)[4:])},
		{"fewer records than there are", block(apex) + block(raw()+"\x00\x00\x00\x01"+raw(all...)[4:])},
		{"a record that is cut", block(apex) + block((raw() + raw(all...))[:40])},
		{"data that are longer than all", block(apex) + block(raw()+"\x00\x00\x00\x01\x00\x02\x00\x00\x00\x3c\x00\x04\x02ex\x00\xff\xff\x00")},
		{"no SOA", block(apex) + block(raw()+raw(ns))},
		{"no NS", block(apex) + block(raw()+raw(soa))},
		{"an owner that is no name", wrong(func(r *api.Record) { r.Owner = "" })},
		{"an owner outside", wrong(func(r *api.Record) { r.Owner = n("org.") })},
		{"an age too great", wrong(func(r *api.Record) { r.TTL = 1 << 31 })},
		{"wrong data", wrong(func(r *api.Record) { r.Data = "" })},
		{"a type of no data", wrong(func(r *api.Record) { r.Type = 0 })},
		{"a step that makes no zone", good + block(raw(ns)+raw())},
		{"a step that is none", good + block("x")},
	} {
		if k, ok := update.Open([]byte(c[1])); ok || k != nil {
			t.Errorf("P10.3: %s: a keeper\n%s", c[0], tell(k.Zone()))
		}
	}
	if k, ok := update.Open(nil); ok || k != nil {
		t.Error("P10.3: nil: a keeper")
	}
}

// TestJournalThatEnds: what isn't a whole block, and all behind it, is left out.
func TestJournalThatEnds(t *testing.T) {
	good := string(update.New(plain()).Journal())
	next := block(raw() + raw(part("+ a.ex. 60 A 10.0.0.1")))
	for _, tail := range []string{"x", strings.Repeat("\x00", 14), strings.Repeat("\xff", 100), next[:13], next[:14], next[:len(next)-1], "x" + next,
		"\xff\xff\xff\xff" + seal.Digest("\xff\xff\xff\xff"), "\xff\xff\xff\xff" + seal.Digest("\xff\xff\xff\xff") + next} {
		o, ok := update.Open([]byte(good + tail))
		if !ok || !same(o.Zone(), plain()) || string(o.Journal()) != good {
			t.Errorf("P10.3: with %q behind it: %v", tail, ok)
		}
	}
	o, ok := update.Open([]byte(good + next))
	if !ok || !same(o.Zone(), plain("a A 10.0.0.1")) || string(o.Journal()) != good+next {
		t.Errorf("P10.3: with a step behind it: %v", ok)
	}
}

// TestNoise: whatever the bytes are, Open answers; and if there is a keeper, it
// is the keeper of its own journal.
func TestNoise(t *testing.T) {
	d := rand.New(rand.NewSource(103))
	h := past(t)
	journal := h.keeper.Journal()
	opened := 0
	for range 20000 {
		b := bytes.Clone(journal)
		for range 1 + d.Intn(3) {
			i, j := d.Intn(len(b)+1), d.Intn(len(b)+1)
			i, j = min(i, j), max(i, j)
			switch d.Intn(4) {
			case 0:
				b = append(b[:i:i], b[j:]...)
			case 1:
				b = append(b[:j:j], b[i:]...)
			case 2:
				d.Read(b[i:min(j, i+3)])
			case 3:
				b = b[:j]
			}
		}
		k, ok := update.Open(b)
		if ok != (k != nil) {
			t.Fatal("P10.3: a keeper and false, or none and true")
		}
		if !ok {
			continue
		}
		opened++
		o, ok := update.Open(k.Journal())
		if !ok || !same(o.Zone(), k.Zone()) || !bytes.Equal(o.Journal(), k.Journal()) || !bytes.HasPrefix(b, k.Journal()) {
			t.Fatalf("P10.3: Open of the journal of what was opened: %v", ok)
		}
	}
	if opened < 2000 {
		t.Errorf("too few: %d", opened)
	}
}
