package update_test

import (
	"bytes"
	"math/rand"
	"slices"
	"testing"

	"gazetteer/api"
	"gazetteer/update"
	"gazetteer/zone"
)

// P10.4, of zones and messages of chance.

// TestCrashes: keepers that are cut now and then go on from what was told.
func TestCrashes(t *testing.T) {
	t.Parallel()
	d := dice{rand.New(rand.NewSource(104))}
	crashes, lost, tidied, done := 0, 0, 0, 0
	for range 200 {
		h := newHistory(update.New(d.zone()))
		for range 40 {
			switch d.Intn(8) {
			case 0:
				cut := d.crash(t, h)
				crashes++
				lost += cut
			case 1:
				z := h.keeper.Zone()
				h.keeper.Tidy()
				if !same(h.keeper.Zone(), z) || !bytes.Equal(h.keeper.Journal(), update.New(z).Journal()) {
					t.Fatal("P10.3: Tidy")
				}
				h = newHistory(h.keeper)
				tidied++
			default:
				done += d.doOne(t, h)
			}
		}
	}
	if crashes < 500 || lost < 100 || tidied < 500 || done < 1000 {
		t.Errorf("too few: %d crashes, %d of which lost something; tidied %d; done %d", crashes, lost, tidied, done)
	}
}

// doOne: what is answered, and what is there then.
func (d dice) doOne(t *testing.T, h *history) int {
	t.Helper()
	before := h.keeper.Zone()
	m := d.message(before)
	want, code := modelApply(before, m)
	size := len(h.keeper.Journal())
	if a := h.keeper.Do(m); a.Rcode != code {
		t.Fatalf("P10.3 of %+v: %d, wanted %d", m, a.Rcode, code)
	}
	if want == nil {
		want = before
	}
	if !same(h.keeper.Zone(), want) {
		t.Fatalf("P10.4 of %+v:\n%s\nwanted\n%s", m, tell(h.keeper.Zone()), tell(want))
	}
	h.zones, h.sizes = append(h.zones, want), append(h.sizes, len(h.keeper.Journal()))
	if same(before, want) != (size == len(h.keeper.Journal())) {
		t.Fatalf("P10.3 of %+v: the journal had %d bytes and has %d", m, size, len(h.keeper.Journal()))
	}
	if same(before, want) {
		return 0
	}
	return 1
}

// crash: the journal is cut somewhere behind its beginning, and opened anew.
// Tells 1 if something was lost by that.
func (d dice) crash(t *testing.T, h *history) int {
	t.Helper()
	journal := h.keeper.Journal()
	size := len(journal)
	if d.Intn(2) == 0 {
		size = h.sizes[0] + d.Intn(len(journal)-h.sizes[0]+1)
	}
	o, ok := update.Open(journal[:size])
	if !ok || !same(o.Zone(), h.last(size)) || !bytes.HasPrefix(journal[:size], o.Journal()) {
		t.Fatalf("P10.4: of %d bytes of %d: %v", size, len(journal), ok)
	}
	h.keeper = o
	kept := len(o.Journal())
	for len(h.sizes) > 0 && h.sizes[len(h.sizes)-1] > kept {
		h.sizes, h.zones = h.sizes[:len(h.sizes)-1], h.zones[:len(h.zones)-1]
	}
	if kept < len(journal) {
		return 1
	}
	return 0
}

// TestTwice: what only adds changes nothing when it is done again.
func TestTwice(t *testing.T) {
	t.Parallel()
	d := dice{rand.New(rand.NewSource(1004))}
	changed := 0
	for range 4000 {
		z := d.zone()
		m := d.message(z)
		m.Answers = nil
		m.Authority = slices.DeleteFunc(m.Authority, func(r api.Record) bool {
			return r.Class != api.IN || r.Type == api.SOA || r.Type == api.CNAME
		})
		k := update.New(z)
		k.Do(m)
		once, journal := k.Zone(), k.Journal()
		if !same(once, z) {
			changed++
		}
		k.Do(m)
		if !same(k.Zone(), once) || !bytes.Equal(k.Journal(), journal) {
			t.Fatalf("P10.4 of %+v: once\n%s\ntwice\n%s", m, tell(once), tell(k.Zone()))
		}
	}
	if changed < 1000 {
		t.Errorf("too few: %d", changed)
	}
}

// TestManySteps: a journal with many changes of a zone with many records.
func TestManySteps(t *testing.T) {
	t.Parallel()
	k := update.New(full(1000))
	var zones []*zone.Zone
	for i := range 100 {
		r := api.Record{Owner: n("z.ex."), Type: api.TXT, Class: api.IN, TTL: i, Data: "\x01" + string([]byte{byte(i)})}
		m := changes("= z.ex. TXT")
		m.Authority = append(m.Authority, r)
		if a := k.Do(m); a.Rcode != api.NoError {
			t.Fatalf("P10.3: %+v", a)
		}
		zones = append(zones, k.Zone())
	}
	o, ok := update.Open(k.Journal())
	if !ok || !same(o.Zone(), k.Zone()) || o.Zone().Serial() != 107 || len(o.Zone().Records()) != 1001 {
		t.Fatal("P10.4: what was done isn't there")
	}
	if o, ok = update.Open(k.Journal()[:len(k.Journal())-1]); !ok || !same(o.Zone(), zones[98]) {
		t.Error("P10.4: all but the last that was done isn't there")
	}
}
