package transfer_test

import (
	"math/rand"
	"slices"
	"testing"

	"gazetteer/api"
	"gazetteer/transfer"
	"gazetteer/update"
	"gazetteer/zone"
)

// copied: who has z, or none, asks and takes all that is answered; of any
// beginning of that nothing is taken.
func copied(t *testing.T, h *transfer.History, z *zone.Zone, apex string) []api.Message {
	t.Helper()
	q, e := transfer.Ask(z, apex, 7)
	if e != api.OK {
		t.Fatalf("P11.4: %d", e)
	}
	answers := h.Answer(q)
	before := clonedAll(answers)
	y, e := transfer.Take(z, q, answers)
	if e != api.OK || y.Apex() != q.Questions[0].Name || !slices.Equal(y.Records(), h.Zone().Records()) {
		t.Fatalf("P11.6: who has\n%s\ntook (%d)\n%s\nwanted\n%s", tellZone(z), e, tellZone(y), tellZone(h.Zone()))
	}
	for i := range answers {
		if y, e := transfer.Take(z, q, answers[:i]); e == api.OK || y != nil {
			t.Fatalf("P11.6: of %d of %d answers something is taken", i, len(answers))
		}
	}
	row := joined(answers)
	for i := range row {
		if y, e := transfer.Take(z, q, sent(q, row[:i], 16)); e == api.OK || y != nil {
			t.Fatalf("P11.6: of %d of %d records something is taken", i, len(row))
		}
	}
	if !slices.EqualFunc(answers, before, sameMessage) {
		t.Fatal("P11.6: Take changed the answers")
	}
	return answers
}

func TestCopies(t *testing.T) {
	t.Parallel()
	d := dice{rand.New(rand.NewSource(116))}
	steps, all, many := 0, 0, 0
	for range 250 {
		zones := d.zones(false)
		h := historyOf(zones...)
		copied(t, h, nil, n(d.oneOf("ex.", "EX.", "eX.")))
		for _, z := range zones {
			answers := copied(t, h, z, "")
			row := joined(answers)
			if len(row) > 1 && row[1].Type == api.SOA {
				steps++
			} else {
				all++
			}
			if len(answers) > 1 {
				many++
			}
		}
	}
	if steps < 400 || all < 400 || many < 200 {
		t.Errorf("too few: %d by steps, %d whole, %d of several messages", steps, all, many)
	}
}

// TestCopiesRound: where serials have gone round, who has no zone still has the
// newest; and so has who has the last zone of its serial, if the newest is
// newer than that one.
func TestCopiesRound(t *testing.T) {
	t.Parallel()
	d := dice{rand.New(rand.NewSource(1160))}
	taken, left := 0, 0
	for range 250 {
		zones := d.zones(true)
		h := historyOf(zones...)
		copied(t, h, nil, n("ex."))
		for i, z := range zones {
			again := func(y *zone.Zone) bool { return y.Serial() == z.Serial() }
			if slices.ContainsFunc(zones[i+1:], again) || !modelNewer(h.Zone().Serial(), z.Serial()) {
				left++
				continue
			}
			q, _ := transfer.Ask(z, "", 7)
			y, e := transfer.Take(z, q, h.Answer(q))
			if e != api.OK || !slices.Equal(y.Records(), h.Zone().Records()) {
				t.Fatalf("P11.5: of zones of %s, who has that of %d took (%d)\n%s", serials(zones), z.Serial(), e, tellZone(y))
			}
			taken++
		}
	}
	if taken < 200 || left < 200 {
		t.Errorf("too few: %d taken, %d left out", taken, left)
	}
}

// TestFollow: who asks now and then has what a keeper has.
func TestFollow(t *testing.T) {
	keeper := update.New(zoneOf(last-20, hosts(40)...))
	h := transfer.NewHistory(keeper.Zone())
	has := make([]*zone.Zone, 12)
	for i := range 60 {
		r := list("z TXT x")[0]
		r.TTL = i
		m := api.Message{Opcode: api.OpUpdate, Questions: []api.Question{{Name: n("ex."), Type: api.SOA, Class: api.IN}}, Authority: []api.Record{r}}
		if i%3 == 0 {
			m.Authority = append(m.Authority, api.Record{Owner: n("h1003.ex."), Type: api.ANY, Class: api.ClsAny})
		} else {
			m.Authority = append(m.Authority, list("h1003 A 10.0.0.9")...)
		}
		if a := keeper.Do(m); a.Rcode != api.NoError {
			t.Fatalf("P10.3: %d", a.Rcode)
		}
		if e := h.Add(keeper.Zone()); e != api.OK {
			t.Fatalf("P11.2: %d", e)
		}
		for every := range has {
			if i%(every+1) != 0 {
				continue
			}
			q, _ := transfer.Ask(has[every], n("ex."), i)
			y, e := transfer.Take(has[every], q, h.Answer(q))
			if e != api.OK || !same(y, keeper.Zone()) {
				t.Fatalf("P11.6: %d\n%s\nwanted\n%s", e, tellZone(y), tellZone(keeper.Zone()))
			}
			has[every] = y
		}
	}
}

// TestTakeKeeps: what is done later with what was handed in isn't seen, and
// the room behind lists stays as it was.
func TestTakeKeeps(t *testing.T) {
	z := zoneOf(1, hosts(20)...)
	h := historyOf(z, zoneOf(2, append(hosts(20), "a A 10.0.0.1")...))
	for _, has := range []*zone.Zone{nil, z} {
		q, _ := transfer.Ask(has, n("ex."), 7)
		answers := h.Answer(q)
		for i := range answers {
			room := make([]api.Record, 20)
			copy(room, answers[i].Answers)
			answers[i].Answers = room[:len(answers[i].Answers)]
		}
		y, e := transfer.Take(has, q, answers)
		if e != api.OK {
			t.Fatalf("P11.5: %d", e)
		}
		for _, a := range answers {
			if behind := a.Answers[:20][19]; behind != (api.Record{}) {
				t.Errorf("P2: behind a list stands %+v", behind)
			}
			spoil(a)
		}
		spoil(q)
		if !same(y, h.Zone()) || z.Serial() != 1 {
			t.Error("P2: what was handed in was kept")
		}
	}
}
