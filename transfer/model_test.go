package transfer_test

import (
	"math/rand"
	"slices"
	"strconv"
	"strings"
	"testing"

	"gazetteer/api"
	"gazetteer/data"
	"gazetteer/name"
	"gazetteer/transfer"
	"gazetteer/wire"
	"gazetteer/zone"
)

// A second reckoning of Answer and Take, held against the package by histories,
// questions and rows of chance. It goes through lists, and nothing else.

func modelNewer(a, b int) bool {
	for a < b {
		a += last + 1
	}
	return a-b >= 1 && a-b <= half-1
}

func serialOf(r api.Record) int {
	b := []byte(r.Data[len(r.Data)-20:])
	return int(b[0])<<24 | int(b[1])<<16 | int(b[2])<<8 | int(b[3])
}

// modelSoa: the SOA of a list that has one, and its number.
func modelSoa(l []api.Record) (api.Record, int) {
	at := slices.IndexFunc(l, func(r api.Record) bool { return r.Type == 6 })
	return l[at], at
}

// modelAnswer: the row or an Rcode, for a message that is right and no
// Response; of all zones that were added.
func modelAnswer(zones []*zone.Zone, m api.Message) ([]api.Record, int) {
	kept := zones[max(0, len(zones)-8):]
	all := kept[len(kept)-1].Records()
	soa, _ := modelSoa(all)
	if len(m.Questions) != 1 {
		return nil, api.FormErr
	}
	if m.Opcode != 0 {
		return nil, api.NotImp
	}
	q := m.Questions[0]
	if q.Class != 1 || name.Fold(q.Name) != n("ex.") {
		return nil, api.NotAuth
	}
	if q.Type != 251 && q.Type != 252 {
		return nil, api.Refused
	}
	row := []api.Record{soa}
	for _, r := range all {
		if r.Type != 6 {
			row = append(row, r)
		}
	}
	row = append(row, soa)
	if q.Type == 252 {
		return row, 0
	}
	if len(m.Authority) != 1 || m.Authority[0].Type != 6 || len(m.Authority[0].Data) == 0 {
		return nil, api.FormErr
	}
	serial := serialOf(m.Authority[0])
	if !modelNewer(serialOf(soa), serial) {
		return row[:1], 0
	}
	var steps []api.Record
	for i, z := range kept {
		if z.Serial() == serial {
			steps = []api.Record{soa}
		}
		if i == len(kept)-1 || steps == nil {
			continue
		}
		steps = append(steps, modelStep(z.Records(), kept[i+1].Records())...)
	}
	if steps = append(steps, soa); len(steps) == 1 || len(steps) > len(row) {
		return row, 0
	}
	return steps, 0
}

func modelStep(a, b []api.Record) []api.Record {
	var row []api.Record
	for range 2 {
		soa, _ := modelSoa(a)
		row = append(row, soa)
		for _, r := range a {
			if r.Type != 6 && !slices.Contains(b, r) {
				row = append(row, r)
			}
		}
		a, b = b, a
	}
	return row
}

func modelTake(z *zone.Zone, q api.Message, answers []api.Message) (*zone.Zone, api.Errno) {
	if wire.Check(q) != api.OK || len(q.Questions) != 1 {
		return nil, api.ErrForm
	}
	asked := api.Message{ID: q.ID, Questions: []api.Question{{Name: q.Questions[0].Name, Type: 252, Class: 1}}}
	if q.Questions[0].Type == 251 {
		if z == nil {
			return nil, api.ErrForm
		}
		soa, _ := modelSoa(z.Records())
		asked.Questions[0] = api.Question{Name: z.Apex(), Type: 251, Class: 1}
		asked.Authority = []api.Record{soa}
	}
	switch {
	case !sameMessage(q, asked):
		return nil, api.ErrForm
	case len(answers) == 0:
		return nil, api.ErrEnd
	}
	bad := false
	for _, a := range answers {
		if wire.Check(a) != api.OK || !a.Response || a.ID != q.ID || a.Opcode != 0 || len(a.Authority) > 0 || !slices.Equal(a.Questions, q.Questions) {
			return nil, api.ErrForm
		}
		bad = bad || a.Rcode != 0
	}
	if bad {
		return nil, api.ErrNone
	}
	return modelTakeRow(z, q.Questions[0], joined(answers))
}

func modelTakeRow(z *zone.Zone, q api.Question, row []api.Record) (*zone.Zone, api.Errno) {
	if len(row) == 0 || row[0].Type != 6 || row[0].Data == "" || !name.Equal(row[0].Owner, q.Name) {
		return nil, api.ErrSoa
	}
	if len(row) == 1 {
		if q.Type == 251 && !modelNewer(serialOf(row[0]), z.Serial()) {
			return z, api.OK
		}
		return nil, api.ErrEnd
	}
	if q.Type == 251 && row[1].Type == 6 {
		return modelTakeSteps(z, row)
	}
	for i := 1; i < len(row); i++ {
		if row[i] != row[0] {
			continue
		}
		if i != len(row)-1 {
			return nil, api.ErrTrail
		}
		y, _, e := zone.New(q.Name, row[:i])
		return y, e
	}
	return nil, api.ErrEnd
}

func modelTakeSteps(z *zone.Zone, row []api.Record) (*zone.Zone, api.Errno) {
	stand := z.Records()
	going := false
	for i := 1; i < len(row); i++ {
		r := row[i]
		soa, at := modelSoa(stand)
		if r.Type == 6 && going {
			stand[at], going = r, false
			continue
		}
		if r.Type == 6 {
			if i == len(row)-1 && r == row[0] && r == soa {
				y, _, e := zone.New(z.Apex(), stand)
				return y, e
			}
			if r != soa {
				return nil, api.ErrOld
			}
			going = true
			continue
		}
		k := slices.Index(stand, r)
		if going && k < 0 {
			return nil, api.ErrNone
		}
		if !going && k >= 0 {
			return nil, api.ErrTwice
		}
		if going {
			stand = slices.Delete(stand, k, k+1)
		} else {
			stand = append(stand, r)
		}
	}
	return nil, api.ErrEnd
}

// dice: what falls by chance.
type dice struct{ *rand.Rand }

func (d dice) oneOf(texts ...string) string { return texts[d.Intn(len(texts))] }

// record gives one that may stand in a zone.
func (d dice) record() api.Record {
	owner := d.oneOf("ex.", "a", "A", "b", "x.a", "*", "c", "d", "E", "f")
	age := d.oneOf("60", "60", "60", "61")
	words := d.oneOf("A 10.0.0.1", "A 10.0.0.2", "TXT x", "TXT X", "MX 1 a", "MX 1 A", "CNAME b", "NS a", "DNAME o", `TYPE700 \# 0`, "RRSIG A 253 2 60 9 1 7 ex. AAAA")
	return list(owner + " " + age + " " + words)[0]
}

func (d dice) soa(serial int) api.Record {
	return list(d.oneOf("ex.", "ex.", "EX.") + " SOA " + d.oneOf("ns", "ns", "NS") + " h " + strconv.Itoa(serial) + " 2 3 4 5")[0]
}

// next gives a zone of a serial that has much of what stood in l.
func (d dice) next(l []api.Record, serial int) *zone.Zone {
	records := []api.Record{d.soa(serial), list("@ NS ns.org.")[0]}
	for _, r := range l {
		if r.Type != api.SOA && r != records[1] && d.Intn(8) > 0 {
			records = append(records, r)
		}
	}
	z, _, _ := zone.New(n(d.oneOf("ex.", "ex.", "Ex.")), records)
	for range d.Intn(4) {
		r := d.record()
		if y, _, e := zone.New(z.Apex(), append(records, r)); e == api.OK {
			z, records = y, append(records, r)
		}
	}
	return z
}

func (d dice) serial() int {
	return []int{0, 1, 7, half - 1, half, half + 1, last - 3, last}[d.Intn(8)]
}

// zones gives some, each newer than the one ahead of it; all way round, if
// round, else never so far that one isn't newer than all ahead of it.
func (d dice) zones(round bool) []*zone.Zone {
	serial := d.serial()
	var records []api.Record
	for range d.Intn(50) {
		records = append(records, list("h"+strconv.Itoa(len(records))+" A 10.0.0.1")...)
	}
	zones := []*zone.Zone{d.next(records, serial)}
	for range d.Intn(11) {
		way := 1 + d.Intn(3)
		if round {
			way = []int{1, 2, half / 2, half - 1, half - 2, 3}[d.Intn(6)]
		} else if d.Intn(3) == 0 {
			way = half / 12
		}
		serial = (serial + way) % (last + 1)
		zones = append(zones, d.next(zones[len(zones)-1].Records(), serial))
	}
	return zones
}

// question gives what asks for a copy, and now and then for something else.
func (d dice) question(zones []*zone.Zone) (*zone.Zone, api.Message) {
	z := zones[d.Intn(len(zones))]
	apex := n(d.oneOf("ex.", "EX."))
	if d.Intn(4) == 0 {
		z = nil
	}
	q, _ := transfer.Ask(z, apex, d.Intn(65536))
	q.RD, q.CD = d.Intn(2) == 0, d.Intn(2) == 0
	switch d.Intn(10) {
	case 0:
		q.Questions = append(q.Questions, q.Questions...)[:d.Intn(3)]
	case 1:
		q.Opcode = d.Intn(16)
	case 2:
		q.Questions[0] = api.Question{Name: n(d.oneOf("ex.", "a.ex.", ".")), Type: 250 + d.Intn(4), Class: d.Intn(2)}
	case 3:
		q.Authority = append(q.Authority, d.record())[:d.Intn(2)]
	case 4, 5:
		q.Questions[0].Type = api.IXFR
		q.Authority = []api.Record{d.soa(d.serial())}
	}
	return z, q
}

func TestModelAnswer(t *testing.T) {
	t.Parallel()
	d := dice{rand.New(rand.NewSource(113))}
	codes, kinds := make([]int, 16), make(map[string]int)
	for range 700 {
		zones := d.zones(d.Intn(2) == 0)
		h := historyOf(zones...)
		for range 12 {
			_, q := d.question(zones)
			want, code := modelAnswer(zones, q)
			codes[code]++
			what := "of zones of " + serials(zones) + " for " + told1(q)
			if code != api.NoError {
				got := h.Answer(q)
				if len(got) != 1 || got[0].Rcode != code || got[0].AA || len(got[0].Answers) > 0 {
					t.Fatalf("P11.3, %s: %+v, wanted %d", what, got, code)
				}
				continue
			}
			if checkRow(t, what, h, q, want); t.Failed() {
				return
			}
			switch {
			case len(want) == 1:
				kinds["alone"]++
			case want[1].Type == api.SOA:
				kinds["steps"]++
			case q.Questions[0].Type == api.IXFR:
				kinds["all"]++
			}
			if len(want) > 16 {
				kinds["parts"]++
			}
		}
	}
	for _, code := range []int{api.FormErr, api.NotImp, api.Refused, api.NotAuth} {
		if codes[code] < 50 {
			t.Errorf("too few of the code %d: %d", code, codes[code])
		}
	}
	for _, kind := range []string{"alone", "steps", "all", "parts"} {
		if kinds[kind] < 300 {
			t.Errorf("too few: %v", kinds)
		}
	}
}

func serials(zones []*zone.Zone) string {
	var texts []string
	for _, z := range zones {
		texts = append(texts, strconv.Itoa(z.Serial()))
	}
	return strings.Join(texts, ", ")
}

func told1(q api.Message) string {
	text := ""
	for _, part := range q.Questions {
		text += data.TypeName(part.Type) + " "
	}
	return text + tell(q.Authority)
}

// spoiled gives a row with something other in it.
func (d dice) spoiled(row []api.Record) []api.Record {
	row = slices.Clone(row)
	i, j := d.Intn(len(row)), d.Intn(len(row))
	switch d.Intn(12) {
	case 0:
		return row[:i]
	case 1:
		return slices.Delete(row, i, i+1)
	case 2:
		return slices.Insert(row, i, row[j])
	case 3:
		row[i], row[j] = row[j], row[i]
	case 4:
		row[i].TTL++
	case 5:
		row[i].Owner = strings.ToUpper(row[i].Owner)
	case 6:
		return slices.Insert(row, i, d.record())
	case 7:
		row[i] = d.record()
	case 8:
		return append(row, row[j])
	case 9:
		return slices.Insert(row, i, row[0])
	case 10:
		return append(row, row[min(i, j):]...)
	case 11:
		if row[i].Type == api.SOA && d.Intn(2) == 0 {
			row[i].Class, row[i].Data = api.ClsAny, ""
		} else {
			row[i].Class = 3
		}
	}
	return row
}

func TestModelTake(t *testing.T) {
	t.Parallel()
	d := dice{rand.New(rand.NewSource(115))}
	codes, steps := make([]int, 32), make([]int, 32)
	for range 700 {
		zones := d.zones(d.Intn(4) == 0)
		h := historyOf(zones...)
		for range 16 {
			z := zones[max(0, len(zones)-1-d.Intn(5))]
			if d.Intn(5) == 0 {
				z = nil
			}
			q, _ := transfer.Ask(z, n("ex."), 7)
			row := joined(h.Answer(q))
			for range d.Intn(4) {
				if len(row) > 0 {
					row = d.spoiled(row)
				}
			}
			if d.Intn(20) == 0 {
				z = zones[d.Intn(len(zones))]
			}
			answers := sent(q, row, 1+d.Intn(20))
			want, code := modelTake(z, q, answers)
			y, e := transfer.Take(z, q, answers)
			if e != code || !same(y, want) {
				t.Fatalf("P11.5 of\n%s\nand\n%s\nTake = %d, wanted %d\n%s\nwanted\n%s", tellZone(z), tell(row), e, code, tellZone(y), tellZone(want))
			}
			if codes[code]++; z != nil && len(row) > 1 && row[1].Type == api.SOA {
				steps[code]++
			}
		}
	}
	for _, code := range []api.Errno{api.OK, api.ErrForm, api.ErrEnd, api.ErrTrail, api.ErrTwice, api.ErrSoa, api.ErrOld, api.ErrNone} {
		if codes[code] < 100 {
			t.Errorf("too few of the error %d: %d", code, codes[code])
		}
	}
	for _, code := range []api.Errno{api.OK, api.ErrEnd, api.ErrTwice, api.ErrOld, api.ErrNone} {
		if steps[code] < 100 {
			t.Errorf("too few of the error %d by steps: %d", code, steps[code])
		}
	}
}
