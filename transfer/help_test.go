package transfer_test

import (
	"slices"
	"strconv"
	"strings"
	"testing"

	"gazetteer/api"
	"gazetteer/data"
	"gazetteer/master"
	"gazetteer/name"
	"gazetteer/transfer"
	"gazetteer/zone"
)

// n gives the name that a text tells.
func n(text string) string {
	wire, _, e := name.Read(text, api.Root)
	if e != api.OK {
		panic(text)
	}
	return wire
}

// list gives the records of lines of a file of ex., of age 60 where none is
// told. "SOA 7" is a line too.
func list(lines ...string) []api.Record {
	var texts []string
	for _, line := range lines {
		if serial, ok := strings.CutPrefix(line, "SOA "); ok {
			line = "@ SOA ns h " + serial + " 2 3 4 5"
		}
		texts = append(texts, line)
	}
	records, f := master.Parse("$TTL 60\n"+strings.Join(texts, "\n"), n("ex."), nil)
	if f.Code != api.OK {
		panic(texts[f.Line-2])
	}
	return records
}

// rows gives lines of their own of what stands with blanks and bars between.
func rows(text string) []string {
	if text == "" {
		return nil
	}
	return strings.Split(text, " | ")
}

func newZone(apex string, records []api.Record) *zone.Zone {
	z, at, e := zone.New(n(apex), records)
	if e != api.OK {
		panic("no zone " + apex + ": error " + strconv.Itoa(int(e)) + " of the record " + strconv.Itoa(at))
	}
	return z
}

// zoneOf gives the zone ex. of a serial, with one server, and lines.
func zoneOf(serial int, lines ...string) *zone.Zone {
	head := []string{"SOA " + strconv.Itoa(serial), "@ NS ns.org."}
	return newZone("ex.", list(append(head, lines...)...))
}

// hosts gives so many lines.
func hosts(count int) []string {
	var lines []string
	for i := range count {
		lines = append(lines, "h"+strconv.Itoa(1000+i)+" A 10.0.0.1")
	}
	return lines
}

// historyOf gives that of zones, each newer than the one ahead of it.
func historyOf(zones ...*zone.Zone) *transfer.History {
	h := transfer.NewHistory(zones[0])
	for _, z := range zones[1:] {
		if e := h.Add(z); e != api.OK {
			panic("not added: error " + strconv.Itoa(int(e)))
		}
	}
	return h
}

// whole gives what asks for all of ex.
func whole() api.Message {
	return api.Message{ID: 4711, Questions: []api.Question{{Name: n("ex."), Type: api.AXFR, Class: api.IN}}}
}

// since gives what asks for what has changed since a serial.
func since(serial int) api.Message {
	return api.Message{
		ID:        4711,
		Questions: []api.Question{{Name: n("ex."), Type: api.IXFR, Class: api.IN}},
		Authority: list("SOA " + strconv.Itoa(serial)),
	}
}

// told writes a record in one line.
func told(r api.Record) string {
	d, _ := data.Show(r.Type, r.Data)
	class := ""
	if r.Class != api.IN {
		class = "CLASS" + strconv.Itoa(r.Class) + " "
	}
	return name.Show(r.Owner) + " " + strconv.Itoa(r.TTL) + " " + class + data.TypeName(r.Type) + " " + d
}

func tell(records []api.Record) string {
	var texts []string
	for _, r := range records {
		texts = append(texts, told(r))
	}
	return strings.Join(texts, "\n")
}

func tellZone(z *zone.Zone) string {
	if z == nil {
		return "no zone"
	}
	return name.Show(z.Apex()) + ":\n" + tell(z.Records())
}

// same: do two zones have the same apex and the same records?
func same(a, b *zone.Zone) bool {
	if a == nil || b == nil {
		return a == b
	}
	return a.Apex() == b.Apex() && slices.Equal(a.Records(), b.Records())
}

// joined gives the answers of messages, one behind the other.
func joined(messages []api.Message) []api.Record {
	var row []api.Record
	for _, m := range messages {
		row = append(row, m.Answers...)
	}
	return row
}

// sizes tells how many answers each of the messages has.
func sizes(messages []api.Message) []int {
	var list []int
	for _, m := range messages {
		list = append(list, len(m.Answers))
	}
	return list
}

// sameMessage: lists that have nothing in them may be nil.
func sameMessage(a, b api.Message) bool {
	signs := func(m api.Message) [10]int {
		list := [10]int{m.ID, m.Opcode, m.Rcode}
		for i, sign := range []bool{m.Response, m.AA, m.TC, m.RD, m.RA, m.AD, m.CD} {
			if sign {
				list[3+i] = 1
			}
		}
		return list
	}
	return signs(a) == signs(b) && slices.Equal(a.Questions, b.Questions) && slices.Equal(a.Answers, b.Answers) &&
		slices.Equal(a.Authority, b.Authority) && slices.Equal(a.Additional, b.Additional)
}

// cloned gives a message that shares nothing with m.
func cloned(m api.Message) api.Message {
	m.Questions = slices.Clone(m.Questions)
	m.Answers = slices.Clone(m.Answers)
	m.Authority = slices.Clone(m.Authority)
	m.Additional = slices.Clone(m.Additional)
	return m
}

func clonedAll(messages []api.Message) []api.Message {
	var list []api.Message
	for _, m := range messages {
		list = append(list, cloned(m))
	}
	return list
}

// checkRow: the messages that answer m have just these records, sixteen in
// each but the last, and all else as the chapter says.
func checkRow(t *testing.T, what string, h *transfer.History, m api.Message, want []api.Record) {
	t.Helper()
	got := h.Answer(m)
	if row := joined(got); !slices.Equal(row, want) {
		t.Errorf("P11.3, %s:\n%s\nwanted\n%s", what, tell(row), tell(want))
		return
	}
	for i, a := range got {
		part := want[16*i : min(16*i+16, len(want))]
		full := api.Message{ID: m.ID, Response: true, AA: true, RD: m.RD, CD: m.CD, Questions: m.Questions, Answers: part}
		if len(part) == 0 || !sameMessage(a, full) {
			t.Errorf("P11.3, %s: message %d: %+v; wanted %+v", what, i, a, full)
		}
	}
	if len(got) != (len(want)+15)/16 {
		t.Errorf("P11.3, %s: parts of %v records", what, sizes(got))
	}
}
