package transfer_test

import (
	"slices"
	"strconv"
	"testing"

	"gazetteer/api"
	"gazetteer/transfer"
	"gazetteer/zone"
)

func TestAnswerExamples(t *testing.T) {
	h := historyOf(zoneOf(1), zoneOf(2, "a A 10.0.0.1"))
	row := list("SOA 2", "@ NS ns.org.", "a A 10.0.0.1", "SOA 2")
	checkRow(t, "all", h, whole(), row)
	checkRow(t, "from the newest on", h, since(2), row[:1])
	checkRow(t, "from the one before on", h, since(1), row)
}

// TestRcodes: each alone.
func TestRcodes(t *testing.T) {
	h := historyOf(zoneOf(1), zoneOf(2, "a A 10.0.0.1"))
	question := func(name string, typ, class int) api.Message {
		m := since(1)
		m.Questions[0] = api.Question{Name: n(name), Type: typ, Class: class}
		return m
	}
	authority := func(records ...api.Record) api.Message {
		m := since(1)
		m.Authority = records
		return m
	}
	soa := list("SOA 1")[0]
	empty := func(class int) api.Record { return api.Record{Owner: soa.Owner, Type: api.SOA, Class: class} }
	none, twice := since(1), since(1)
	none.Questions = nil
	twice.Questions = append(twice.Questions, twice.Questions[0])
	type row struct {
		what string
		m    api.Message
		want int
	}
	cases := []row{
		{"no question", none, api.FormErr},
		{"two questions", twice, api.FormErr},
		{"class 0", question("ex.", api.AXFR, 0), api.NotAuth},
		{"class 3", question("ex.", api.IXFR, 3), api.NotAuth},
		{"class ANY", question("ex.", api.AXFR, api.ClsAny), api.NotAuth},
		{"another name", question("org.", api.AXFR, api.IN), api.NotAuth},
		{"a name below", question("a.ex.", api.IXFR, api.IN), api.NotAuth},
		{"a name above", question(".", api.IXFR, api.IN), api.NotAuth},
		{"no authority", authority(), api.FormErr},
		{"two SOA", authority(soa, soa), api.FormErr},
		{"a SOA and more", authority(soa, list("@ NS ns")[0]), api.FormErr},
		{"no SOA", authority(list("@ NS ns")[0]), api.FormErr},
		{"data as of a SOA", authority(api.Record{Owner: soa.Owner, Type: 700, Class: api.IN, Data: soa.Data}), api.FormErr},
		{"a SOA without data, class ANY", authority(empty(api.ClsAny)), api.FormErr},
		{"a SOA without data, class 254", authority(empty(api.ClsNone)), api.FormErr},
	}
	for opcode := 1; opcode < 16; opcode++ {
		m := since(1)
		m.Opcode = opcode
		cases = append(cases, row{"Opcode " + strconv.Itoa(opcode), m, api.NotImp})
	}
	for _, typ := range []int{0, api.A, api.SOA, 250, 253, api.ANY, 256 + api.IXFR, 65535} {
		cases = append(cases, row{"type " + strconv.Itoa(typ), question("ex.", typ, api.IN), api.Refused})
	}
	for _, c := range cases {
		checkRefusal(t, c.what, h, c.m, c.want)
	}
}

// checkRefusal: one message with an Rcode, and with nothing but what all have.
func checkRefusal(t *testing.T, what string, h *transfer.History, m api.Message, code int) {
	t.Helper()
	m.RD, m.CD = true, false
	for range 2 {
		want := api.Message{ID: m.ID, Response: true, Opcode: m.Opcode, RD: m.RD, CD: m.CD, Rcode: code, Questions: m.Questions}
		if got := h.Answer(m); len(got) != 1 || !sameMessage(got[0], want) {
			t.Errorf("P11.3, %s: %+v; wanted %+v", what, got, want)
		}
		m.RD, m.CD = m.CD, m.RD
	}
}

// TestFirstRcode: where several hold, in all ways.
func TestFirstRcode(t *testing.T) {
	h := historyOf(zoneOf(1), zoneOf(2, "a A 10.0.0.1"))
	const silence = -1
	faults := []struct {
		code  int
		spoil func(m *api.Message)
	}{
		{silence, func(m *api.Message) { m.Response = true }},
		{silence, func(m *api.Message) { m.Additional = []api.Record{{Owner: "ex."}} }},
		{api.FormErr, func(m *api.Message) { m.Questions = append(m.Questions, m.Questions[0]) }},
		{api.NotImp, func(m *api.Message) { m.Opcode = api.OpUpdate }},
		{api.NotAuth, func(m *api.Message) { m.Questions[0].Class = 3 }},
		{api.NotAuth, func(m *api.Message) { m.Questions[0].Name = n("org.") }},
		{api.Refused, func(m *api.Message) { m.Questions[0].Type = api.SOA }},
		{api.FormErr, func(m *api.Message) { m.Authority = nil }},
	}
	for some := range 1 << len(faults) {
		m, code := since(1), api.NoError
		for i, f := range slices.Backward(faults) {
			if some>>i&1 == 1 {
				code = f.code
				f.spoil(&m)
			}
		}
		what := "faults " + strconv.FormatInt(int64(some), 2)
		switch code {
		case api.NoError:
			checkRow(t, what, h, m, list("SOA 2", "@ NS ns.org.", "a A 10.0.0.1", "SOA 2"))
		case silence:
			if got := h.Answer(m); len(got) != 0 {
				t.Errorf("P11.3, %s: %+v; wanted nothing", what, got)
			}
		default:
			checkRefusal(t, what, h, m, code)
		}
	}
}

// TestNoAnswer: to what is no message.
func TestNoAnswer(t *testing.T) {
	h := transfer.NewHistory(zoneOf(1))
	for what, spoil := range map[string]func(m *api.Message){
		"Response":   func(m *api.Message) { m.Response = true },
		"ID -1":      func(m *api.Message) { m.ID = -1 },
		"ID 65536":   func(m *api.Message) { m.ID = 65536 },
		"Opcode 16":  func(m *api.Message) { m.Opcode = 16 },
		"Rcode 16":   func(m *api.Message) { m.Rcode = 16 },
		"no name":    func(m *api.Message) { m.Questions[0].Name = "ex." },
		"type 65536": func(m *api.Message) { m.Questions[0].Type = 65536 },
		"class -1":   func(m *api.Message) { m.Questions[0].Class = -1 },
		"wrong SOA": func(m *api.Message) {
			m.Authority = []api.Record{{Owner: n("ex."), Type: api.SOA, Class: api.IN, Data: "x"}}
		},
		"no data":     func(m *api.Message) { m.Authority = []api.Record{{Owner: n("ex."), Type: api.SOA, Class: api.IN}} },
		"no owner":    func(m *api.Message) { m.Answers = []api.Record{{Type: 700}} },
		"TTL 2 to 32": func(m *api.Message) { m.Authority[0].TTL = last + 1 },
	} {
		m := since(1)
		spoil(&m)
		if got := h.Answer(m); len(got) != 0 {
			t.Errorf("P11.3, %s: %+v; wanted nothing", what, got)
		}
	}
}

// TestSigns: which of a question's are answered, and what isn't looked at.
func TestSigns(t *testing.T) {
	h := historyOf(zoneOf(1), zoneOf(2, hosts(20)...))
	row := joined(h.Answer(whole()))
	for signs := range 1 << 6 {
		for _, m := range []api.Message{whole(), since(1), since(2)} {
			m.AA, m.TC, m.RD = signs&1 != 0, signs&2 != 0, signs&4 != 0
			m.RA, m.AD, m.CD = signs&8 != 0, signs&16 != 0, signs&32 != 0
			m.ID, m.Rcode = signs*1000, signs%16
			m.Questions[0].Name = n([]string{"ex.", "Ex.", "EX."}[signs%3])
			m.Answers, m.Additional = list("SOA 1", "a A 10.0.0.1"), list("SOA 2")
			want := row
			if len(m.Authority) > 0 && m.Authority[0] == row[0] {
				want = row[:1]
			}
			checkRow(t, "signs", h, m, want)
		}
	}
	m := whole()
	m.Authority = list("SOA 2", "SOA 2", "a A 10.0.0.1")
	checkRow(t, "AXFR with an authority", h, m, row)
}

// TestSerialAlone: of the SOA in the authority nothing else counts.
func TestSerialAlone(t *testing.T) {
	h := historyOf(zoneOf(1, hosts(9)...), zoneOf(2, hosts(8)...))
	want := list("SOA 2", "SOA 1", "h1008 A 10.0.0.1", "SOA 2", "SOA 2")
	for _, line := range []string{"SOA 1", "@ 0 SOA a b 1 9 9 9 9", "x.org. SOA . . 1 0 0 0 0"} {
		m := since(1)
		m.Authority = list(line)
		checkRow(t, line, h, m, want)
		m.Authority[0].Class, m.Authority[0].TTL = 3, last
		checkRow(t, line+" of another class", h, m, want)
		m.Authority[0].Class = api.ClsAny
		checkRow(t, line+" of class 255", h, m, want)
	}
}

// TestWholeRow: the SOA first, and not where it stands in the zone.
func TestWholeRow(t *testing.T) {
	h := transfer.NewHistory(zoneOf(7, "b 5 A 10.0.0.2", "B 5 A 10.0.0.1", "@ TXT x", "@ A 10.0.0.3", "x.a MX 1 A", "*.a TXT y", "@ TYPE700 \\# 0"))
	checkRow(t, "all", h, whole(), list("SOA 7", "@ A 10.0.0.3", "@ NS ns.org.", "@ TXT x", "@ TYPE700 \\# 0",
		"*.a TXT y", "x.a MX 1 A", "B 5 A 10.0.0.1", "b 5 A 10.0.0.2", "SOA 7"))
	checkRow(t, "least", transfer.NewHistory(zoneOf(7)), whole(), list("SOA 7", "@ NS ns.org.", "SOA 7"))
}

// TestParts: rows up to several messages, of whole zones and by steps.
func TestParts(t *testing.T) {
	for size := 3; size <= 70; size++ {
		h := historyOf(zoneOf(1), zoneOf(2, hosts(size-3)...))
		got := sizes(h.Answer(whole()))
		var want []int
		for rest := size; rest > 0; rest -= 16 {
			want = append(want, min(rest, 16))
		}
		if !slices.Equal(got, want) {
			t.Errorf("P11.3: a zone's row of %d: parts of %v, wanted %v", size, got, want)
		}
		if size < 4 {
			continue
		}
		h = historyOf(zoneOf(1, hosts(200)...), zoneOf(2, hosts(200-(size-4))...))
		if got := sizes(h.Answer(since(1))); !slices.Equal(got, want) {
			t.Errorf("P11.3: a row by steps of %d: parts of %v, wanted %v", size, got, want)
		}
	}
	if got := sizes(transfer.NewHistory(zoneOf(1)).Answer(since(1))); !slices.Equal(got, []int{1}) {
		t.Errorf("P11.3: the SOA alone: parts of %v", got)
	}
	if got := h2000().Answer(whole()); len(got) != 126 || len(got[125].Answers) != 1 {
		t.Errorf("P11.3: of the greatest zone %d messages", len(got))
	}
}

func h2000() *transfer.History { return transfer.NewHistory(zoneOf(1, hosts(1998)...)) }

// TestSteps: what goes and what comes.
func TestSteps(t *testing.T) {
	same := hosts(20)
	stand := func(serial int, lines ...string) *zone.Zone { return zoneOf(serial, append(lines, same...)...) }
	for _, c := range []struct {
		what     string
		old, new []string
		want     []string
	}{
		{"nothing", nil, nil, []string{"SOA 2", "SOA 1", "SOA 2", "SOA 2"}},
		{"one comes", nil, []string{"a TXT x"}, []string{"SOA 2", "SOA 1", "SOA 2", "a TXT x", "SOA 2"}},
		{"one goes", []string{"a TXT x"}, nil, []string{"SOA 2", "SOA 1", "a TXT x", "SOA 2", "SOA 2"}},
		{"ages", []string{"a TXT x"}, []string{"a 61 TXT x"}, []string{"SOA 2", "SOA 1", "a TXT x", "SOA 2", "a 61 TXT x", "SOA 2"}},
		{"letters of owners", []string{"a TXT x"}, []string{"A TXT x"}, []string{"SOA 2", "SOA 1", "a TXT x", "SOA 2", "A TXT x", "SOA 2"}},
		{"letters of data", []string{"a MX 1 m"}, []string{"a MX 1 M"}, []string{"SOA 2", "SOA 1", "a MX 1 m", "SOA 2", "a MX 1 M", "SOA 2"}},
		{"types", []string{"a TYPE700 \\# 0"}, []string{"a TYPE701 \\# 0"}, []string{"SOA 2", "SOA 1", "a TYPE700 \\# 0", "SOA 2", "a TYPE701 \\# 0", "SOA 2"}},
		{"in order", []string{"z TXT x", "b TXT y", "b TXT x", "a TXT x", "b A 10.0.0.1"}, []string{"b TXT x", "@ TXT x", "y A 10.0.0.2", "y A 10.0.0.1", "@ A 10.0.0.1"},
			[]string{"SOA 2", "SOA 1", "a TXT x", "b A 10.0.0.1", "b TXT y", "z TXT x", "SOA 2", "@ A 10.0.0.1", "@ TXT x", "y A 10.0.0.1", "y A 10.0.0.2", "SOA 2"}},
	} {
		checkRow(t, c.what, historyOf(stand(1, c.old...), stand(2, c.new...)), since(1), list(c.want...))
	}
	// One step behind the other; what goes in one may come again in the next.
	zones := []*zone.Zone{stand(1, "a TXT x"), stand(5, "b TXT x"), stand(6, "a TXT x", "b TXT x"), stand(9)}
	h := historyOf(zones...)
	want := list("SOA 9", "SOA 1", "a TXT x", "SOA 5", "b TXT x", "SOA 5", "SOA 6", "a TXT x", "SOA 6", "a TXT x", "b TXT x", "SOA 9", "SOA 9")
	checkRow(t, "three steps", h, since(1), want)
	checkRow(t, "two steps", h, since(5), append(list("SOA 9"), want[5:]...))
	checkRow(t, "one step", h, since(6), append(list("SOA 9"), want[8:]...))
	// The SOA as they stand.
	old := newZone("ex.", append(list("EX. 5 SOA a b 1 1 1 1 1", "@ NS ns.org."), list(same...)...))
	h = historyOf(old, stand(2))
	soa := list("EX. 5 SOA a b 1 1 1 1 1")[0]
	checkRow(t, "other SOA", h, since(1), []api.Record{list("SOA 2")[0], soa, list("SOA 2")[0], list("SOA 2")[0]})
}

// TestLength: by steps, unless that is longer.
func TestLength(t *testing.T) {
	for others := 2; others <= 20; others++ {
		for changes := range others {
			h := historyOf(zoneOf(1, hosts(others-1-changes)...), zoneOf(2, hosts(others-1)...))
			size := len(joined(h.Answer(since(1))))
			if steps, all := changes+4, others+2; size != min(steps, all) {
				t.Errorf("P11.3: %d records come to %d: %d records are told", changes, others, size)
			}
		}
	}
	lines := []string{"a A 10.0.0.1", "b A 10.0.0.1"}
	just := historyOf(zoneOf(1, lines[0]), zoneOf(2, lines...))
	checkRow(t, "just as long", just, since(1), list("SOA 2", "SOA 1", "SOA 2", "b A 10.0.0.1", "SOA 2"))
	longer := historyOf(zoneOf(1), zoneOf(2, lines...))
	checkRow(t, "longer", longer, since(1), list("SOA 2", "@ NS ns.org.", "a A 10.0.0.1", "b A 10.0.0.1", "SOA 2"))
	// What goes counts, too.
	goes := historyOf(zoneOf(1, "a A 10.0.0.1", "b A 10.0.0.1", "c A 10.0.0.1"), zoneOf(2, "a A 10.0.0.1"))
	checkRow(t, "longer by what goes", goes, since(1), list("SOA 2", "@ NS ns.org.", "a A 10.0.0.1", "SOA 2"))
}

// TestOneSerial: the last zone that has it; and serials that aren't kept.
func TestOneSerial(t *testing.T) {
	stand := func(serial int, line string) *zone.Zone { return zoneOf(serial, append(hosts(30), line)...) }
	h := historyOf(stand(5, "a TXT x"), stand(5+half-1, "b TXT x"), stand(3, "c TXT x"), stand(5, "d TXT x"), stand(6, "e TXT x"))
	all := joined(h.Answer(whole()))
	checkRow(t, "the last of two", h, since(5), list("SOA 6", "SOA 5", "d TXT x", "SOA 6", "e TXT x", "SOA 6"))
	checkRow(t, "one that was between", h, since(3), list("SOA 6", "SOA 3", "c TXT x", "SOA 5", "d TXT x", "SOA 5", "d TXT x", "SOA 6", "e TXT x", "SOA 6"))
	for serial, want := range map[int][]api.Record{
		6: all[:1], 7: all[:1], 6 + half - 1: all[:1], 6 + half: all[:1],
		7 + half: all, 4: all, 2: all, 0: all, last: all,
	} {
		checkRow(t, "from "+strconv.Itoa(serial)+" on", h, since(serial), want)
	}
	// It is kept, but the newest isn't newer any more.
	h = historyOf(stand(1, "a TXT x"), stand(half, "b TXT x"), stand(last, "c TXT x"))
	checkRow(t, "a kept one that isn't older", h, since(1), list("SOA "+strconv.Itoa(last)))
}

// TestAnswerIsNew: what is done with answers and questions isn't seen later.
func TestAnswerIsNew(t *testing.T) {
	h := historyOf(zoneOf(1, hosts(40)...), zoneOf(2, hosts(19)...))
	for _, m := range []api.Message{whole(), since(1), since(0), since(2), {ID: 1, Questions: make([]api.Question, 2)}} {
		if len(m.Questions) == 2 {
			m.Questions[0].Name, m.Questions[1].Name = n("a."), n("b.")
		}
		room := make([]api.Question, 9)
		copy(room, m.Questions)
		m.Questions = room[:len(m.Questions)]
		before, got := cloned(m), h.Answer(m)
		kept := clonedAll(got)
		if len(got) == 0 {
			t.Fatal("P11.3: no answer")
		}
		spoil(got[0])
		for i, a := range got[1:] {
			if !sameMessage(a, kept[i+1]) {
				t.Errorf("P2: two messages share memory: %+v", a)
			}
			spoil(a)
		}
		if !sameMessage(m, before) || room[8] != (api.Question{}) || !slices.EqualFunc(h.Answer(m), kept, sameMessage) {
			t.Errorf("P2: what Answer gives isn't new memory: %+v", m)
		}
	}
}

// spoil writes over all that is handed out, and over the room behind it.
func spoil(m api.Message) {
	questions := m.Questions[:cap(m.Questions)]
	for i := range questions {
		questions[i] = api.Question{Name: "spoiled"}
	}
	for _, part := range [][]api.Record{m.Answers, m.Authority, m.Additional} {
		part = part[:cap(part)]
		for i := range part {
			part[i] = api.Record{Owner: "spoiled"}
		}
	}
}

func TestAsk(t *testing.T) {
	z := newZone("Ex.", list("eX. 5 SOA ns h 7 2 3 4 5", "@ NS ns"))
	for _, id := range []int{0, 1, 4711, 65535} {
		for _, apex := range []string{"ex.", "EX.", ".", "a.b.org."} {
			want := api.Message{ID: id, Questions: []api.Question{{Name: n(apex), Type: api.AXFR, Class: api.IN}}}
			if got, e := transfer.Ask(nil, n(apex), id); e != api.OK || !sameMessage(got, want) {
				t.Errorf("P11.4 Ask(nil, %s, %d) = %+v, %d", apex, id, got, e)
			}
		}
		for _, apex := range []string{"", n("ex."), n("org."), "org.", "\x00\x00"} {
			want := api.Message{ID: id, Questions: []api.Question{{Name: n("Ex."), Type: api.IXFR, Class: api.IN}}, Authority: list("eX. 5 SOA ns h 7 2 3 4 5")}
			if got, e := transfer.Ask(z, apex, id); e != api.OK || !sameMessage(got, want) {
				t.Errorf("P11.4 Ask(z, %q, %d) = %+v, %d", apex, id, got, e)
			}
		}
	}
	for _, c := range []struct {
		z    *zone.Zone
		apex string
		id   int
		want api.Errno
	}{
		{nil, "", 0, api.ErrName}, {nil, "ex.", 0, api.ErrName}, {nil, n("ex.") + "\x00", 0, api.ErrName}, {nil, "\x02ex", 0, api.ErrName},
		{nil, "", -1, api.ErrName}, {nil, "ex.", 65536, api.ErrName},
		{nil, n("ex."), -1, api.ErrArg}, {nil, n("ex."), 65536, api.ErrArg},
		{z, n("ex."), -1, api.ErrArg}, {z, "", 65536, api.ErrArg}, {z, "ex.", 1 << 40, api.ErrArg},
	} {
		if got, e := transfer.Ask(c.z, c.apex, c.id); e != c.want || !sameMessage(got, api.Message{}) {
			t.Errorf("P11.4 Ask(%v, %q, %d) = %+v, %d; wanted %d", c.z != nil, c.apex, c.id, got, e, c.want)
		}
	}
	q, _ := transfer.Ask(z, "", 7)
	spoil(q)
	if again, _ := transfer.Ask(z, "", 7); again.Authority[0].TTL != 5 || z.Set(n("ex."), api.SOA)[0].TTL != 5 {
		t.Error("P2: what Ask gives isn't new memory")
	}
}
