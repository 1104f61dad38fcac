package transfer_test

import (
	"slices"
	"strconv"
	"strings"
	"testing"

	"gazetteer/api"
	"gazetteer/transfer"
	"gazetteer/zone"
)

// ask gives what Ask asks, with the ID 7.
func ask(z *zone.Zone, apex string) api.Message {
	q, e := transfer.Ask(z, apex, 7)
	if e != api.OK {
		panic(apex)
	}
	return q
}

// sent gives answers to q with a row, so many records in each.
func sent(q api.Message, row []api.Record, size int) []api.Message {
	var list []api.Message
	for part := range slices.Chunk(row, size) {
		list = append(list, api.Message{ID: q.ID, Response: true, AA: true, Questions: slices.Clone(q.Questions), Answers: slices.Clone(part)})
	}
	if list == nil {
		list = []api.Message{{ID: q.ID, Response: true, Questions: slices.Clone(q.Questions)}}
	}
	return list
}

// checkTake: what comes out, and that nothing that was handed in has changed.
func checkTake(t *testing.T, what string, z *zone.Zone, q api.Message, answers []api.Message, want *zone.Zone, code api.Errno) {
	t.Helper()
	before, question, all := tellZone(z), cloned(q), clonedAll(answers)
	y, e := transfer.Take(z, q, answers)
	if e != code || !same(y, want) {
		t.Errorf("P11.5, %s: %d, wanted %d\n%s\nwanted\n%s", what, e, code, tellZone(y), tellZone(want))
	}
	if tellZone(z) != before || !sameMessage(q, question) || !slices.EqualFunc(answers, all, sameMessage) {
		t.Errorf("P11.6, %s: what was handed in has changed", what)
	}
}

// taken: a row, and what comes out: lines of the zone, or an error.
type taken struct {
	row  string
	want string
}

// takes asks by q for rows that come in parts of several sizes.
func takes(t *testing.T, z *zone.Zone, q api.Message, cases ...taken) {
	t.Helper()
	for _, c := range cases {
		row := list(rows(c.row)...)
		want, code := wanted(q.Questions[0].Name, c.want)
		for _, size := range []int{1, 2, 3, 16, 100} {
			checkTake(t, c.row, z, q, sent(q, row, size), want, code)
		}
	}
}

// wanted reads what comes out.
func wanted(apex, text string) (*zone.Zone, api.Errno) {
	if code, err := strconv.Atoi(text); err == nil {
		return nil, api.Errno(code)
	}
	z, _, e := zone.New(apex, list(rows(text)...))
	if e != api.OK {
		panic(text)
	}
	return z, api.OK
}

// How errors are written in wanted.
const (
	outside = "5"
	form    = "8"
	end     = "10"
	trail   = "11"
	noSoa   = "15"
	noNs    = "16"
	cname   = "17"
	dname   = "18"
	twice   = "19"
	ttl     = "21"
	wild    = "22"
	none    = "28"
	old     = "30"
)

func TestTakeWhole(t *testing.T) {
	cases := []taken{
		{"", noSoa},
		{"@ NS ns", noSoa},
		{"@ NS ns | SOA 7 | SOA 7", noSoa},
		{"a SOA ns h 7 2 3 4 5 | @ NS ns | a SOA ns h 7 2 3 4 5", noSoa},
		{"org. SOA ns h 7 2 3 4 5", noSoa},
		{". SOA ns h 7 2 3 4 5", noSoa},
		{"SOA 7 | @ NS ns", end},
		{"SOA 7 | @ NS ns | SOA 7", "SOA 7 | @ NS ns"},
		{"SOA 7 | a A 10.0.0.1 | @ NS ns | SOA 7", "SOA 7 | @ NS ns | a A 10.0.0.1"},
		{"EX. SOA ns h 7 2 3 4 5 | @ NS ns | EX. SOA ns h 7 2 3 4 5", "EX. SOA ns h 7 2 3 4 5 | @ NS ns"},
		// Not the same.
		{"SOA 7 | @ NS ns | SOA 8", end},
		{"SOA 7 | @ NS ns | @ 61 SOA ns h 7 2 3 4 5", end},
		{"SOA 7 | @ NS ns | EX. SOA ns h 7 2 3 4 5", end},
		{"SOA 7 | @ NS ns | @ SOA NS h 7 2 3 4 5", end},
		// Something behind the first that is the same, whatever it is.
		{"SOA 7 | @ NS ns | SOA 7 | SOA 7", trail},
		{"SOA 7 | @ NS ns | SOA 7 | a A 10.0.0.1", trail},
		{"SOA 7 | @ NS ns | SOA 7 | a A 10.0.0.1 | SOA 7", trail},
		{"SOA 7 | @ NS ns | SOA 7 | SOA 8", trail},
		// What is no zone.
		{"SOA 7 | a A 10.0.0.1 | SOA 7", noNs},
		{"SOA 7 | @ NS ns | b.org. A 10.0.0.1 | SOA 7", outside},
		{"SOA 7 | @ NS ns | @ NS NS | SOA 7", twice},
		{"SOA 7 | @ NS ns | SOA 8 | SOA 7", noSoa},
		{"SOA 7 | @ NS ns | a SOA ns h 7 2 3 4 5 | SOA 7", noSoa},
		{"SOA 7 | @ NS ns | EX. SOA ns h 7 2 3 4 5 | SOA 7", twice},
		{"SOA 7 | @ NS ns | *.a NS ns | SOA 7", wild},
		{"SOA 7 | @ NS ns | a CNAME b | a TXT x | SOA 7", cname},
		{"SOA 7 | @ NS ns | a DNAME b | x.a TXT x | SOA 7", dname},
		{"SOA 7 | @ NS ns | a TXT x | a 61 TXT y | SOA 7", ttl},
		// Ahead of that comes how the row ends.
		{"SOA 7 | @ NS ns | @ NS NS", end},
		{"SOA 7 | @ NS ns | @ NS NS | SOA 7 | SOA 7", trail},
	}
	takes(t, nil, ask(nil, n("ex.")), cases...)
	takes(t, nil, ask(nil, n("Ex.")), cases...)
	// Who has a zone may ask for all; and be told all, whatever is asked.
	z := zoneOf(3, "old A 10.0.0.1")
	takes(t, z, ask(nil, n("ex.")), cases...)
	takes(t, z, ask(z, ""), cases...)
	takes(t, newZone("org.", list("org. SOA ns h 9 2 3 4 5", "org. NS ns")), ask(nil, n("ex.")), cases...)
	// By all that is told a second SOA is no step.
	all := []taken{
		{"SOA 7", end},
		{"SOA 7 | SOA 7", noNs},
		{"SOA 7 | SOA 7 | SOA 7", trail},
		{"SOA 7 | SOA 3 | old A 10.0.0.1 | SOA 7 | SOA 7", trail},
		{"SOA 7 | SOA 3 | @ NS ns | SOA 7", noSoa},
		{"SOA 7 | SOA 3", end},
	}
	takes(t, nil, ask(nil, n("ex.")), all...)
	takes(t, z, ask(nil, n("ex.")), all...)
}

// TestTakeMany: the most records of a zone.
func TestTakeMany(t *testing.T) {
	z := zoneOf(1, hosts(1998)...)
	q := ask(nil, n("ex."))
	row := joined(transfer.NewHistory(z).Answer(q))
	checkTake(t, "2000 records", nil, q, sent(q, row, 16), z, api.OK)
	row = slices.Insert(row, 1, list("x A 10.0.0.1")...)
	checkTake(t, "2001 records", nil, q, sent(q, row, 16), nil, api.ErrMany)
	q = ask(z, "")
	// More may stand there between two steps.
	checkTake(t, "2001 records between", z, q, sent(q, list("SOA 3", "SOA 1", "SOA 2", "x A 10.0.0.1", "SOA 2", "x A 10.0.0.1", "SOA 3", "SOA 3"), 16), zoneOf(3, hosts(1998)...), api.OK)
	checkTake(t, "2001 records by a step", z, q, sent(q, list("SOA 2", "SOA 1", "SOA 2", "x A 10.0.0.1", "SOA 2"), 16), nil, api.ErrMany)
}

// TestTakeWrongRecords: such as no file tells.
func TestTakeWrongRecords(t *testing.T) {
	z := zoneOf(1)
	soa, ns := list("SOA 7")[0], list("@ NS ns.org.")[0]
	other, young, empty := soa, ns, soa
	other.Class, young.TTL = 3, api.MaxTTL+1
	empty.Class, empty.Data = api.ClsAny, ""
	opt := api.Record{Owner: api.Root, Type: api.OPT, Class: 4096}
	for _, c := range []struct {
		what string
		row  []api.Record
		want api.Errno
		step api.Errno
	}{
		{"a SOA without data", []api.Record{empty, ns, empty}, api.ErrSoa, api.ErrSoa},
		{"a SOA of another class", []api.Record{other, ns, other}, api.ErrForm, api.ErrForm},
		{"another class at the end", []api.Record{soa, ns, other}, api.ErrEnd, api.ErrEnd},
		{"a great age", []api.Record{soa, young, soa}, api.ErrForm, api.ErrForm},
		{"no record of a zone", []api.Record{soa, ns, opt, soa}, api.ErrForm, api.ErrForm},
		{"OPT first", []api.Record{opt, soa, ns, soa}, api.ErrSoa, api.ErrSoa},
		{"a SOA without data, second", []api.Record{soa, empty, ns, soa}, api.ErrForm, api.ErrOld},
		{"a SOA without data at the end", []api.Record{soa, ns, empty}, api.ErrEnd, api.ErrEnd},
		{"a SOA without data in a step", []api.Record{soa, list("SOA 1")[0], empty, soa}, api.ErrForm, api.ErrOld},
		{"a SOA without data goes again", []api.Record{soa, list("SOA 1")[0], empty, empty, soa, soa}, api.ErrTrail, api.OK},
		{"what is no record comes", []api.Record{soa, list("SOA 1")[0], soa, opt, soa}, api.ErrTrail, api.ErrForm},
	} {
		q := ask(nil, n("ex."))
		checkTake(t, c.what, nil, q, sent(q, c.row, 16), nil, c.want)
		q = ask(z, "")
		want := (*zone.Zone)(nil)
		if c.step == api.OK {
			want = zoneOf(7)
		}
		checkTake(t, c.what+", by steps", z, q, sent(q, c.row, 16), want, c.step)
	}
}

// TestTakeAlone: the SOA alone leaves who asked what it has.
func TestTakeAlone(t *testing.T) {
	for _, c := range []struct {
		has, told int
		stays     bool
	}{
		{7, 7, true}, {7, 6, true}, {7, 8, false}, {7, 7 + half - 1, false}, {7, 7 + half, true}, {7, 8 + half, true},
		{last, 0, false}, {0, last, true}, {half, 0, true},
	} {
		z := zoneOf(c.has, "a A 10.0.0.1")
		q := ask(z, "")
		answers := sent(q, list("EX. 5 SOA other h "+strconv.Itoa(c.told)+" 0 0 0 0"), 1)
		y, e := transfer.Take(z, q, answers)
		if c.stays && (y != z || e != api.OK) || !c.stays && (y != nil || e != api.ErrEnd) {
			t.Errorf("P11.5: the SOA %d alone, to who has %d: %v, %d", c.told, c.has, y, e)
		}
		// To who asks for all it is a beginning.
		q = ask(nil, n("ex."))
		answers = sent(q, joined(answers), 1)
		checkTake(t, "the SOA alone", z, q, answers, nil, api.ErrEnd)
		checkTake(t, "the SOA alone", nil, q, answers, nil, api.ErrEnd)
	}
}

func TestTakeSteps(t *testing.T) {
	const (
		ns = " | @ NS ns.org."
		a  = " | a A 10.0.0.1"
		b  = " | b A 10.0.0.1"
		c  = " | c A 10.0.0.1"
	)
	z := zoneOf(1, "a A 10.0.0.1", "b A 10.0.0.1")
	takes(t, z, ask(z, ""),
		// No step, and steps that change nothing but the SOA.
		taken{"SOA 1 | SOA 1", "SOA 1" + ns + a + b},
		taken{"SOA 2 | SOA 1 | SOA 2 | SOA 2", "SOA 2" + ns + a + b},
		taken{"SOA 3 | SOA 1 | SOA 2 | SOA 2 | SOA 3 | SOA 3", "SOA 3" + ns + a + b},
		// What goes, what comes.
		taken{"SOA 2 | SOA 1" + a + " | SOA 2" + c + " | SOA 2", "SOA 2" + ns + b + c},
		taken{"SOA 2 | SOA 1" + b + a + " | SOA 2 | SOA 2", "SOA 2" + ns},
		taken{"SOA 3 | SOA 1" + a + " | SOA 2" + c + " | SOA 2" + c + " | SOA 3" + a + " | SOA 3", "SOA 3" + ns + a + b},
		taken{"SOA 2 | SOA 1" + a + " | SOA 2" + a + " | SOA 2", "SOA 2" + ns + a + b},
		taken{"SOA 2 | SOA 1" + a + " | SOA 2 | A 61 A 10.0.0.1 | SOA 2", "SOA 2" + ns + b + " | A 61 A 10.0.0.1"},
		// No step has to be a zone, nor newer.
		taken{"SOA 3 | SOA 1" + ns + " | a SOA . . 9 0 0 0 0 | b CNAME x | a SOA . . 9 0 0 0 0 | b CNAME x | SOA 3" + ns + " | SOA 3", "SOA 3" + ns + a + b},
		taken{"SOA 0 | SOA 1" + a + " | SOA 0 | SOA 0", "SOA 0" + ns + b},
		// Another SOA than the one that stands there.
		taken{"SOA 2 | SOA 2", old},
		taken{"SOA 2 | SOA 0 | SOA 2 | SOA 2", old},
		taken{"SOA 2 | EX. SOA ns h 1 2 3 4 5 | SOA 2 | SOA 2", old},
		taken{"SOA 2 | @ 61 SOA ns h 1 2 3 4 5 | SOA 2 | SOA 2", old},
		taken{"SOA 2 | @ SOA NS h 1 2 3 4 5 | SOA 2 | SOA 2", old},
		taken{"SOA 3 | SOA 1 | SOA 2 | SOA 1 | SOA 3 | SOA 3", old},
		taken{"SOA 3 | SOA 1 | SOA 2 | SOA 3", old},
		taken{"SOA 2 | SOA 1 | SOA 2 | EX. SOA ns h 2 2 3 4 5", old},
		taken{"SOA 2 | SOA 1 | EX. SOA ns h 2 2 3 4 5 | SOA 2", old},
		// What isn't there goes.
		taken{"SOA 2 | SOA 1" + c + " | SOA 2 | SOA 2", none},
		taken{"SOA 2 | SOA 1" + a + a + " | SOA 2 | SOA 2", none},
		taken{"SOA 2 | SOA 1 | a 61 A 10.0.0.1 | SOA 2 | SOA 2", none},
		taken{"SOA 2 | SOA 1 | A A 10.0.0.1 | SOA 2 | SOA 2", none},
		taken{"SOA 2 | SOA 1 | @ NS NS.org. | SOA 2 | SOA 2", none},
		// What is there comes.
		taken{"SOA 2 | SOA 1 | SOA 2" + a + " | SOA 2", twice},
		taken{"SOA 2 | SOA 1 | SOA 2" + c + c + " | SOA 2", twice},
		taken{"SOA 2 | SOA 1" + a + " | SOA 2" + a + a + " | SOA 2", twice},
		taken{"SOA 3 | SOA 1 | SOA 2" + c + " | SOA 2 | SOA 3" + c + " | SOA 3", twice},
		// What comes out is no zone.
		taken{"SOA 2 | SOA 1 | SOA 2 | A A 10.0.0.1 | SOA 2", twice},
		taken{"SOA 2 | SOA 1 | SOA 2 | a 61 A 10.0.0.2 | SOA 2", ttl},
		taken{"SOA 2 | SOA 1" + ns + " | SOA 2 | SOA 2", noNs},
		taken{"SOA 2 | SOA 1 | SOA 2 | b.org. A 10.0.0.1 | SOA 2", outside},
		taken{"SOA 2 | SOA 1 | SOA 2 | b CNAME c | SOA 2", cname},
	)
	// Letters, in the apex and in the SOA, stay as they are.
	z = newZone("eX.", list("Ex. 5 SOA ns h 1 2 3 4 5", "EX. NS ns", "a A 10.0.0.1"))
	takes(t, z, ask(z, ""),
		taken{"SOA 2 | Ex. 5 SOA ns h 1 2 3 4 5" + a + " | SOA 2 | SOA 2", "SOA 2 | EX. NS ns"},
		taken{"SOA 2 | ex. 5 SOA ns h 1 2 3 4 5" + a + " | SOA 2 | SOA 2", old},
	)
}

// TestTakeEnds: rows by steps that end early, trail, or repeat themselves.
func TestTakeEnds(t *testing.T) {
	const (
		ns = " | @ NS ns.org."
		a  = " | a A 10.0.0.1"
		b  = " | b A 10.0.0.1"
	)
	z := zoneOf(1, "a A 10.0.0.1")
	takes(t, z, ask(z, ""),
		taken{"SOA 2 | SOA 1", end},
		taken{"SOA 2 | SOA 1 | SOA 2", end},
		taken{"SOA 2 | SOA 1" + a, end},
		taken{"SOA 2 | SOA 1" + a + " | SOA 2", end},
		taken{"SOA 2 | SOA 1" + a + " | SOA 2" + b, end},
		taken{"SOA 2 | SOA 1 | SOA 2" + b, end},
		taken{"SOA 3 | SOA 1 | SOA 2 | SOA 2", end},
		taken{"SOA 3 | SOA 1 | SOA 2 | SOA 2 | SOA 3", end},
		// Behind the last SOA something more: it begins a step.
		taken{"SOA 2 | SOA 1 | SOA 2 | SOA 2" + a, end},
		taken{"SOA 2 | SOA 1 | SOA 2 | SOA 2" + b, none},
		taken{"SOA 2 | SOA 1 | SOA 2 | SOA 2 | SOA 2", end},
		taken{"SOA 2 | SOA 1 | SOA 2 | SOA 2 | SOA 3", end},
		taken{"SOA 2 | SOA 1 | SOA 2 | SOA 2 | SOA 2 | SOA 2", "SOA 2" + ns + a},
		taken{"SOA 2 | SOA 1 | SOA 2 | SOA 2" + a + " | SOA 3 | SOA 3", end},
		taken{"SOA 2 | SOA 1 | SOA 2 | SOA 2 | SOA 3 | SOA 2", old},
		// Through the last SOA, and back to it.
		taken{"SOA 2 | SOA 1 | SOA 2" + b + " | SOA 2" + a + " | SOA 3 | SOA 3 | SOA 2 | SOA 2", "SOA 2" + ns + b},
		taken{"SOA 1 | SOA 1" + a + " | SOA 2 | SOA 2 | SOA 1" + b + " | SOA 1", "SOA 1" + ns + b},
		taken{"SOA 1 | SOA 1" + a + " | SOA 1" + b + " | SOA 1", "SOA 1" + ns + b},
		taken{"SOA 1 | SOA 1" + a, end},
		taken{"SOA 1 | SOA 1 | SOA 1", end},
		taken{"SOA 1 | SOA 1 | SOA 1 | SOA 1", "SOA 1" + ns + a},
		// The same steps again.
		taken{"SOA 2 | SOA 1 | SOA 2 | SOA 2 | SOA 1 | SOA 2 | SOA 2", old},
		taken{"SOA 2 | SOA 1 | SOA 2 | SOA 1 | SOA 2 | SOA 2", old},
		// What is met first is told.
		taken{"SOA 2 | SOA 1" + b + " | SOA 2" + b + b, none},
		taken{"SOA 2 | SOA 1" + a + " | SOA 2" + b + b, twice},
		taken{"SOA 2 | SOA 1 | SOA 2" + a + " | SOA 3" + b, twice},
		taken{"SOA 2 | SOA 1 | SOA 2 | b.org. A 10.0.0.1 | SOA 3" + b, old},
		taken{"SOA 2 | SOA 1 | SOA 2 | b.org. A 10.0.0.1" + a + " | SOA 2", twice},
		taken{"SOA 2 | SOA 1 | SOA 2 | b.org. A 10.0.0.1", end},
		taken{"SOA 2 | SOA 3" + b, old},
	)
}

// TestTakeQuestions: which aren't asked.
func TestTakeQuestions(t *testing.T) {
	z := zoneOf(1)
	other := newZone("EX.", list("SOA 1", "@ NS ns.org."))
	for what, spoil := range map[string]func(q *api.Message){
		"ID -1":            func(q *api.Message) { q.ID = -1 },
		"ID 65536":         func(q *api.Message) { q.ID = 65536 },
		"Response":         func(q *api.Message) { q.Response = true },
		"Opcode":           func(q *api.Message) { q.Opcode = api.OpNotify },
		"AA":               func(q *api.Message) { q.AA = true },
		"TC":               func(q *api.Message) { q.TC = true },
		"RD":               func(q *api.Message) { q.RD = true },
		"RA":               func(q *api.Message) { q.RA = true },
		"AD":               func(q *api.Message) { q.AD = true },
		"CD":               func(q *api.Message) { q.CD = true },
		"Rcode":            func(q *api.Message) { q.Rcode = api.ServFail },
		"no question":      func(q *api.Message) { q.Questions = nil },
		"two questions":    func(q *api.Message) { q.Questions = append(q.Questions, q.Questions[0]) },
		"no name":          func(q *api.Message) { q.Questions[0].Name = "ex." },
		"type SOA":         func(q *api.Message) { q.Questions[0].Type = api.SOA },
		"type ANY":         func(q *api.Message) { q.Questions[0].Type = api.ANY },
		"the other type":   func(q *api.Message) { q.Questions[0].Type ^= api.AXFR ^ api.IXFR },
		"class":            func(q *api.Message) { q.Questions[0].Class = api.ClsAny },
		"answers":          func(q *api.Message) { q.Answers = list("SOA 1") },
		"additional":       func(q *api.Message) { q.Additional = list("SOA 1") },
		"OPT":              func(q *api.Message) { q.Additional = []api.Record{{Owner: api.Root, Type: api.OPT}} },
		"more authority":   func(q *api.Message) { q.Authority = append(q.Authority, list("SOA 1")...) },
		"another SOA":      func(q *api.Message) { q.Authority = list("SOA 2") },
		"its letters":      func(q *api.Message) { q.Authority = list("EX. SOA ns h 1 2 3 4 5") },
		"letters in it":    func(q *api.Message) { q.Authority = list("@ SOA NS h 1 2 3 4 5") },
		"its age":          func(q *api.Message) { q.Authority = list("@ 61 SOA ns h 1 2 3 4 5") },
		"what isn't right": func(q *api.Message) { q.Additional = []api.Record{{}} },
	} {
		for _, q := range []api.Message{ask(z, ""), ask(nil, n("ex."))} {
			spoil(&q)
			right := ask(z, "")
			checkTake(t, what, z, q, nil, nil, api.ErrForm)
			checkTake(t, what, z, q, sent(right, list("SOA 1"), 1), nil, api.ErrForm)
			checkTake(t, what, nil, q, sent(q, list("SOA 1", "@ NS ns.org.", "SOA 1"), 9), nil, api.ErrForm)
		}
	}
	// What who has another zone, or none, would ask.
	for _, has := range []*zone.Zone{nil, zoneOf(2), other, newZone("ex.", list("EX. SOA ns h 1 2 3 4 5", "@ NS ns")), newZone("ex.", list("@ 5 SOA ns h 1 2 3 4 5", "@ NS ns"))} {
		q := ask(z, "")
		checkTake(t, "another zone's", has, q, sent(q, list("SOA 1"), 1), nil, api.ErrForm)
		checkTake(t, "another zone's", has, q, nil, nil, api.ErrForm)
	}
	// Letters of the name alone.
	q := ask(z, "")
	q.Questions[0].Name = n("EX.")
	checkTake(t, "letters of the name", z, q, sent(q, list("SOA 1"), 1), nil, api.ErrForm)
	checkTake(t, "letters of the name", other, q, sent(q, list("SOA 1"), 1), other, api.OK)
	// Of another zone with the same SOA it is the same question.
	more := zoneOf(1, "a A 10.0.0.1")
	checkTake(t, "more records", more, ask(z, ""), sent(ask(z, ""), list("SOA 1"), 1), more, api.OK)
	// Lists may be empty.
	q = ask(nil, n("ex."))
	q.Answers, q.Authority, q.Additional = []api.Record{}, []api.Record{}, []api.Record{}
	checkTake(t, "empty lists", nil, q, sent(q, list("SOA 1", "@ NS ns.org.", "SOA 1"), 9), z, api.OK)
}

// TestTakeAnswers: which are none.
func TestTakeAnswers(t *testing.T) {
	for what, spoil := range map[string]func(a *api.Message){
		"no response":         func(a *api.Message) { a.Response = false },
		"another ID":          func(a *api.Message) { a.ID++ },
		"ID 65536":            func(a *api.Message) { a.ID = 65536 + 7 },
		"another Opcode":      func(a *api.Message) { a.Opcode = api.OpUpdate },
		"no question":         func(a *api.Message) { a.Questions = nil },
		"two questions":       func(a *api.Message) { a.Questions = append(a.Questions, a.Questions[0]) },
		"another name":        func(a *api.Message) { a.Questions[0].Name = n("org.") },
		"letters of the name": func(a *api.Message) { a.Questions[0].Name = n("EX.") },
		"another type":        func(a *api.Message) { a.Questions[0].Type = api.SOA },
		"the other type":      func(a *api.Message) { a.Questions[0].Type ^= api.AXFR ^ api.IXFR },
		"another class":       func(a *api.Message) { a.Questions[0].Class = 3 },
		"authority":           func(a *api.Message) { a.Authority = list("SOA 1") },
		"Rcode 16":            func(a *api.Message) { a.Rcode = 16 },
		"wrong answers":       func(a *api.Message) { a.Answers = []api.Record{{}} },
		"wrong data": func(a *api.Message) {
			a.Answers = []api.Record{{Owner: n("ex."), Type: api.SOA, Class: api.IN, Data: "x"}}
		},
		"wrong additional": func(a *api.Message) { a.Additional = []api.Record{{}} },
	} {
		eachAnswer(t, what, spoil, api.ErrForm)
	}
	for code := 1; code < 16; code++ {
		eachAnswer(t, "Rcode", func(a *api.Message) { a.Rcode = code }, api.ErrNone)
	}
	for what, spoil := range map[string]func(a *api.Message){
		"AA":         func(a *api.Message) { a.AA = !a.AA },
		"TC":         func(a *api.Message) { a.TC = true },
		"RD":         func(a *api.Message) { a.RD = true },
		"RA":         func(a *api.Message) { a.RA = true },
		"AD":         func(a *api.Message) { a.AD = true },
		"CD":         func(a *api.Message) { a.CD = true },
		"additional": func(a *api.Message) { a.Additional = list("SOA 1", "x A 10.0.0.1") },
	} {
		eachAnswer(t, what, spoil, api.OK)
	}
}

// eachAnswer spoils each of three answers.
func eachAnswer(t *testing.T, what string, spoil func(a *api.Message), code api.Errno) {
	t.Helper()
	z := zoneOf(1, "a A 10.0.0.1")
	for _, q := range []api.Message{ask(z, ""), ask(nil, n("ex."))} {
		for i := range 3 {
			answers := sent(q, list("SOA 2", "@ NS ns.org.", "SOA 2"), 1)
			spoil(&answers[i])
			want := (*zone.Zone)(nil)
			if code == api.OK {
				want = zoneOf(2)
			}
			checkTake(t, what, z, q, answers, want, code)
		}
	}
}

// TestFirstError: where several hold, in all ways.
func TestFirstError(t *testing.T) {
	z := zoneOf(1)
	for _, asked := range []api.Message{ask(z, ""), ask(nil, n("ex."))} {
		for some := range 1 << 6 {
			q, answers := cloned(asked), sent(asked, list("SOA 2", "@ NS ns.org.", "SOA 2"), 1)
			has := func(i int) bool { return some>>i&1 == 1 }
			code := api.OK
			if has(5) {
				answers[1].Answers, code = nil, api.ErrNs
			}
			if has(4) {
				answers[0].Answers, code = list("@ NS ns"), api.ErrSoa
			}
			if has(3) {
				answers[0].Rcode, code = api.Refused, api.ErrNone
			}
			if has(2) {
				answers[2].ID, code = 8, api.ErrForm
			}
			if has(1) {
				answers, code = nil, api.ErrEnd
			}
			if has(0) {
				q.RD, code = true, api.ErrForm
			}
			// What asks for a change, and is told two SOA, goes by steps.
			if code == api.ErrNs && q.Questions[0].Type == api.IXFR {
				code = api.ErrOld
			}
			want := (*zone.Zone)(nil)
			if code == api.OK {
				want = zoneOf(2)
			}
			checkTake(t, "faults "+strconv.FormatInt(int64(some), 2), z, q, answers, want, code)
		}
	}
}

// TestTakeParts: it doesn't matter how the row is parted, nor if some parts
// are empty.
func TestTakeParts(t *testing.T) {
	z := zoneOf(1, "a A 10.0.0.1")
	for _, text := range []string{"SOA 2 | SOA 1 | a A 10.0.0.1 | SOA 2 | SOA 2", "SOA 2 | @ NS ns.org. | SOA 2"} {
		q := ask(z, "")
		row := list(strings.Split(text, " | ")...)
		for cuts := range 1 << (2 * len(row)) {
			answers := sent(q, nil, 1)
			for i, r := range row {
				for range cuts >> (2 * i) & 3 {
					answers = append(answers, sent(q, nil, 1)...)
				}
				end := &answers[len(answers)-1]
				end.Answers = append(end.Answers, r)
			}
			if y, e := transfer.Take(z, q, answers); e != api.OK || !same(y, zoneOf(2)) {
				t.Fatalf("P11.5 of parts of %v: %d", sizes(answers), e)
			}
		}
	}
}
