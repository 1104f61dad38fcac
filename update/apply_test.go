package update_test

import (
	"strconv"
	"strings"
	"testing"

	"gazetteer/api"
	"gazetteer/data"
	"gazetteer/update"
	"gazetteer/zone"
)

// row: a zone of the serial 7, changes of it, and the zone that comes out, of
// the serial 8; lines with ";" between. Where nothing is to come out, nothing
// has changed.
type row struct{ before, changes, after string }

func lines(text string) []string {
	if text == "" {
		return nil
	}
	return strings.Split(text, ";")
}

func checkRows(t *testing.T, rows []row) {
	t.Helper()
	for _, c := range rows {
		z := plain(lines(c.before)...)
		want := z
		if c.after != "as it was" {
			want = serialed(8, lines(c.after)...)
		}
		checkApply(t, z, changes(lines(c.changes)...), want)
	}
}

func TestAdd(t *testing.T) {
	checkRows(t, []row{
		{"", "", "as it was"},
		{"", "+ new.ex. 60 A 10.0.0.1", "new A 10.0.0.1"},
		{"", "+ ex. 60 A 10.0.0.1;+ ex. 60 MX 1 a", "@ A 10.0.0.1;@ MX 1 a"},
		{"a A 10.0.0.1", "+ a.ex. 60 A 10.0.0.1", "as it was"},
		{"a A 10.0.0.1", "+ a.ex. 60 A 10.0.0.2", "a A 10.0.0.1;a A 10.0.0.2"},
		{"a TXT x", "+ a.ex. 60 TXT X", "a TXT x;a TXT X"},
		// One that is like it goes: letters and ages are the new one's.
		{"a A 10.0.0.1", "+ A.ex. 60 A 10.0.0.1", "A A 10.0.0.1"},
		{"a MX 1 b", "+ a.ex. 60 MX 1 B", "a MX 1 B"},
		{"a A 10.0.0.1", "+ a.ex. 61 A 10.0.0.1", "a 61 A 10.0.0.1"},
		{"a A 10.0.0.1;A A 10.0.0.2;b A 10.0.0.1;a MX 1 b", "+ a.ex. 5 A 10.0.0.3", "a 5 A 10.0.0.1;A 5 A 10.0.0.2;a 5 A 10.0.0.3;b A 10.0.0.1;a MX 1 b"},
		{"a A 10.0.0.1;a A 10.0.0.2", "+ A.EX. 5 A 10.0.0.2", "a 5 A 10.0.0.1;A.EX. 5 A 10.0.0.2"},
		{"", "+ a.ex. 5 A 10.0.0.1;+ a.ex. 6 A 10.0.0.2;+ a.ex. 7 A 10.0.0.1", "a 7 A 10.0.0.1;a 7 A 10.0.0.2"},
		{"", "+ a.ex. 5 A 10.0.0.1;+ A.ex. 6 A 10.0.0.1", "A 6 A 10.0.0.1"},
		// What changes there and back hasn't changed.
		{"a A 10.0.0.1", "+ A.ex. 5 A 10.0.0.1;+ a.ex. 60 A 10.0.0.1", "as it was"},
		{"a A 10.0.0.1", "+ a.ex. 60 A 10.0.0.2;- a.ex. A 10.0.0.2", "as it was"},
		{"a A 10.0.0.1", "+ a.ex. 61 A 10.0.0.2;- a.ex. A 10.0.0.2", "a 61 A 10.0.0.1"},
		{"a A 10.0.0.1", "= a.ex. ANY;+ a.ex. 60 A 10.0.0.1", "as it was"},
		// NS at the apex, and below.
		{"", "+ ex. 60 NS ns", "@ NS ns"},
		{"", "+ b.ex. 60 NS ns.b;+ ns.b.ex. 60 A 10.0.0.1", "b NS ns.b;ns.b A 10.0.0.1"},
		{"", "+ a.ex. 60 TYPE700 \\# 0", "a TYPE700 \\# 0"},
		{"d DNAME x", "+ D.ex. 60 DNAME X.ex.", "D DNAME X.ex."},
	})
	checkApply(t, plain(), changes("+ Ex. 9 NS NS.org."), newZone("ex.", list("ex.", "@ SOA ns h 8 2 3 4 5", "Ex. 9 NS NS.org.")))
}

// TestSignatures: RRSIG have ages of their own.
func TestSignatures(t *testing.T) {
	sig := func(age, from string) string { return age + " RRSIG A 253 2 60 99 " + from + " 7 ex. AAAA" }
	checkRows(t, []row{
		{"a " + sig("60", "1") + ";a " + sig("70", "2"), "+ a.ex. " + sig("80", "3"), "a " + sig("60", "1") + ";a " + sig("70", "2") + ";a " + sig("80", "3")},
		{"a " + sig("60", "1") + ";a " + sig("70", "2"), "+ a.ex. " + sig("80", "2"), "a " + sig("60", "1") + ";a " + sig("80", "2")},
		{"a " + sig("60", "1") + ";a " + sig("70", "2"), "+ a.ex. " + sig("60", "1") + ";+ A.ex. " + sig("70", "2"), "a " + sig("60", "1") + ";A " + sig("70", "2")},
		{"a " + sig("60", "1") + ";a " + sig("70", "2"), "+ a.ex. " + sig("60", "1"), "as it was"},
		{"a " + sig("60", "1") + ";a " + sig("70", "2"), "- a.ex. RRSIG A 253 2 60 99 1 7 Ex. AAAA", "a " + sig("70", "2")},
	})
}

func TestAlias(t *testing.T) {
	sig := "RRSIG CNAME 253 2 60 99 1 7 ex. AAAA"
	checkRows(t, []row{
		{"", "+ a.ex. 60 CNAME b", "a CNAME b"},
		{"a CNAME b", "+ a.ex. 60 CNAME b", "as it was"},
		{"a CNAME b", "+ a.ex. 60 CNAME c", "a CNAME c"},
		{"a CNAME b", "+ A.ex. 70 CNAME B", "A 70 CNAME B"},
		{"a CNAME b", "+ a.ex. 60 CNAME c;+ a.ex. 60 CNAME b", "as it was"},
		{"a A 10.0.0.1", "+ a.ex. 60 CNAME b", "as it was"},
		{"a TXT x", "+ A.EX. 60 CNAME b", "as it was"},
		{"a NSEC3 1 0 0 - 00 A", "+ a.ex. 60 CNAME b", "as it was"},
		{"", "+ ex. 60 CNAME b", "as it was"},
		{"x.a A 10.0.0.1", "+ a.ex. 60 CNAME b", "x.a A 10.0.0.1;a CNAME b"},
		{"a " + sig, "+ a.ex. 60 CNAME b", "a " + sig + ";a CNAME b"},
		{"a NSEC ex. CNAME", "+ a.ex. 60 CNAME b", "a NSEC ex. CNAME;a CNAME b"},
		{"a NSEC ex. A;a A 10.0.0.1", "+ a.ex. 60 CNAME b", "as it was"},
		{"a A 10.0.0.1", "= a.ex. A;+ a.ex. 60 CNAME b", "a CNAME b"},
		{"a A 10.0.0.1", "- a.ex. A 10.0.0.1;+ a.ex. 60 CNAME b", "a CNAME b"},
		{"a A 10.0.0.1;a A 10.0.0.2", "- a.ex. A 10.0.0.1;+ a.ex. 60 CNAME b", "a A 10.0.0.2"},
		// Beside one that stands there.
		{"a CNAME b", "+ a.ex. 60 A 10.0.0.1", "as it was"},
		{"a CNAME b", "+ A.ex. 60 TXT x", "as it was"},
		{"a CNAME b", "+ a.ex. 60 NSEC3 1 0 0 - 00 A", "as it was"},
		{"a CNAME b", "+ a.ex. 60 " + sig, "a CNAME b;a " + sig},
		{"a CNAME b", "+ a.ex. 60 NSEC ex. CNAME", "a CNAME b;a NSEC ex. CNAME"},
		{"a CNAME b", "+ x.a.ex. 60 A 10.0.0.1", "a CNAME b;x.a A 10.0.0.1"},
		{"a CNAME b", "+ a.ex. 60 A 10.0.0.1;= a.ex. CNAME;+ a.ex. 60 A 10.0.0.2", "a A 10.0.0.2"},
		{"a CNAME b", "- a.ex. CNAME c;+ a.ex. 60 A 10.0.0.1", "as it was"},
		{"a CNAME b", "- a.ex. CNAME B;+ a.ex. 60 A 10.0.0.1", "a A 10.0.0.1"},
		{"", "+ a.ex. 60 CNAME b;+ a.ex. 60 A 10.0.0.1;+ a.ex. 60 CNAME c", "a CNAME c"},
	})
}

func TestRemove(t *testing.T) {
	many := "a A 10.0.0.1;A A 10.0.0.2;a MX 1 b;b A 10.0.0.1;x.a A 10.0.0.1"
	checkRows(t, []row{
		{many, "= a.ex. A", "a MX 1 b;b A 10.0.0.1;x.a A 10.0.0.1"},
		{many, "= A.EX. MX", "a A 10.0.0.1;A A 10.0.0.2;b A 10.0.0.1;x.a A 10.0.0.1"},
		{many, "= a.ex. TXT", "as it was"},
		{many, "= c.ex. ANY", "as it was"},
		{many, "= a.ex. ANY", "b A 10.0.0.1;x.a A 10.0.0.1"},
		{many, "- a.ex. A 10.0.0.2", "a A 10.0.0.1;a MX 1 b;b A 10.0.0.1;x.a A 10.0.0.1"},
		{many, "- A.ex. MX 1 B", "a A 10.0.0.1;A A 10.0.0.2;b A 10.0.0.1;x.a A 10.0.0.1"},
		{many, "- a.ex. A 10.0.0.3", "as it was"},
		{many, "- a.ex. MX 2 b", "as it was"},
		{many, "- c.ex. A 10.0.0.1", "as it was"},
		{many, "- a.ex. A 10.0.0.1;- a.ex. A 10.0.0.2;- a.ex. MX 1 b;- b.ex. A 10.0.0.1;= x.a.ex. A", ""},
		{"a CNAME b;a NSEC ex. CNAME", "= a.ex. CNAME", "a NSEC ex. CNAME"},
		{"a CNAME b;a NSEC ex. CNAME", "= a.ex. ANY", ""},
		{"b NS c;b NS d", "= b.ex. NS", ""},
		{"b NS c", "- b.ex. NS c", ""},
	})
}

// TestApex: SOA and NS of the apex stay.
func TestApex(t *testing.T) {
	checkRows(t, []row{
		{"@ A 10.0.0.1;@ TXT x", "= ex. ANY", ""},
		{"@ A 10.0.0.1;@ NS b", "= EX. ANY", "@ NS b"},
		{"@ A 10.0.0.1", "= ex. SOA", "as it was"},
		{"@ A 10.0.0.1", "= ex. NS", "as it was"},
		{"@ NS b", "= Ex. NS", "as it was"},
		{"", "= ex. ANY;= ex. SOA;= ex. NS", "as it was"},
		{"", "- ex. SOA ns h 7 2 3 4 5", "as it was"},
		{"", "- ex. NS ns.org.", "as it was"},
		{"", "- Ex. NS NS.org.", "as it was"},
		{"@ NS b", "- ex. NS B", ""},
		{"@ NS b", "- ex. NS b;- ex. NS ns.org.", ""},
		{"@ NS b", "- ex. NS c;- ex. NS b;+ ex. 60 NS c", "@ NS c"},
	})
	one := newZone("ex.", list("ex.", "@ SOA ns h 8 2 3 4 5", "@ NS b"))
	checkApply(t, plain("@ NS b"), changes("- ex. NS ns.org.", "- ex. NS b"), one)
	checkApply(t, plain(), changes("+ ex. 60 NS b", "- ex. NS ns.org."), one)
}

// TestSerial: which serial takes another's place, and which comes next.
func TestSerial(t *testing.T) {
	for _, c := range []struct {
		before int
		given  string // serials of SOA that are put there
		more   string
		want   int
	}{
		{7, "", "+ a.ex. 60 A 10.0.0.1", 8},
		{0, "", "+ a.ex. 60 A 10.0.0.1", 1},
		{2147483647, "", "+ a.ex. 60 A 10.0.0.1", 2147483648},
		{4294967294, "", "+ a.ex. 60 A 10.0.0.1", 4294967295},
		{4294967295, "", "+ a.ex. 60 A 10.0.0.1", 1},
		{7, "8", "", 8},
		{7, "7", "", 7},
		{7, "6", "", 7},
		{7, "100", "+ a.ex. 60 A 10.0.0.1", 100},
		{7, "6", "+ a.ex. 60 A 10.0.0.1", 8},
		{7, "7", "+ a.ex. 60 A 10.0.0.1", 8},
		{7, "2147483654", "", 2147483654},
		{7, "2147483655", "", 7},
		{7, "2147483656", "", 7},
		{0, "2147483647", "", 2147483647},
		{0, "2147483648", "", 0},
		{0, "4294967295", "", 0},
		{4294967295, "0", "", 0},
		{4294967295, "1", "+ a.ex. 60 A 10.0.0.1", 1},
		{4294967295, "2147483646", "", 2147483646},
		{4294967295, "2147483647", "", 4294967295},
		{4294967295, "4294967294", "", 4294967295},
		{7, "9 8", "", 9},
		{7, "8 9", "", 9},
		{7, "2147483654 4294967290", "", 4294967290},
		// Round to what it was.
		{7, "2147483654 4294967290 7", "+ a.ex. 60 A 10.0.0.1", 8},
		{7, "2147483654 4294967290 7", "", 7},
	} {
		m := changes()
		for _, serial := range strings.Fields(c.given) {
			m.Authority = append(m.Authority, part("+ ex. 60 SOA ns h "+serial+" 2 3 4 5"))
		}
		var more []string
		if c.more != "" {
			m.Authority = append(m.Authority, part(c.more))
			more = []string{"a A 10.0.0.1"}
		}
		checkApply(t, serialed(c.before), m, serialed(c.want, more...))
	}
}

// TestStart: what a SOA takes with it.
func TestStart(t *testing.T) {
	other := newZone("ex.", list("ex.", "EX. 5 SOA a b 9 1 1 1 1", "@ NS ns.org."))
	checkApply(t, plain(), changes("+ EX. 5 SOA a b 9 1 1 1 1"), other)
	// As new as it was, or not at the apex: nothing of it.
	checkRows(t, []row{
		{"", "+ ex. 5 SOA a b 7 1 1 1 1", "as it was"},
		{"", "+ EX. 60 SOA ns h 7 2 3 4 5", "as it was"},
		{"", "+ a.ex. 5 SOA a b 9 1 1 1 1", "as it was"},
		{"a A 10.0.0.1", "+ a.ex. 5 SOA a b 9 1 1 1 1;= a.ex. ANY", ""},
	})
	// Round to the serial that it was, with other data: one more.
	m := changes("+ ex. 60 SOA ns h 2147483654 2 3 4 5", "+ ex. 60 SOA ns h 4294967290 2 3 4 5", "+ ex. 60 SOA x h 7 2 3 4 5")
	checkApply(t, plain(), m, newZone("ex.", list("ex.", "@ SOA x h 8 2 3 4 5", "@ NS ns.org.")))
}

func TestRefused(t *testing.T) {
	for _, c := range [][2]string{
		{"", "+ *.ex. 60 NS ns"},
		{"", "+ *.a.ex. 60 DNAME b"},
		{"", "+ ex. 60 DNAME b"},
		{"d DNAME a", "+ x.d.ex. 60 A 10.0.0.1"},
		{"d DNAME a", "+ d.ex. 60 DNAME b"},
		{"x.d A 10.0.0.1", "+ d.ex. 60 DNAME b"},
		{"a A 10.0.0.1", "+ b.ex. 60 A 10.0.0.1;= a.ex. A;+ *.ex. 60 NS ns"},
	} {
		z := plain(lines(c[0])...)
		if y, code := update.Apply(z, changes(lines(c[1])...)); y != nil || code != api.Refused {
			t.Errorf("P10.2 of %q, %q: Apply = %v, %d", c[0], c[1], y, code)
		}
		if code := update.Check(z, changes(lines(c[1])...)); code != api.NoError {
			t.Errorf("P10.1 of %q, %q: Check = %d", c[0], c[1], code)
		}
	}
	// What makes no zone may go again ahead of the end.
	checkRows(t, []row{
		{"", "+ *.ex. 60 NS ns;= *.ex. NS", "as it was"},
		{"d DNAME a", "+ x.d.ex. 60 A 10.0.0.1;= d.ex. DNAME", "x.d A 10.0.0.1"},
		{"d DNAME a", "+ d.ex. 60 DNAME b;- d.ex. DNAME a", "d DNAME b"},
	})
	// A type that isn't one of data.
	m := changes()
	m.Authority = []api.Record{{Owner: n("a.ex."), Type: api.OPT, Class: api.IN, Data: "x"}}
	if y, code := update.Apply(plain(), m); y != nil || code != api.Refused {
		t.Errorf("P10.2 of OPT: Apply = %v, %d", y, code)
	}
	m.Authority = append(m.Authority, part("+ a.ex. 60 CNAME b"), part("= a.ex. ANY"))
	checkApply(t, plain(), m, plain())
	checkApply(t, plain("a CNAME b"), api.Message{Opcode: 5, Questions: m.Questions, Authority: m.Authority[:1]}, plain("a CNAME b"))
}

// TestRoom: a zone may be full, and for a while more than that.
func TestRoom(t *testing.T) {
	z := full(api.MaxRecords)
	if y, code := update.Apply(z, changes("+ z.ex. 60 A 10.0.0.1")); y != nil || code != api.Refused {
		t.Errorf("P10.2: one too many: %v, %d", y, code)
	}
	y, code := update.Apply(z, changes("+ z.ex. 60 A 10.0.0.1", "= a9.ex. A"))
	if code != api.NoError || len(y.Records()) != api.MaxRecords || len(y.Set(n("z.ex."), api.A)) != 1 || y.Serial() != 8 {
		t.Errorf("P10.2: one in another's place: %d", code)
	}
	y, code = update.Apply(full(api.MaxRecords-1), changes("+ z.ex. 60 A 10.0.0.1"))
	if code != api.NoError || len(y.Records()) != api.MaxRecords {
		t.Errorf("P10.2: the last that has room: %d", code)
	}
	m := changes()
	for i := range 65535 {
		m.Authority = append(m.Authority, api.Record{Owner: n("a.ex."), Type: api.A, Class: api.IN, TTL: i, Data: "\x0a\x00" + string([]byte{byte(i >> 8), byte(i)})})
	}
	if y, code := update.Apply(z, m); y != nil || code != api.Refused {
		t.Errorf("P10.2: many changes: %v, %d", y, code)
	}
	m.Authority[65534] = part("= a.ex. A")
	checkApply(t, z, m, z)
}

// full gives a zone of so many records.
func full(count int) *zone.Zone {
	var more []string
	for i := range count - 2 {
		more = append(more, "a"+strconv.Itoa(i)+" A 10.0.0.1")
	}
	return plain(more...)
}

// TestExamples: those of the chapter.
func TestExamples(t *testing.T) {
	z := example()
	y, code := update.Apply(z, changes("+ new.ex. 60 A 10.0.0.1"))
	if code != api.NoError || y.Serial() != 8 || len(y.Set(n("new.ex."), api.A)) != 1 || len(y.Records()) != len(z.Records())+1 {
		t.Fatalf("P10.2: new.ex.: %d\n%s", code, tellOf(y))
	}
	checkApply(t, y, changes("+ new.ex. 60 A 10.0.0.1"), y)
	checkApply(t, z, changes("= ex. ANY"), z)
	checkApply(t, z, changes("- ex. NS ns.org."), z)
	checkCode(t, "x.ex. A", z, conditions("has x.ex. A"), api.NxSet)
	checkCode(t, "x.ex. ANY", z, conditions("has x.ex. ANY"), api.NxDomain)
	checkCode(t, "w.ex. ANY", z, conditions("no w.ex. ANY"), api.YxDomain)
	checkCode(t, "org.", z, changes("+ a.org. 60 A 10.0.0.1"), api.NotZone)
	if y, code := update.Apply(z, changes("+ *.ex. 60 NS ns")); y != nil || code != api.Refused {
		t.Errorf("P10.2: a star's NS: %v, %d", y, code)
	}
}

// TestApexLetters: the apex stays as it was given, whatever the question's and
// the records' letters are.
func TestApexLetters(t *testing.T) {
	z := newZone("eX.", list("ex.", "Ex. SOA ns h 7 2 3 4 5", "EX. NS ns.org."))
	want := newZone("eX.", list("ex.", "Ex. SOA ns h 8 2 3 4 5", "EX. NS ns.org.", "a A 10.0.0.1"))
	checkApply(t, z, changes("+ a.ex. 60 A 10.0.0.1"), want)
	checkApply(t, z, changes("= ex. NS"), z)
	root := newZone(".", list(".", "@ SOA ns h 7 2 3 4 5", "@ NS ns.org.", "a A 10.0.0.1"))
	m := changes("= a. ANY", "= . ANY")
	m.Questions[0].Name = api.Root
	checkApply(t, root, m, newZone(".", list(".", "@ SOA ns h 8 2 3 4 5", "@ NS ns.org.")))
}

// TestGiven: what is handed in stays as it was.
func TestGiven(t *testing.T) {
	z := example()
	m := changes("+ A.ex. 5 A 10.0.0.1", "- www.ex. A 10.0.0.1", "= b.ex. ANY")
	m.Answers = parts([]string{"is www.ex. A 10.0.0.1", "has w.ex. ANY"})
	before := data.Beyond(m.Authority, nil)
	y, code := update.Apply(z, m)
	if code != api.NoError || len(data.Beyond(before, m.Authority)) > 0 || len(m.Authority) != 3 || len(m.Answers) != 2 {
		t.Errorf("P2: the message has changed: %d, %+v", code, m)
	}
	told := tell(y)
	m.Authority[0].Owner = n("c.ex.")
	y.Records()[0].Owner = n("d.ex.")
	if tell(y) != told || !same(z, example()) {
		t.Error("P2: the zone has changed")
	}
}
