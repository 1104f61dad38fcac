package zone_test

import (
	"math/rand"
	"slices"
	"strings"
	"testing"

	"gazetteer/api"
	"gazetteer/name"
	"gazetteer/zone"
)

func TestApex(t *testing.T) {
	for _, apex := range []string{"ex.", "EX.", "eX."} {
		z, _, _ := zone.New(n(apex), list(head()...))
		if got := z.Apex(); got != n(apex) {
			t.Errorf("P5.2 Apex() = %q; wanted %q", got, n(apex))
		}
	}
}

func TestSerial(t *testing.T) {
	for text, want := range map[string]int{
		"0": 0, "1": 1, "255": 255, "256": 256, "16909060": 16909060,
		"2147483647": 2147483647, "2147483648": 2147483648, "4294967295": 4294967295,
	} {
		z := zoneAt(t, "ex.", "@ NS ns", "@ SOA ns h "+text+" 1 2 3 4")
		if got := z.Serial(); got != want {
			t.Errorf("P5.2 Serial() = %d; wanted %d", got, want)
		}
	}
}

// ordered: lines of a zone in the order of Records.
func ordered() []string {
	return []string{
		"@ NS ns.a",
		"@ NS NS.b", // names are folded: by its bytes it would come first
		"@ SOA ns h 7 2 3 4 5",
		"@ MX 9 z", // by its bytes: 9 ahead of 10
		"@ MX 10 a",
		`\000 A 10.0.0.1`,
		"* TXT x",
		"A A 10.0.0.1",
		"a A 10.0.0.2",
		"A TXT B", // texts aren't folded
		"a TXT a",
		"a TXT a b", // by its bytes; one begins with the other
		"a CAA 0 x y",
		"a TYPE700 \\# 0",
		"a TYPE700 \\# 1 00",
		"a TYPE700 \\# 1 ff",
		"x.a A 10.0.0.1",
		"aa NSEC3 1 0 0 - 00",
		"b NS a.",
		"b NS B.", // folded between its neighbours
		"b NS c.",
		"B RRSIG NSEC3 253 2 60 9 1 7 ex. AAAA",
		"z.y.b A 10.0.0.1",
	}
}

func TestRecordsOrder(t *testing.T) {
	want := list(ordered()...)
	r := rand.New(rand.NewSource(51))
	for range 200 {
		given := slices.Clone(want)
		r.Shuffle(len(given), func(i, j int) { given[i], given[j] = given[j], given[i] })
		z, at, e := zone.New(n("Ex."), given)
		if e != api.OK {
			t.Fatalf("New = %d, %d", at, e)
		}
		if got := z.Records(); !slices.Equal(got, want) {
			t.Fatalf("P5.2 Records() = %s; wanted %s", toldAll(got), toldAll(want))
		}
	}
}

func TestSet(t *testing.T) {
	z := zoneAt(t, "ex.", ordered()...)
	for _, c := range []struct {
		owner string
		t     int
		want  string
	}{
		{n("a.ex."), api.A, "A.ex. A 10.0.0.1|a.ex. A 10.0.0.2"},
		{n("A.EX."), api.A, "A.ex. A 10.0.0.1|a.ex. A 10.0.0.2"},
		{n("ex."), api.MX, "ex. MX 9 z.ex.|ex. MX 10 a.ex."},
		{n("b.ex."), api.NS, "b.ex. NS a.|b.ex. NS B.|b.ex. NS c."},
		{n("b.ex."), api.RRSIG, "B.ex. RRSIG NSEC3 253 2 60 9 1 7 ex. AAAA"},
		{n("aa.ex."), api.NSEC3, "aa.ex. NSEC3 1 0 0 - 00"},
		{n("*.ex."), api.TXT, `*.ex. TXT "x"`},
		{n("q.ex."), api.TXT, ""},
		{n("y.b.ex."), api.A, ""},
		{n("a.ex."), api.ANY, ""},
		{n("a.ex."), api.NS, ""},
		{n("a.ex."), 0, ""},
		{n("a.ex."), -1, ""},
		{n("a.ex."), 65537, ""},
		{n("a.org."), api.A, ""},
		{api.Root, api.NS, ""},
		{"", api.A, ""},
		{"", 0, ""},
		{"a.ex.", api.A, ""},
		{n("a.ex.") + "\x00", api.A, ""},
	} {
		if got := toldAll(z.Set(c.owner, c.t)); got != c.want {
			t.Errorf("P5.2 Set(%q, %d) = %s; wanted %s", c.owner, c.t, got, c.want)
		}
	}
}

func shown(names []string) string {
	var texts []string
	for _, x := range names {
		texts = append(texts, name.Show(x))
	}
	return strings.Join(texts, " ")
}

func TestNames(t *testing.T) {
	for _, c := range []struct {
		what string
		z    *zone.Zone
		want string
	}{
		{"the example", example(t), "ex. b.ex. ns.b.ex. w.ex. *.w.ex. www.ex."},
		{"the order", zoneAt(t, "EX.", ordered()...), `ex. \000.ex. *.ex. a.ex. x.a.ex. b.ex. y.b.ex. z.y.b.ex.`},
		{"names between", zoneOf(t, "D.C.b.A A 10.0.0.1", "x.B.a A 10.0.0.1"), "ex. a.ex. b.a.ex. c.b.a.ex. d.c.b.a.ex. x.b.a.ex."},
		{"records that don't count", zoneOf(t, "x.a NSEC3 1 0 0 - 00", "x.b RRSIG NSEC3 253 2 60 9 1 7 ex. AAAA", "@ NSEC3 1 0 0 - 00"), "ex."},
		{"signatures that count", zoneOf(t, "x.a RRSIG NSEC 253 2 60 9 1 7 ex. AAAA", "b RRSIG TYPE12800 253 2 60 9 1 7 ex. AAAA", "c TYPE700 \\# 2 0032"), "ex. a.ex. x.a.ex. b.ex. c.ex."},
	} {
		if got := shown(c.z.Names()); got != c.want {
			t.Errorf("P5.2 Names(), %s: %s; wanted %s", c.what, got, c.want)
		}
	}
}

func TestIsThere(t *testing.T) {
	z := zoneAt(t, "eX.", "@ SOA ns h 7 2 3 4 5", "@ NS ns.org.", "x.A A 10.0.0.1", "*.w TXT hello", "b NS ns.b", "ns.b A 10.0.0.2", "h NSEC3 1 0 0 - 00")
	for text, want := range map[string]bool{
		"ex.": true, "EX.": true, "a.ex.": true, "X.a.Ex.": true, "w.ex.": true, "*.w.ex.": true, "b.ex.": true, "NS.b.ex.": true,
		".": false, "org.": false, "x.ex.": false, "y.x.a.ex.": false, "q.w.ex.": false, "q.b.ex.": false, "h.ex.": false,
	} {
		if got := z.IsThere(n(text)); got != want {
			t.Errorf("IsThere(%s) = %v", text, got)
		}
	}
	for _, wrong := range []string{"", "\x02ex", "ex.", "\x02ex\x00\x00"} {
		if z.IsThere(wrong) {
			t.Errorf("IsThere(%q), which is no name", wrong)
		}
	}
}

// TestDeepNames: names above the apex aren't told, and one of 255 bytes is.
func TestDeepNames(t *testing.T) {
	apex := "\x01c\x02EX\x00"
	deep := label(63) + label(63) + label(63) + label(56) + apex
	records := []api.Record{
		{Owner: deep, Type: api.A, Class: api.IN, Data: "\x0a\x00\x00\x01"},
		{Owner: apex, Type: api.SOA, Class: api.IN, Data: list(head()[0])[0].Data},
		{Owner: apex, Type: api.NS, Class: api.IN, Data: deep},
	}
	z, at, e := zone.New(apex, records)
	if e != api.OK || len(deep) != 255 {
		t.Fatalf("New = %d, %d", at, e)
	}
	var want []string
	for k := 2; k <= 6; k++ {
		want = append(want, name.Fold(name.Tail(deep, k)))
	}
	if got := z.Names(); !slices.Equal(got, want) {
		t.Errorf("P5.2 Names() = %q; wanted %q", got, want)
	}
	if f := z.Find(deep, api.A); f.Kind != api.FoundAnswer || len(f.Records) != 1 {
		t.Errorf("P5.3 Find of a name of 255 bytes: %+v", f)
	}
}

// TestNewMemory: what the caller does with an answer isn't seen later.
func TestNewMemory(t *testing.T) {
	z := zoneAt(t, "ex.", ordered()...)
	records, set, names := toldAll(z.Records()), toldAll(z.Set(n("a.ex."), api.A)), shown(z.Names())
	found, findings := toldAll(z.Find(n("a.ex."), api.ANY).Records), len(z.Lint())
	wild := toldAll(z.Find(n("q.ex."), api.TXT).Records)
	scratch := func(list []api.Record) { clear(append(list, api.Record{})); clear(list) }
	scratch(z.Records())
	scratch(z.Records()[:1])
	scratch(z.Set(n("a.ex."), api.A))
	scratch(z.Find(n("a.ex."), api.ANY).Records)
	scratch(z.Find(n("x.b.ex."), api.A).Records)
	scratch(z.Find(n("q.ex."), api.TXT).Records)
	clear(z.Names())
	clear(z.Lint())
	if toldAll(z.Records()) != records || toldAll(z.Set(n("a.ex."), api.A)) != set || shown(z.Names()) != names {
		t.Error("P2: what Records, Set or Names answered is the zone's own")
	}
	if toldAll(z.Find(n("a.ex."), api.ANY).Records) != found || toldAll(z.Find(n("q.ex."), api.TXT).Records) != wild || len(z.Lint()) != findings {
		t.Error("P2: what Find or Lint answered is the zone's own")
	}
	if got := told(z.Set(n("*.ex."), api.TXT)[0]); got != `*.ex. TXT "x"` {
		t.Errorf("P5.3: Find with a star changed the zone's record to %s", got)
	}
}
