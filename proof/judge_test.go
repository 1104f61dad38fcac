package proof_test

import (
	"slices"
	"strings"
	"testing"

	"gazetteer/api"
	"gazetteer/name"
	"gazetteer/proof"
)

const (
	nothing = api.ProofNothing
	noName  = api.ProofNoName
	noData  = api.ProofNoData
)

// judged: what records prove of a name of ex. and a type, and of the name alone.
type judged struct {
	records []api.Record
	q       string
	t       int
	want    int
	absent  bool
}

// lines: the same of lines of a file.
type lines struct {
	lines  string // with | between them
	q      string
	t      int
	want   int
	absent bool
}

func check(t *testing.T, c judged) {
	t.Helper()
	given := slices.Clone(c.records)
	got, absent := proof.Judge(n("ex."), c.records, n(c.q), c.t), proof.Absent(n("ex."), c.records, n(c.q))
	if got != c.want || absent != c.absent {
		t.Errorf("P8.4, P8.5 of %q: Judge(%s, %d) = %d, Absent %v; wanted %d, %v", toldAll(c.records), c.q, c.t, got, absent, c.want, c.absent)
	}
	if proof.Judge(n("EX."), c.records, n(strings.ToUpper(c.q)), c.t) != got || proof.Absent(n("eX."), c.records, n(strings.ToUpper(c.q))) != absent {
		t.Errorf("P8.4, P8.5 of %q: Judge or Absent of %s hangs on letters", toldAll(c.records), c.q)
	}
	if !slices.Equal(given, c.records) {
		t.Errorf("P2: %q were changed", toldAll(given))
	}
}

func checkLines(t *testing.T, cases []lines) {
	t.Helper()
	for _, c := range cases {
		check(t, judged{list(strings.Split(c.lines, "|")...), c.q, c.t, c.want, c.absent})
	}
}

func TestJudgeShows(t *testing.T) {
	checkLines(t, []lines{
		{"a NSEC c A MX", "a.ex.", api.TXT, noData, false},
		{"a NSEC c A MX", "a.ex.", api.A, nothing, false},
		{"a NSEC c A MX", "a.ex.", api.MX, nothing, false},
		{"a NSEC c CNAME", "a.ex.", api.TXT, nothing, false},
		{"a NSEC c CNAME", "a.ex.", api.CNAME, nothing, false},
		{"a NSEC c CNAME", "a.ex.", api.DS, nothing, false},
		{"a NSEC c A", "a.ex.", api.CNAME, noData, false},
		// The name isn't covered, though it stands at an end.
		{"a NSEC c A", "c.ex.", api.TXT, nothing, false},
		// ANY is lacked where there are no types at all.
		{"a NSEC c A", "a.ex.", api.ANY, nothing, false},
		{"a NSEC c TYPE65535", "a.ex.", api.ANY, nothing, false},
		{"a NSEC c", "a.ex.", api.ANY, noData, false},
		{"a NSEC c TYPE255", "a.ex.", api.ANY, nothing, false},
		{"a NSEC c", "a.ex.", 65535, noData, false},
		{"a NSEC c TYPE65535", "a.ex.", 65535, nothing, false},
		{"a NSEC c TYPE65534", "a.ex.", 65535, noData, false},
		// At a cut the DS alone are this zone's.
		{"a NSEC c NS", "a.ex.", api.A, nothing, false},
		{"a NSEC c NS", "a.ex.", api.DS, noData, false},
		{"a NSEC c NS DS", "a.ex.", api.DS, nothing, false},
		{"a NSEC c NS SOA", "a.ex.", api.A, noData, false},
		{"a NSEC c NS SOA", "a.ex.", api.DS, noData, false},
		{"a NSEC c SOA", "a.ex.", api.A, noData, false},
		{"a NSEC c DNAME", "a.ex.", api.A, noData, false},
		// One of them is enough.
		{"a NSEC c A|a NSEC c MX", "a.ex.", api.A, noData, false},
		{"a NSEC c NS|a NSEC c A|a NSEC c CNAME", "a.ex.", api.MX, noData, false},
		{"b NSEC c A|A NSEC b A", "a.ex.", api.MX, noData, false},
		// One that stands at the name says more than one that covers it.
		{"@ NSEC @ A|a NSEC c A", "a.ex.", api.MX, noData, true},
		{"@ NSEC @ A|a NSEC c A", "a.ex.", api.A, noName, true},
	})
}

func TestJudgeDenies(t *testing.T) {
	checkLines(t, []lines{
		// Between two, with and without the star.
		{"a NSEC c A", "b.ex.", api.A, nothing, true},
		{"a NSEC c A|@ NSEC a A", "b.ex.", api.A, noName, true},
		{"@ NSEC a A|a NSEC c A", "b.ex.", api.ANY, noName, true},
		{"@ NSEC c A", "b.ex.", api.A, noName, true},
		{"@ NSEC @ A", "b.ex.", api.A, noName, true},
		{"c NSEC a A", "b.ex.", api.A, nothing, false},
		{"c NSEC a A", "d.ex.", api.A, noName, true},
		{"c NSEC @ A|@ NSEC a A", "d.ex.", api.A, noName, true},
		{"a NSEC a A", "d.ex.", api.A, noName, true},
		{"a NSEC a A", "!.ex.", api.A, noName, true},
		{"*.ex. NSEC @ A", "!.ex.", api.A, nothing, false},
		// What leads away says nothing of what is below it, but of others.
		{"a NSEC c NS|@ NSEC a SOA", "b.ex.", api.A, noName, true},
		{"a NSEC c NS|@ NSEC a SOA", "b.a.ex.", api.A, nothing, false},
		{"a NSEC c NS|@ NSEC a SOA", "b.a.ex.", api.DS, nothing, false},
		{"a NSEC c DNAME|@ NSEC a SOA", "b.a.ex.", api.A, nothing, false},
		{"a NSEC c DNAME|@ NSEC a SOA", "b.ex.", api.A, noName, true},
		{"a NSEC c NS SOA", "b.a.ex.", api.A, noName, true},
		{"a NSEC c NS SOA DNAME", "b.a.ex.", api.A, nothing, false},
		{"a NSEC c A", "b.a.ex.", api.A, noName, true},
		{"@ NSEC c NS", "b.ex.", api.A, nothing, false},
		// There is something below, so it is there.
		{"a NSEC c.b A", "b.ex.", api.A, noData, false},
		{"a NSEC c.b A", "b.ex.", api.ANY, noData, false},
		{"a NSEC d.c.b A", "b.ex.", api.A, noData, false},
		{"a NSEC d.c.b A", "c.b.ex.", api.A, noData, false},
		{"a NSEC d.c.b A", "b.b.ex.", api.A, noName, true},
		{"a NSEC c.b NS", "b.ex.", api.A, noData, false},
		{"a NSEC c.b.a NS", "b.a.ex.", api.A, nothing, false},
		// One denies, another says that there is something below.
		{"@ NSEC z A|a NSEC c.b A", "b.ex.", api.A, noName, true},
		{"a NSEC c.b A|@ NSEC z A", "b.ex.", api.A, noData, true},
	})
}

func TestJudgeStar(t *testing.T) {
	checkLines(t, []lines{
		// The star stands there, and has no such type.
		{"*.w NSEC w1 TXT", "a.w.ex.", api.A, noData, true},
		{"*.w NSEC w1 TXT", "b.a.w.ex.", api.A, noData, true},
		{"*.w NSEC w1 TXT", "a.w.ex.", api.TXT, nothing, true},
		{"*.w NSEC w1 CNAME", "a.w.ex.", api.TXT, nothing, true},
		{"*.w NSEC w1 TXT", "a.w.ex.", api.ANY, nothing, true},
		{"*.w NSEC w1", "a.w.ex.", api.ANY, noData, true},
		{"*.w NSEC w1 NS", "a.w.ex.", api.A, nothing, true},
		{"*.w NSEC w1 NS", "a.w.ex.", api.DS, noData, true},
		// Another denies the name.
		{"b.w NSEC d.w A|*.w NSEC b.w TXT", "c.w.ex.", api.A, noData, true},
		{"b.w NSEC d.w A|*.w NSEC b.w TXT", "c.w.ex.", api.TXT, nothing, true},
		{"b.w NSEC d.w A|v NSEC b.w A", "c.w.ex.", api.A, noName, true},
		// The star is there by names below it.
		{"b.w NSEC d.w A|v NSEC a.*.w A", "c.w.ex.", api.A, noData, true},
		{"b.w NSEC d.w A|v NSEC a.*.w A", "c.w.ex.", api.ANY, noData, true},
		// Of those that deny the star the first tells.
		{"b.w NSEC d.w A|v NSEC a.*.w A|u NSEC b.w A", "c.w.ex.", api.A, noData, true},
		{"b.w NSEC d.w A|u NSEC b.w A|v NSEC a.*.w A", "c.w.ex.", api.A, noName, true},
		// One that shows it goes ahead.
		{"b.w NSEC d.w A|u NSEC b.w A|*.w NSEC b.w TXT", "c.w.ex.", api.A, noData, true},
		{"b.w NSEC d.w A|u NSEC b.w A|*.w NSEC b.w TXT", "c.w.ex.", api.TXT, noName, true},
		// What leads away doesn't deny the star below it.
		{"b.w NSEC d.w A|w NSEC b.w NS", "c.w.ex.", api.A, nothing, true},
		{"b.w NSEC d.w A|w NSEC b.w DNAME", "c.w.ex.", api.A, nothing, true},
		{"b.w NSEC d.w A|w NSEC b.w A", "c.w.ex.", api.A, noName, true},
		// The encloser by the owner, and by the next.
		{"b.w NSEC y A|@ NSEC b.w A", "c.w.ex.", api.A, noName, true},
		{"b.w NSEC y A|v NSEC b.w A", "c.w.ex.", api.A, noName, true},
		{"b.w NSEC y A|@ NSEC v A", "c.w.ex.", api.A, nothing, true},
		{"v NSEC d.w A|@ NSEC v A", "c.w.ex.", api.A, noName, true},
		{"u NSEC v A|d.w NSEC u A|*.w NSEC d.w TXT", "c.w.ex.", api.A, noData, true},
		{"v NSEC x A|@ NSEC v A", "c.w.ex.", api.A, noName, true},
		{"v NSEC x A|*.w NSEC x A", "c.w.ex.", api.A, noName, true},
	})
}

// TestJudgeOrder: those that deny a name are asked one behind the other.
func TestJudgeOrder(t *testing.T) {
	checkLines(t, []lines{
		{"v NSEC z A|@ NSEC a A|*.w NSEC y.w A", "x.w.ex.", api.TXT, noName, true},
		{"*.w NSEC y.w A|v NSEC z A|@ NSEC a A", "x.w.ex.", api.TXT, noData, true},
		// The first tells nothing, as nobody tells of *.ex.
		{"v NSEC z A|*.w NSEC y.w A", "x.w.ex.", api.TXT, noData, true},
		{"v NSEC z A|v1 NSEC z1 A|*.w NSEC y.w A", "x.w.ex.", api.TXT, noData, true},
		{"v NSEC z A|v1 NSEC z1 A", "x.w.ex.", api.TXT, nothing, true},
		{"w NSEC z A|w NSEC z1 A", "x.w.ex.", api.TXT, noName, true},
		{"v NSEC z A|v1 NSEC z1 A|v NSEC x.x.w A", "x.w.ex.", api.TXT, noData, true},
		{"x1.w NSEC x.w A|v NSEC x.x.w A", "x.w.ex.", api.TXT, noData, false},
		{"x1 NSEC w1 A|*.w NSEC w1 A", "x.w.ex.", api.TXT, noName, true},
	})
}

func TestJudgeNoNames(t *testing.T) {
	whole := list("@ NSEC @ NS SOA")
	if proof.Judge(n("ex."), whole, n("x.ex."), api.A) != noName || !proof.Absent(n("ex."), whole, n("x.ex.")) {
		t.Fatal("P8.4, P8.5 of a zone with one name")
	}
	for _, c := range [][2]string{{"", n("x.ex.")}, {n("ex."), ""}, {"ex.", n("x.ex.")}, {n("ex."), "x.ex."}, {n("ex."), n("x.ey.")}, {n("ex."), api.Root}, {n("ex."), n("org.")}, {n("ex."), n("x.ex.") + "\x00"}, {"", ""}, {n("x.ex."), n("ex.")}} {
		if proof.Judge(c[0], whole, c[1], api.A) != nothing || proof.Absent(c[0], whole, c[1]) {
			t.Errorf("P8.4, P8.5: Judge or Absent of %q tells something", c)
		}
	}
	for typ, want := range map[int]int{-1: nothing, 0: nothing, 1: noName, 255: noName, 65535: noName, 65536: nothing, 1 << 40: nothing, -1 << 63: nothing} {
		if got := proof.Judge(n("ex."), whole, n("x.ex."), typ); got != want {
			t.Errorf("P8.4 Judge of the type %d = %d; wanted %d", typ, got, want)
		}
	}
	if proof.Judge(n("ex."), nil, n("x.ex."), api.A) != nothing || proof.Absent(n("ex."), nil, n("x.ex.")) {
		t.Error("P8.4, P8.5: Judge or Absent of no records tells something")
	}
}

func TestJudgeHashed(t *testing.T) {
	for _, c := range []judged{
		// It stands at the name.
		{[]api.Record{at("a.ex.", "A")}, "a.ex.", api.TXT, noData, false},
		{[]api.Record{at("a.ex.", "A")}, "a.ex.", api.A, nothing, false},
		{[]api.Record{at("a.ex.", "CNAME")}, "a.ex.", api.A, nothing, false},
		{[]api.Record{at("a.ex.", "NS")}, "a.ex.", api.A, nothing, false},
		{[]api.Record{at("a.ex.", "NS")}, "a.ex.", api.DS, noData, false},
		{[]api.Record{at("a.ex.", "NS", "DS")}, "a.ex.", api.DS, nothing, false},
		{[]api.Record{at("a.ex.", "NS", "SOA")}, "a.ex.", api.A, noData, false},
		{[]api.Record{at("a.ex.", "DNAME")}, "a.ex.", api.A, noData, false},
		{[]api.Record{at("a.ex.", "A")}, "a.ex.", api.ANY, nothing, false},
		{[]api.Record{at("a.ex.")}, "a.ex.", api.ANY, noData, false},
		{[]api.Record{at("ex.", "NS", "SOA")}, "ex.", api.A, noData, false},
		// Of several the first tells.
		{[]api.Record{at("a.ex.", "A"), at("a.ex.", "MX")}, "a.ex.", api.A, nothing, false},
		{[]api.Record{at("a.ex.", "MX"), at("a.ex.", "A")}, "a.ex.", api.A, noData, false},
		{[]api.Record{at("a.ex.", "A"), over("a.ex."), over("*.ex."), at("ex.")}, "a.ex.", api.A, nothing, true},
		// It stands above, one covers what is next, one the star.
		{[]api.Record{at("ex."), over("a.ex."), over("*.ex.")}, "a.ex.", api.A, noName, true},
		{[]api.Record{over("*.ex."), over("a.ex."), at("ex.")}, "a.ex.", api.ANY, noName, true},
		{[]api.Record{at("ex."), over("a.ex."), over("*.ex.")}, "b.a.ex.", api.A, noName, false},
		{[]api.Record{at("ex."), over("b.a.ex."), over("*.ex.")}, "b.a.ex.", api.A, nothing, true},
		{[]api.Record{at("a.ex."), over("b.a.ex."), over("*.ex.")}, "b.a.ex.", api.A, nothing, true},
		{[]api.Record{at("a.ex."), over("b.a.ex."), over("*.a.ex.")}, "b.a.ex.", api.A, noName, true},
		{[]api.Record{at("ex."), at("a.ex."), over("b.a.ex."), over("*.ex.")}, "b.a.ex.", api.A, nothing, true},
		{[]api.Record{at("ex."), over("a.ex."), at("a.ex."), over("*.ex.")}, "b.a.ex.", api.A, nothing, false},
		{[]api.Record{at("ex."), over("a.ex.")}, "a.ex.", api.A, nothing, true},
		{[]api.Record{at("ex."), over("*.ex.")}, "a.ex.", api.A, nothing, false},
		{[]api.Record{over("a.ex."), over("*.ex.")}, "a.ex.", api.A, nothing, true},
		// One that is above the apex isn't asked for.
		{[]api.Record{at("."), over("ex."), over("*.")}, "ex.", api.A, nothing, true},
		{[]api.Record{at("."), over("ex."), over("*.")}, "a.ex.", api.A, nothing, false},
		// It leads away.
		{[]api.Record{at("ex.", "NS"), over("a.ex."), over("*.ex.")}, "a.ex.", api.A, nothing, true},
		{[]api.Record{at("ex.", "NS"), over("a.ex."), over("*.ex.")}, "a.ex.", api.DS, nothing, true},
		{[]api.Record{at("ex.", "NS", "SOA"), over("a.ex."), over("*.ex.")}, "a.ex.", api.A, noName, true},
		{[]api.Record{at("ex.", "DNAME"), over("a.ex."), over("*.ex.")}, "a.ex.", api.A, nothing, true},
		{[]api.Record{at("ex.", "NS", "SOA", "DNAME"), over("a.ex."), over("*.ex.")}, "a.ex.", api.A, nothing, true},
		{[]api.Record{at("ex.", "NS"), at("ex.", "SOA"), over("a.ex."), over("*.ex.")}, "a.ex.", api.A, nothing, true},
		{[]api.Record{at("ex.", "SOA"), at("ex.", "NS"), over("a.ex."), over("*.ex.")}, "a.ex.", api.A, noName, true},
		// The star stands there.
		{[]api.Record{at("ex."), over("a.ex."), at("*.ex.", "TXT")}, "a.ex.", api.A, noData, true},
		{[]api.Record{at("ex."), over("a.ex."), at("*.ex.", "TXT")}, "b.a.ex.", api.A, noData, false},
		{[]api.Record{at("ex."), over("a.ex."), at("*.ex.", "TXT")}, "a.ex.", api.TXT, nothing, true},
		{[]api.Record{at("ex."), over("a.ex."), at("*.ex.", "CNAME")}, "a.ex.", api.TXT, nothing, true},
		{[]api.Record{at("ex."), over("a.ex."), at("*.ex.")}, "a.ex.", api.ANY, noData, true},
		{[]api.Record{at("ex."), over("a.ex."), at("*.ex.", "NS")}, "a.ex.", api.A, nothing, true},
		{[]api.Record{at("ex."), over("a.ex."), at("*.ex.", "NS")}, "a.ex.", api.DS, noData, true},
		{[]api.Record{at("ex."), over("a.ex."), at("*.ex.", "TXT"), at("*.ex.", "A")}, "a.ex.", api.A, noData, true},
		{[]api.Record{at("ex."), over("a.ex."), at("*.ex.", "A"), at("*.ex.", "TXT")}, "a.ex.", api.A, nothing, true},
		// One that covers it goes ahead.
		{[]api.Record{at("ex."), over("a.ex."), at("*.ex.", "TXT"), over("*.ex.")}, "a.ex.", api.A, noName, true},
		{[]api.Record{at("ex."), at("*.ex.", "TXT")}, "a.ex.", api.A, nothing, false},
	} {
		check(t, c)
	}
}

// TestHashesBetween: as of names, by the order of bytes.
func TestHashesBetween(t *testing.T) {
	h := hash(n("a.ex."))
	least, most := strings.Repeat("\x00", 10), strings.Repeat("\xff", 10)
	for _, c := range []struct {
		own, next string
		want      bool
	}{
		{near(h, -1), near(h, 1), true},
		{near(h, -1), h, false},
		{h, near(h, 1), false},
		{h, h, false},
		{near(h, 1), near(h, -1), false},
		{near(h, 1), near(h, 1), true},
		{near(h, -1), near(h, -1), true},
		{most, near(h, 1), true},
		{most, h, false},
		{near(h, -1), least, true},
		{h, least, false},
		{least, most, true},
		{most, least, false},
		{most, most, true},
		{least, least, true},
	} {
		if got := proof.Absent(n("ex."), []api.Record{nsec3(c.own, c.next)}, n("a.ex.")); got != c.want {
			t.Errorf("P8.3: between %x and %x comes %x: %v", c.own, c.next, h, got)
		}
	}
}

// TestRootZone: at the root no label less is asked for.
func TestRootZone(t *testing.T) {
	root := api.Root
	plain := []api.Record{{Owner: root, Type: api.NSEC, Class: api.IN, TTL: 1, Data: root + "\x00\x01\x22"}}
	if proof.Judge(root, plain, n("a.b."), api.A) != noName || proof.Judge(root, plain, root, api.A) != noData || !proof.Absent(root, plain, n("b.")) || proof.Absent(root, plain, root) {
		t.Error("P8.4, P8.5 of the root")
	}
	own := nsec3(hash(root), hash(root), "NS", "SOA")
	own.Owner = own.Owner[:17] + root
	if proof.Judge(root, []api.Record{own}, n("a.b."), api.A) != noName || proof.Judge(root, []api.Record{own}, root, api.A) != noData || !proof.Absent(root, []api.Record{own}, n("b.")) || proof.Absent(root, []api.Record{own}, root) {
		t.Error("P8.4, P8.5 of the root with hashes")
	}
}

// TestLongest: the longest names have stars above them that are names.
func TestLongest(t *testing.T) {
	q := n("ex.")
	for range 125 {
		q = "\x01a" + q
	}
	q = "\x01b" + q[2:]
	if name.Check(q) != api.OK || len(q) != 254 {
		t.Fatal(len(q))
	}
	for _, q := range []string{q, "\x02bb" + q[2:]} {
		parent := name.Parent(q)
		plain := []api.Record{{Owner: parent, Type: api.NSEC, Class: api.IN, Data: n("ex.")}}
		if got := proof.Judge(n("ex."), plain, q, api.A); got != noName {
			t.Errorf("P8.4 of a name of %d bytes: %d", len(q), got)
		}
		own := nsec3(hash(parent), hash(parent))
		if got := proof.Judge(n("ex."), []api.Record{own}, q, api.A); got != noName {
			t.Errorf("P8.4 of a name of %d bytes with hashes: %d", len(q), got)
		}
	}
}

// TestHalfRoom: room behind the end of what is handed in isn't touched.
func TestHalfRoom(t *testing.T) {
	whole := append(list("@ NSEC a A", "a NSEC @ A"), at("ex."), over("x.ex."), nsec3(hash(n("b.ex.")), hash(n("c.ex."))))
	for end := range len(whole) + 1 {
		room := slices.Clone(whole)
		proof.Judge(n("ex."), room[:end], n("x.ex."), api.A)
		proof.Absent(n("ex."), room[:end], n("x.ex."))
		proof.Judge(n("ex."), room[min(2, end):end], n("x.ex."), api.A)
		if !slices.Equal(room, whole) {
			t.Errorf("P2: Judge or Absent changed what was handed in")
		}
	}
}
