package proof_test

import (
	"slices"
	"strings"
	"testing"

	"gazetteer/api"
	"gazetteer/data"
	"gazetteer/name"
	"gazetteer/proof"
	"gazetteer/zone"
)

// asked: a question, what Find says of it, and the names whose NSEC or NSEC3
// go with that: "=x" stands at x, "/x" covers x.
type asked struct {
	q     string
	t     int
	kind  int
	plain string
	hash  string
}

func questions() []asked {
	return []asked{
		{"x.ex.", api.A, api.FoundNoName, "ex. www.ex.", "=ex. /x.ex. /*.ex."},
		{"X.Y.ex.", api.A, api.FoundNoName, "ex. www.ex.", "=ex. /y.ex. /*.ex."},
		{"a.www.ex.", api.A, api.FoundNoName, "www.ex.", "=www.ex. /a.www.ex. /*.www.ex."},
		{"x.d.ex.", api.A, api.FoundNoName, "c.ex. e.d.ex.", "=d.ex. /x.d.ex. /*.d.ex."},
		{"a.ex.", api.A, api.FoundNoName, "ex.", "=ex. /a.ex. /*.ex."},
		{"www.ex.", api.TXT, api.FoundNoData, "www.ex.", "=www.ex."},
		{"ex.", api.TXT, api.FoundNoData, "ex.", "=ex."},
		{"d.ex.", api.A, api.FoundNoData, "c.ex.", "=d.ex."},
		{"w.ex.", api.ANY, api.FoundNoData, "gr.ex.", "=w.ex."},
		{"*.w.ex.", api.A, api.FoundNoData, "*.w.ex.", "=*.w.ex."},
		{"q.w.ex.", api.A, api.FoundNoData, "*.w.ex.", "=w.ex. /q.w.ex. =*.w.ex."},
		{"!.w.ex.", api.A, api.FoundNoData, "gr.ex. *.w.ex.", "=w.ex. /!.w.ex. =*.w.ex."},
		{"q.P.w.ex.", api.A, api.FoundNoData, "*.w.ex.", "=w.ex. /p.w.ex. =*.w.ex."},
		{"q.p.w.ex.", api.TXT, api.FoundAnswer, "*.w.ex.", "/p.w.ex."},
		{"!.w.ex.", api.TXT, api.FoundAnswer, "gr.ex.", "/!.w.ex."},
		{"q.al.ex.", api.A, api.FoundAlias, "*.al.ex.", "/q.al.ex."},
		{"q.al.ex.", api.CNAME, api.FoundAnswer, "*.al.ex.", "/q.al.ex."},
		{"b.ex.", api.A, api.FoundReferral, "b.ex.", "=b.ex."},
		{"x.y.b.ex.", api.DS, api.FoundReferral, "b.ex.", "=b.ex."},
		{"b.ex.", api.DS, api.FoundNoData, "b.ex.", "=b.ex."},
		{"c.ex.", api.A, api.FoundReferral, "", ""},
		{"a.c.ex.", api.A, api.FoundReferral, "", ""},
		{"c.ex.", api.DS, api.FoundAnswer, "", ""},
		{"www.ex.", api.A, api.FoundAnswer, "", ""},
		{"*.w.ex.", api.TXT, api.FoundAnswer, "", ""},
		{"al.ex.", api.A, api.FoundAlias, "", ""},
		{"a.gr.ex.", api.A, api.FoundGraft, "", ""},
		{"gr.ex.", api.A, api.FoundNoData, "gr.ex.", "=gr.ex."},
	}
}

func TestMake(t *testing.T) {
	z := signed(t, false, example()...)
	for _, c := range questions() {
		if f := z.Find(n(c.q), c.t); f.Kind != c.kind {
			t.Fatalf("Find(%s, %d) = %+v", c.q, c.t, f)
		}
		got, e := proof.Make(z, n(c.q), c.t)
		if e != api.OK || owners(got) != c.plain || len(of(api.NSEC, got)) != len(got) {
			t.Errorf("P8.2 Make(%s, %d) = %q, %d; wanted the NSEC of %s", c.q, c.t, toldAll(got), e, c.plain)
		}
	}
}

func TestMakeHashed(t *testing.T) {
	z := signed(t, true, example()...)
	for _, c := range questions() {
		got, e := proof.Make(z, n(c.q), c.t)
		if want := byHash(z, c.hash); e != api.OK || !slices.Equal(got, want) {
			t.Errorf("P8.2 Make(%s, %d) = %q, %d; wanted %s: %q", c.q, c.t, toldAll(got), e, c.hash, toldAll(want))
		}
	}
}

// byHash gives the NSEC3 of a whole chain that stand at or cover names, in the
// zone's order: the one that covers is the last whose hash is below, or the last.
func byHash(z *zone.Zone, words string) []api.Record {
	chain := of(api.NSEC3, z.Records())
	var take []int
	for _, word := range strings.Fields(words) {
		label := data.To32(hash(n(word[1:])))
		at := len(chain) - 1
		for i, r := range chain {
			if own := name.Labels(r.Owner)[0]; own < label || own == label && word[0] == '=' {
				at = i
			}
		}
		if (name.Labels(chain[at].Owner)[0] == label) != (word[0] == '=') {
			panic(word)
		}
		take = append(take, at)
	}
	slices.Sort(take)
	var some []api.Record
	for _, at := range slices.Compact(take) {
		some = append(some, chain[at])
	}
	return some
}

func TestMakeOutside(t *testing.T) {
	for _, z := range []*zone.Zone{signed(t, false), signed(t, true), zoneOf(t)} {
		for _, q := range []string{"", "x", n("org."), n("."), n("exx."), n("a.ey."), n("x.ex.") + "\x00"} {
			if got, e := proof.Make(z, q, api.A); len(got) != 0 || e != api.ErrOutside {
				t.Errorf("P8.2 Make(%q) = %q, %d; wanted ErrOutside", q, toldAll(got), e)
			}
		}
		for _, typ := range []int{-1, 0, 65536, 1 << 40} {
			if got, e := proof.Make(z, n("ex."), typ); len(got) != 0 || e != api.ErrOutside {
				t.Errorf("P8.2 Make(ex., %d) = %q, %d; wanted ErrOutside", typ, toldAll(got), e)
			}
		}
	}
}

// TestMakeUnsigned: where nothing is to be shown nothing is missing.
func TestMakeUnsigned(t *testing.T) {
	z := zoneOf(t, example()...)
	for _, c := range questions() {
		want := api.ErrNone
		if c.plain == "" {
			want = api.OK
		}
		if got, e := proof.Make(z, n(c.q), c.t); len(got) != 0 || e != want {
			t.Errorf("P8.2 Make(%s, %d) = %q, %d of an unsigned zone; wanted %d", c.q, c.t, toldAll(got), e, want)
		}
	}
}

// TestMakeWithout: with one record fewer Make tells ErrNone just where that
// record, or what takes its place, is missing.
func TestMakeWithout(t *testing.T) {
	for _, hashed := range []bool{false, true} {
		all := signed(t, hashed, example()...).Records()
		for at, gone := range all {
			if gone.Type != api.NSEC && gone.Type != api.NSEC3 {
				continue
			}
			left := slices.Delete(slices.Clone(all), at, at+1)
			z := newZone(t, left)
			for _, c := range questions() {
				before, _ := proof.Make(newZone(t, all), n(c.q), c.t)
				got, e := proof.Make(z, n(c.q), c.t)
				isApex := name.Equal(gone.Owner, n("ex."))
				if want := slices.Contains(before, gone) || isApex && len(before) > 0; want != (e == api.ErrNone) || want && len(got) != 0 {
					t.Errorf("P8.2 Make(%s, %d) without %s = %q, %d", c.q, c.t, told(gone), toldAll(got), e)
				}
			}
		}
	}
}

func TestMakeFirst(t *testing.T) {
	// Several would do; one leads out of the zone; the first name of its data
	// counts, not where it stands.
	z := zoneOf(t, "@ NSEC b A", "@ NSEC c A", "a NSEC z A", "b NSEC org. A", "b NSEC z.b A", "c NSEC d A", "c NSEC e A", "f NSEC ex. A")
	for _, c := range []struct {
		q    string
		t    int
		want []string
	}{
		{"ex.", api.TXT, []string{"ex. NSEC b.ex. A"}},
		{"b.ex.", api.TXT, []string{"b.ex. NSEC z.b.ex. A"}},
		{"c.ex.", api.TXT, []string{"c.ex. NSEC d.ex. A"}},
		{"a1.ex.", api.A, []string{"ex. NSEC b.ex. A"}},
		{"b1.ex.", api.A, []string{"ex. NSEC b.ex. A", "ex. NSEC c.ex. A"}},
		{"a.b.ex.", api.A, []string{"ex. NSEC c.ex. A"}},
		{"c1.ex.", api.A, []string{"ex. NSEC b.ex. A", "a.ex. NSEC z.ex. A"}},
		{"zz.ex.", api.A, []string{"ex. NSEC b.ex. A", "f.ex. NSEC ex. A"}},
	} {
		if got, e := proof.Make(z, n(c.q), c.t); e != api.OK || !slices.Equal(toldAll(got), c.want) {
			t.Errorf("P8.2 Make(%s, %d) = %q, %d; wanted %q", c.q, c.t, toldAll(got), e, c.want)
		}
	}
}

func TestMakeUnusable(t *testing.T) {
	// At the apex stands an NSEC, so no other kind is looked at, though it
	// can't be used itself.
	lines := []string{"@ NSEC org. A", "@ NSEC3PARAM 1 0 3 abcd"}
	z := newZone(t, append(list(append(head(), lines...)...), at("ex.", "NS"), over("x.ex."), over("*.ex.")))
	if got, e := proof.Make(z, n("x.ex."), api.A); len(got) != 0 || e != api.ErrNone {
		t.Errorf("P8.2 Make with an NSEC that leads out = %q, %d", toldAll(got), e)
	}
	// An NSEC that stands elsewhere alone isn't looked at.
	z = zoneOf(t, "a NSEC a A")
	if got, e := proof.Make(z, n("x.ex."), api.A); len(got) != 0 || e != api.ErrNone {
		t.Errorf("P8.2 Make without an NSEC at the apex = %q, %d", toldAll(got), e)
	}
	if got, e := proof.Make(z, n("a.ex."), api.A); len(got) != 0 || e != api.ErrNone {
		t.Errorf("P8.2 Make without an NSEC at the apex = %q, %d", toldAll(got), e)
	}
	// And beside NSEC3PARAM it isn't looked at either.
	z = newZone(t, append(list(append(head(), "a NSEC a A", "@ NSEC3PARAM 1 0 3 abcd")...), at("ex.", "NS"), over("x.ex."), over("*.ex.")))
	if got, e := proof.Make(z, n("x.ex."), api.A); len(of(api.NSEC3, got)) != 3 || len(got) != 3 || e != api.OK {
		t.Errorf("P8.2 Make with NSEC3PARAM = %q, %d", toldAll(got), e)
	}
	if got, e := proof.Make(z, n("a.ex."), api.A); len(got) != 0 || e != api.ErrNone {
		t.Errorf("P8.2 Make with an NSEC beside NSEC3PARAM = %q, %d", toldAll(got), e)
	}
}

func TestMakeParam(t *testing.T) {
	one, two := "0102", "03"
	ownOf := func(salt string, rounds int) api.Record {
		h := hashBy(n("ex."), salt, rounds)
		return hashed(salt, rounds, h, near(h, 1), "NS")
	}
	of1, of2, of3 := ownOf("\x01\x02", 50), ownOf("\x03", 0), ownOf("\x01\x02", 49)
	for _, c := range []struct {
		params []string
		have   []api.Record
		want   []api.Record
	}{
		{[]string{"@ NSEC3PARAM 1 0 50 " + one}, []api.Record{of1, of2, of3}, []api.Record{of1}},
		{[]string{"@ NSEC3PARAM 1 0 51 " + one}, []api.Record{of1, of2, of3}, nil},
		{[]string{"@ NSEC3PARAM 1 0 51 " + one, "@ NSEC3PARAM 1 0 0 " + two}, []api.Record{of1, of2, of3}, []api.Record{of2}},
		{[]string{"@ NSEC3PARAM 1 0 65535 " + one, "@ NSEC3PARAM 1 0 50 " + one}, []api.Record{of1, of2, of3}, []api.Record{of1}},
		// In their order, by data: the one with fewer rounds is first.
		{[]string{"@ NSEC3PARAM 1 0 50 " + one, "@ NSEC3PARAM 1 0 49 " + one}, []api.Record{of1, of2, of3}, []api.Record{of3}},
		// The first counts, and not what is there.
		{[]string{"@ NSEC3PARAM 1 0 50 " + one, "@ NSEC3PARAM 1 0 49 " + one}, []api.Record{of1, of2}, nil},
		// Its other fields don't count.
		{[]string{"@ NSEC3PARAM 2 1 50 " + one}, []api.Record{of1, of2, of3}, []api.Record{of1}},
		{[]string{"@ NSEC3PARAM 1 0 50 -"}, []api.Record{of1, of2, of3}, nil},
		// Where it stands counts.
		{[]string{"a NSEC3PARAM 1 0 50 " + one}, []api.Record{of1, of2, of3}, nil},
	} {
		z := newZone(t, append(list(append(head(), c.params...)...), c.have...))
		got, e := proof.Make(z, n("ex."), api.TXT)
		if (e == api.ErrNone) != (c.want == nil) || !slices.Equal(got, c.want) {
			t.Errorf("P8.2 Make by %q of %q = %q, %d; wanted %q", c.params, toldAll(c.have), toldAll(got), e, toldAll(c.want))
		}
	}
}

func TestMakeIsNew(t *testing.T) {
	z := signed(t, false, example()...)
	before := z.Records()
	first, _ := proof.Make(z, n("x.ex."), api.A)
	again := slices.Clone(first)
	for i := range first {
		first[i] = api.Record{}
	}
	_ = append(first[:1], api.Record{Owner: "spoiled"})
	second, _ := proof.Make(z, n("x.ex."), api.A)
	if !slices.Equal(second, again) || !slices.Equal(z.Records(), before) {
		t.Error("P2: what is done with an answer of Make is seen later")
	}
}
