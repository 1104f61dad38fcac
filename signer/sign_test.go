package signer_test

import (
	"slices"
	"strings"
	"testing"

	"gazetteer/api"
	"gazetteer/data"
	"gazetteer/name"
	"gazetteer/seal"
	"gazetteer/signer"
	"gazetteer/zone"
)

func TestStrip(t *testing.T) {
	records := list(
		"b A 10.0.0.1", "@ DNSKEY 256 3 253 AAAA", "a TXT x", "a RRSIG A 253 1 60 9 1 7 ex. AAAA", "b A 10.0.0.1",
		"@ NSEC a A", "x NSEC3 1 0 0 - 00", "@ DS 1 2 3 00", "@ NSEC3PARAM 1 0 0 -", "c TYPE49 \\# 0", "c TYPE52 \\# 0", "@ CNAME a")
	want := list("b A 10.0.0.1", "a TXT x", "b A 10.0.0.1", "@ DS 1 2 3 00", "c TYPE49 \\# 0", "c TYPE52 \\# 0", "@ CNAME a")
	if got := signer.Strip(records); !slices.Equal(got, want) {
		t.Errorf("P7.1 Strip = %q; wanted %q", toldAll(got), toldAll(want))
	}
	if got := signer.Strip(nil); len(got) != 0 {
		t.Errorf("P7.1 Strip(nil) = %v", got)
	}
	if got := signer.Strip(records[5:7]); len(got) != 0 {
		t.Errorf("P7.1 Strip of what signing makes = %v", got)
	}
	wrong := []api.Record{{}, {Owner: "no name", Type: 70000, Class: -1, TTL: -1, Data: "x"}, {Type: 46}, {Type: -47}}
	if got := signer.Strip(wrong); !slices.Equal(got, []api.Record{wrong[0], wrong[1], wrong[3]}) {
		t.Errorf("P7.1 Strip of what are no records = %v", got)
	}
}

// example: a zone with a cut, a star, names between, and a graft.
func example() []api.Record {
	return zoneLines(
		"www A 10.0.0.1", "*.w TXT hello",
		"b NS ns.b", "b NS ns", "b A 10.0.0.9", "ns.b A 10.0.0.2", "c.b NS ns.b", "c.b DS 1 2 3 00",
		"S.D NS ns", "S.D DS 1 2 3 00", "S.D TXT hidden", "g DNAME w", "z 30 CNAME www")
}

func TestSignPlain(t *testing.T) {
	want := []string{
		"ex. 60 NS ns.org.",
		"ex. 60 SOA ns.ex. h.ex. 7 2 3 4 5",
		"ex. 60 RRSIG NS 1 60 1759",
		"ex. 60 RRSIG SOA 1 60 1759",
		"ex. 5 RRSIG NSEC 1 5 1759",
		"ex. 30 RRSIG DNSKEY 1 30 1759",
		"ex. 5 NSEC b.ex. NS SOA RRSIG NSEC DNSKEY",
		"ex. 30 DNSKEY 257 3 253 AAEB3QAAAAM=",
		"b.ex. 60 A 10.0.0.9",
		"b.ex. 60 NS ns.b.ex.",
		"b.ex. 60 NS ns.ex.",
		"b.ex. 5 RRSIG NSEC 2 5 1759",
		"b.ex. 5 NSEC s.d.ex. NS RRSIG NSEC",
		"c.b.ex. 60 NS ns.b.ex.",
		"c.b.ex. 60 DS 1 2 3 00",
		"ns.b.ex. 60 A 10.0.0.2",
		"S.D.ex. 60 NS ns.ex.",
		`S.D.ex. 60 TXT "hidden"`,
		"S.D.ex. 60 DS 1 2 3 00",
		"S.D.ex. 60 RRSIG DS 3 60 1759",
		"s.d.ex. 5 RRSIG NSEC 3 5 1759",
		"s.d.ex. 5 NSEC g.ex. NS DS RRSIG NSEC",
		"g.ex. 60 DNAME w.ex.",
		"g.ex. 60 RRSIG DNAME 2 60 1759",
		"g.ex. 5 RRSIG NSEC 2 5 1759",
		"g.ex. 5 NSEC *.w.ex. DNAME RRSIG NSEC",
		`*.w.ex. 60 TXT "hello"`,
		"*.w.ex. 60 RRSIG TXT 2 60 1759",
		"*.w.ex. 5 RRSIG NSEC 2 5 1759",
		"*.w.ex. 5 NSEC www.ex. TXT RRSIG NSEC",
		"www.ex. 60 A 10.0.0.1",
		"www.ex. 60 RRSIG A 2 60 1759",
		"www.ex. 5 RRSIG NSEC 2 5 1759",
		"www.ex. 5 NSEC z.ex. A RRSIG NSEC",
		"z.ex. 30 CNAME www.ex.",
		"z.ex. 30 RRSIG CNAME 2 30 1759",
		"z.ex. 5 RRSIG NSEC 2 5 1759",
		"z.ex. 5 NSEC ex. CNAME RRSIG NSEC",
	}
	if got := toldAll(sign(t, n("ex."), example(), plan())); !slices.Equal(got, want) {
		t.Errorf("P7.2 Sign = %s\nwanted %s", strings.Join(got, "\n"), strings.Join(want, "\n"))
	}
}

func TestSignHashed(t *testing.T) {
	p := hashedPlan()
	signed := sign(t, n("ex."), example(), p)
	types := map[string]string{
		"ex.": " NS SOA RRSIG DNSKEY NSEC3PARAM", "b.ex.": " NS", "d.ex.": "", "s.d.ex.": " NS DS RRSIG", "g.ex.": " DNAME RRSIG",
		"w.ex.": "", "*.w.ex.": " TXT RRSIG", "www.ex.": " A RRSIG", "z.ex.": " CNAME RRSIG",
	}
	var hashes, want, sigs []string
	at := map[string]string{}
	for text := range types {
		h, _ := seal.Hash(n(text), p.Salt, p.Rounds)
		hashes = append(hashes, h)
		at[h] = types[text]
	}
	slices.Sort(hashes)
	for i, h := range hashes {
		owner := data.To32(h) + ".ex. 5 "
		next := data.To32(hashes[(i+1)%len(hashes)])
		want = append(want, owner+"NSEC3 1 0 3 abcd "+next+at[h])
		sigs = append(sigs, owner+"RRSIG NSEC3 2 5 1759")
	}
	if got := toldAll(of(api.NSEC3, signed)); !slices.Equal(got, want) {
		t.Errorf("P7.2 NSEC3: %s\nwanted %s", strings.Join(got, "\n"), strings.Join(want, "\n"))
	}
	if got := covered(api.NSEC3, signed); !slices.Equal(got, sigs) {
		t.Errorf("P7.2 signatures of NSEC3: %q; wanted %q", got, sigs)
	}
	if got := toldAll(of(api.NSEC3PARAM, signed)); !slices.Equal(got, []string{"ex. 5 NSEC3PARAM 1 0 3 abcd"}) {
		t.Errorf("P7.2 NSEC3PARAM: %q", got)
	}
	if got := covered(api.NSEC3PARAM, signed); !slices.Equal(got, []string{"ex. 5 RRSIG NSEC3PARAM 1 5 1759"}) {
		t.Errorf("P7.2 signatures of NSEC3PARAM: %q", got)
	}
	if got := of(api.NSEC, signed); len(got) != 0 {
		t.Errorf("P7.2 NSEC with Hashed: %q", toldAll(got))
	}
}

// TestSignHashedAlone: the one name that is there is its own next.
func TestSignHashedAlone(t *testing.T) {
	p := hashedPlan()
	p.Salt, p.Rounds = strings.Repeat("\x00", 255), 50
	h, _ := seal.Hash(n("ex."), p.Salt, 50)
	want := []string{data.To32(h) + ".ex. 5 NSEC3 1 0 50 " + strings.Repeat("00", 255) + " " + data.To32(h) + " NS SOA RRSIG DNSKEY NSEC3PARAM"}
	if got := toldAll(of(api.NSEC3, sign(t, n("ex."), zoneLines(), p))); !slices.Equal(got, want) {
		t.Errorf("P7.2 NSEC3: %q; wanted %q", got, want)
	}
	if got := toldAll(of(api.NSEC, sign(t, n("ex."), zoneLines(), plan()))); !slices.Equal(got, []string{"ex. 5 NSEC ex. NS SOA RRSIG NSEC DNSKEY"}) {
		t.Errorf("P7.2 NSEC: %q", got)
	}
}

func TestSignLetters(t *testing.T) {
	apex := n("eX.")
	records := list("@ SOA ns h 7 2 3 4 5", "EX. NS ns.ORG.", "AB.C A 10.0.0.2", "Ab.c A 10.0.0.1", "aB.C TXT x", "*.B.c TXT X")
	want := []string{
		"EX. 60 NS ns.ORG.",
		"ex. 60 SOA ns.ex. h.ex. 7 2 3 4 5",
		"EX. 60 RRSIG NS 1 60 1759",
		"ex. 60 RRSIG SOA 1 60 1759",
		"ex. 5 RRSIG NSEC 1 5 1759",
		"eX. 30 RRSIG DNSKEY 1 30 1759",
		"ex. 5 NSEC ab.c.ex. NS SOA RRSIG NSEC DNSKEY",
		"eX. 30 DNSKEY 257 3 253 AAEB3QAAAAM=",
		"Ab.c.ex. 60 A 10.0.0.1",
		"AB.C.ex. 60 A 10.0.0.2",
		`aB.C.ex. 60 TXT "x"`,
		"Ab.c.ex. 60 RRSIG A 3 60 1759",
		"aB.C.ex. 60 RRSIG TXT 3 60 1759",
		"ab.c.ex. 5 RRSIG NSEC 3 5 1759",
		"ab.c.ex. 5 NSEC *.b.c.ex. A TXT RRSIG NSEC",
		`*.B.c.ex. 60 TXT "X"`,
		"*.B.c.ex. 60 RRSIG TXT 3 60 1759",
		"*.b.c.ex. 5 RRSIG NSEC 3 5 1759",
		"*.b.c.ex. 5 NSEC ex. TXT RRSIG NSEC",
	}
	if got := toldAll(sign(t, apex, records, plan())); !slices.Equal(got, want) {
		t.Errorf("P7.2 Sign = %s\nwanted %s", strings.Join(got, "\n"), strings.Join(want, "\n"))
	}
	for _, r := range of(api.NSEC3, sign(t, apex, records, hashedPlan())) {
		if r.Owner != name.Fold(r.Owner) {
			t.Errorf("P7.2 the owner of an NSEC3 isn't folded: %q", r.Owner)
		}
	}
	if r := of(api.NSEC3PARAM, sign(t, apex, records, hashedPlan())); len(r) != 1 || r[0].Owner != apex {
		t.Errorf("P7.2 the owner of NSEC3PARAM isn't apex: %q", toldAll(r))
	}
}

// TestSignAges: the age of absence is the smaller one of the SOA's age and its minimum.
func TestSignAges(t *testing.T) {
	for _, c := range []struct {
		soa string
		age int
	}{
		{"@ 60 SOA ns h 7 2 3 4 59", 59},
		{"@ 60 SOA ns h 7 2 3 4 60", 60},
		{"@ 60 SOA ns h 7 2 3 4 61", 60},
		{"@ 60 SOA ns h 7 2 3 4 0", 0},
		{"@ 0 SOA ns h 7 2 3 4 9", 0},
		{"@ 2147483647 SOA ns h 7 2 3 4 4294967295", 2147483647},
	} {
		for _, p := range []api.Plan{plan(), hashedPlan()} {
			for _, r := range sign(t, n("ex."), list(c.soa, "@ 7 NS ns.org.", "a 8 A 10.0.0.1"), p) {
				want := map[int]int{api.NSEC: c.age, api.NSEC3: c.age, api.NSEC3PARAM: c.age, api.DNSKEY: 30, api.NS: 7, api.A: 8}
				kind := r.Type
				if kind == api.RRSIG {
					kind = int(r.Data[1])
				}
				if age, ok := want[kind]; ok && r.TTL != age {
					t.Errorf("P7.2 with %s: %s; wanted the age %d", c.soa, told(r), age)
				}
			}
		}
	}
	p := plan()
	for _, age := range []int{0, 2147483647} {
		p.KeyTTL = age
		if got := of(api.DNSKEY, sign(t, n("ex."), zoneLines(), p)); len(got) != 1 || got[0].TTL != age {
			t.Errorf("P7.2 KeyTTL %d: %q", age, toldAll(got))
		}
	}
}

// TestSignAnew: what signing made goes, whatever it was.
func TestSignAnew(t *testing.T) {
	want := sign(t, n("ex."), example(), plan())
	for _, p := range []api.Plan{plan(), hashedPlan(), {Keys: []api.PlanKey{active(1, 256)}, Until: 7}} {
		if got := sign(t, n("ex."), sign(t, n("ex."), example(), p), plan()); !slices.Equal(got, want) {
			t.Errorf("P7.2 Sign of a signed zone differs")
		}
	}
	stray := append(example(), api.Record{Owner: "no name", Type: api.NSEC3}, api.Record{Type: api.RRSIG})
	if got := sign(t, n("ex."), append(stray, list("q DNSKEY 1 2 3 AAAA", "q CNAME x", "q NSEC3PARAM 1 0 0 -")[0]), plan()); !slices.Equal(got, want) {
		t.Errorf("P7.2 Sign with strays that Strip takes away differs")
	}
}

// TestWhoSigns: by which keys DNSKEY are signed, and by which all else.
func TestWhoSigns(t *testing.T) {
	for _, c := range []struct {
		what   string
		keys   []api.PlanKey
		dnskey []api.Key
		others []api.Key
	}{
		{"one entry", []api.PlanKey{active(0, 257)}, []api.Key{key(0, 257)}, []api.Key{key(0, 257)}},
		{"one zone", []api.PlanKey{active(0, 256)}, []api.Key{key(0, 256)}, []api.Key{key(0, 256)}},
		{"both", []api.PlanKey{active(0, 256), active(1, 257)}, []api.Key{key(1, 257)}, []api.Key{key(0, 256)}},
		{"an idle entry", []api.PlanKey{active(0, 256), idle(1, 257)}, []api.Key{key(0, 256)}, []api.Key{key(0, 256)}},
		{"an idle zone", []api.PlanKey{idle(0, 256), active(1, 257)}, []api.Key{key(1, 257)}, []api.Key{key(1, 257)}},
		{"two of each", []api.PlanKey{active(0, 256), active(1, 257), active(2, 256), active(3, 257), idle(4, 256), idle(5, 257)},
			[]api.Key{key(1, 257), key(3, 257)}, []api.Key{key(0, 256), key(2, 256)}},
		{"two entries", []api.PlanKey{active(3, 257), active(1, 257), idle(2, 256)}, []api.Key{key(3, 257), key(1, 257)}, []api.Key{key(3, 257), key(1, 257)}},
		{"two zones", []api.PlanKey{active(3, 256), active(1, 256), idle(2, 257)}, []api.Key{key(3, 256), key(1, 256)}, []api.Key{key(3, 256), key(1, 256)}},
	} {
		for _, p := range []api.Plan{plan(), hashedPlan()} {
			p.Keys = c.keys
			signed := sign(t, n("ex."), zoneLines("a A 10.0.0.1", "b NS ns", "b DS 1 2 3 00"), p)
			if got := of(api.DNSKEY, signed); len(got) != len(c.keys) {
				t.Errorf("P7.2 %s: %d DNSKEY; wanted %d", c.what, len(got), len(c.keys))
			}
			z, _, _ := zone.New(n("ex."), signed)
			for _, s := range []struct {
				owner string
				t     int
				keys  []api.Key
			}{
				{n("ex."), api.DNSKEY, c.dnskey}, {n("ex."), api.SOA, c.others}, {n("ex."), api.NS, c.others},
				{n("a.ex."), api.A, c.others}, {n("b.ex."), api.DS, c.others}, {n("b.ex."), api.NS, nil},
			} {
				var want []api.Record
				for _, k := range s.keys {
					sig, _ := seal.Sign(k, n("ex."), z.Set(s.owner, s.t), 100, 200)
					want = append(want, sig)
				}
				slices.SortFunc(want, func(a, b api.Record) int { return strings.Compare(a.Data, b.Data) })
				got := slices.DeleteFunc(z.Set(s.owner, api.RRSIG), func(r api.Record) bool { return int(r.Data[0])<<8|int(r.Data[1]) != s.t })
				if !slices.Equal(got, want) {
					t.Errorf("P7.2 %s: signatures of %q, %d: %q; wanted %q", c.what, s.owner, s.t, toldAll(got), toldAll(want))
				}
			}
		}
	}
}

// TestSignTimes: signatures hold from From until Until.
func TestSignTimes(t *testing.T) {
	for _, c := range [][2]int{{0, 0}, {0, 4294967295}, {4294967295, 4294967295}, {100, 200}} {
		p := plan()
		p.From, p.Until = c[0], c[1]
		signed := sign(t, n("ex."), zoneLines(), p)
		soa, public := of(api.SOA, signed), seal.Public(p.Keys[0].Key)
		for _, sig := range of(api.RRSIG, signed) {
			if sig.Data[1] != api.SOA {
				continue
			}
			for now, want := range map[int]api.Errno{c[0]: api.OK, c[1]: api.OK, c[0] - 1: api.ErrTime, c[1] + 1: api.ErrTime} {
				if e := seal.Verify(soa, sig, n("ex."), public, now); e != want {
					t.Errorf("P7.2 From %d, Until %d: Verify at %d = %d; wanted %d", c[0], c[1], now, e, want)
				}
			}
		}
	}
}

// TestSignRoot: the root is a zone like others.
func TestSignRoot(t *testing.T) {
	records := listAt(api.Root, "@ SOA ns h 7 2 3 4 5", "@ NS ns.org.", "org NS ns.org.", "ns.org A 10.0.0.1", "a.b.ex TXT x")
	want := []string{". 5 NSEC a.b.ex. NS SOA RRSIG NSEC DNSKEY", "a.b.ex. 5 NSEC org. TXT RRSIG NSEC", "org. 5 NSEC . NS RRSIG NSEC"}
	if got := toldAll(of(api.NSEC, sign(t, api.Root, records, plan()))); !slices.Equal(got, want) {
		t.Errorf("P7.2 NSEC of the root: %q; wanted %q", got, want)
	}
	if got := of(api.NSEC3, sign(t, api.Root, records, hashedPlan())); len(got) != 5 || len(name.Labels(got[0].Owner)) != 1 {
		t.Errorf("P7.2 NSEC3 of the root: %q", toldAll(got))
	}
}

// TestSignMemory: what is handed in stays, spare room included; what comes out is new.
func TestSignMemory(t *testing.T) {
	for _, p := range []api.Plan{plan(), hashedPlan()} {
		spare := api.Record{Owner: "spare"}
		given := append(slices.Clone(example()), spare)[:len(example())]
		p.Keys = append([]api.PlanKey{active(0, 257), active(1, 256)}, api.PlanKey{})[:2]
		want := sign(t, n("ex."), example(), p)
		first := sign(t, n("ex."), given, p)
		stripped := signer.Strip(given)
		if !slices.Equal(given, example()) || given[:len(given)+1][len(given)] != spare ||
			!slices.Equal(p.Keys, []api.PlanKey{active(0, 257), active(1, 256)}) || p.Keys[:3][2] != (api.PlanKey{}) {
			t.Errorf("P2: Sign or Strip changed what was handed in")
		}
		clear(first)
		clear(stripped[:cap(stripped)])
		if !slices.Equal(given, example()) || !slices.Equal(sign(t, n("ex."), given, p), want) {
			t.Errorf("P2: what Sign or Strip answered is shared")
		}
	}
}
