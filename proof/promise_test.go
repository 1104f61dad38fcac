package proof_test

import (
	"math/rand"
	"slices"
	"strings"
	"testing"

	"gazetteer/api"
	"gazetteer/name"
	"gazetteer/proof"
	"gazetteer/signer"
	"gazetteer/zone"
)

// P8.6, of signed zones of chance, and of every name of few labels in them.

// signedZone gives one of chance, or nil.
func (d dice) signedZone(apex string, hashed bool) *zone.Zone {
	lines := []string{"@ SOA ns h 7 2 3 4 5", "@ NS ns.org."}
	for range d.Intn(8) {
		owner := name.Show(d.name(apex))
		switch d.Intn(8) {
		case 0:
			lines = append(lines, owner+" NS ns.org.")
			if d.Intn(3) == 0 {
				lines = append(lines, owner+" DS 1 253 1 aa")
			}
		case 1:
			lines = append(lines, owner+" CNAME www.org.")
		case 2:
			lines = append(lines, owner+" DNAME org.")
		case 3:
			lines = append(lines, owner+" TXT a", owner+" A 10.0.0.1")
		default:
			lines = append(lines, owner+d.oneOf(" A 10.0.0.2", " TXT b"))
		}
	}
	p := plan(hashed)
	p.Rounds %= 2 // fewer, for speed
	records, e := signer.Sign(apex, parse(apex, lines), p)
	if e != api.OK {
		return nil
	}
	z, _, e := zone.New(apex, records)
	if e != api.OK {
		panic(strings.Join(lines, "|"))
	}
	return z
}

// everyName gives the names within the apex that dice give, and some more.
func everyName(apex string) []string {
	all := []string{apex}
	for from := 0; len(all) < 1+6+36+216; from++ {
		for _, label := range []string{"\x01a", "\x01B", "\x01*", "\x02ab", "\x01!", "\x01z"} {
			all = append(all, label+all[from])
		}
	}
	return all
}

// part gives some of the records that prove, in another order.
func (d dice) part(z *zone.Zone) []api.Record {
	list := slices.Concat(of(api.NSEC, z.Records()), of(api.NSEC3, z.Records()))
	d.Shuffle(len(list), func(i, j int) { list[i], list[j] = list[j], list[i] })
	return list[:d.Intn(len(list)+1)]
}

// isOwn: is the name there, and not below a cut?
func isOwn(z *zone.Zone, q string) bool {
	for n := q; len(n) > len(z.Apex()); {
		n = name.Parent(n)
		if len(n) > len(z.Apex()) && len(z.Set(n, api.NS)) > 0 {
			return false
		}
	}
	return slices.Contains(z.Names(), name.Fold(q))
}

// checkSound: nothing that is there is proved not to be.
func checkSound(t *testing.T, z *zone.Zone, records []api.Record, q string, typ int, hashed bool) int {
	t.Helper()
	kind := z.Find(q, typ).Kind
	got := proof.Judge(z.Apex(), records, q, typ)
	if got == noName && kind != api.FoundNoName || got == noData && kind != api.FoundNoData {
		t.Fatalf("P8.6: %q prove of %q, %d: %d; Find says %d; zone %q", toldAll(records), q, typ, got, kind, toldAll(z.Records()))
	}
	there := slices.Contains(z.Names(), name.Fold(q))
	if hashed {
		there = isOwn(z, q)
	}
	if there && proof.Absent(z.Apex(), records, q) {
		t.Fatalf("P8.6: %q prove that %q isn't there; zone %q", toldAll(records), q, toldAll(z.Records()))
	}
	return got
}

// checkEnough: what Make gives is enough.
func checkEnough(t *testing.T, z *zone.Zone, q string, typ int) int {
	t.Helper()
	f := z.Find(q, typ)
	records, e := proof.Make(z, q, typ)
	if e != api.OK {
		t.Fatalf("P8.6: Make(%q, %d) = %d; zone %q", q, typ, e, toldAll(z.Records()))
	}
	ok := true
	switch {
	case f.Kind == api.FoundNoName:
		ok = proof.Judge(z.Apex(), records, q, typ) == noName
	case f.Kind == api.FoundNoData:
		ok = proof.Judge(z.Apex(), records, q, typ) == noData
	case f.Kind == api.FoundReferral && len(z.Set(f.Owner, api.DS)) == 0:
		ok = proof.Judge(z.Apex(), records, f.Owner, api.DS) == noData
	case f.Wild:
		ok = proof.Absent(z.Apex(), records, name.Tail(q, name.Count(f.Encloser)+1))
	default:
		ok = len(records) == 0
	}
	if !ok {
		t.Fatalf("P8.6: Make(%q, %d) = %q isn't enough; zone %q", q, typ, toldAll(records), toldAll(z.Records()))
	}
	return f.Kind
}

func TestPromise(t *testing.T) {
	d := dice{rand.New(rand.NewSource(10))}
	for _, hashed := range []bool{false, true} {
		proved, kinds := map[int]int{}, map[int]int{}
		for range 150 {
			apex := d.oneOf(n("ex."), n("Ex."), api.Root)
			z := d.signedZone(apex, hashed)
			if z == nil {
				continue
			}
			types := []int{1, 2, 5, 6, 16, 39, 43, 48, 51, 255, 1000}
			if !hashed {
				types = append(types, api.RRSIG, api.NSEC, api.NSEC3)
			}
			for _, q := range everyName(apex) {
				typ := types[d.Intn(len(types))]
				proved[checkSound(t, z, d.part(z), q, typ, hashed)]++
				proved[checkSound(t, z, z.Records(), q, typ, hashed)]++
				kinds[checkEnough(t, z, q, typ)]++
			}
		}
		for _, kind := range []int{nothing, noName, noData} {
			if proved[kind] < 100 {
				t.Errorf("the zones of chance are too much alike: %v", proved)
			}
		}
		for kind := api.FoundAnswer; kind <= api.FoundNoName; kind++ {
			if kinds[kind] < 50 {
				t.Errorf("the zones of chance are too much alike: %v", kinds)
			}
		}
	}
}

// TestPromiseExample: of the zone with something of each kind, all of what it
// has proves all that isn't there.
func TestPromiseExample(t *testing.T) {
	for _, hashed := range []bool{false, true} {
		z := signed(t, hashed, example()...)
		for _, c := range questions() {
			want := nothing
			switch c.kind {
			case api.FoundNoName:
				want = noName
			case api.FoundNoData:
				want = noData
			}
			if got := proof.Judge(z.Apex(), z.Records(), n(c.q), c.t); got != want {
				t.Errorf("P8.6 Judge(%s, %d) of the whole zone = %d; wanted %d", c.q, c.t, got, want)
			}
			checkEnough(t, z, n(c.q), c.t)
		}
	}
}
