package signer_test

import (
	"slices"
	"strings"
	"testing"

	"gazetteer/api"
	"gazetteer/data"
	"gazetteer/seal"
	"gazetteer/signer"
)

// refuses asks for an error, and that nothing comes with it.
func refuses(t *testing.T, what string, apex string, records []api.Record, p api.Plan, want api.Errno) {
	t.Helper()
	if got, e := signer.Sign(apex, records, p); e != want || want != api.OK && len(got) != 0 {
		t.Errorf("P7.2 Sign, %s: %d records, %d; wanted the error %d", what, len(got), e, want)
	}
}

func TestSignNoZone(t *testing.T) {
	for _, c := range []struct {
		what    string
		apex    string
		records []api.Record
		want    api.Errno
	}{
		{"no name", "ex.", zoneLines(), api.ErrName},
		{"nothing", n("ex."), nil, api.ErrSoa},
		{"no NS", n("ex."), list("@ SOA ns h 7 2 3 4 5"), api.ErrNs},
		{"another apex", n("org."), zoneLines(), api.ErrOutside},
		{"twice", n("ex."), zoneLines("a A 10.0.0.1", "A A 10.0.0.1"), api.ErrTwice},
		{"no data", n("ex."), append(zoneLines(), api.Record{Owner: n("a.ex."), Type: api.A, Class: api.IN, Data: "x"}), api.ErrForm},
		{"a star's NS", n("ex."), zoneLines("* NS ns"), api.ErrWild},
		{"an alias that isn't alone", n("ex."), zoneLines("a CNAME b", "a A 10.0.0.1"), api.ErrCname},
		{"something below a graft", n("ex."), zoneLines("a DNAME b", "b.a A 10.0.0.1"), api.ErrDname},
		{"ages", n("ex."), zoneLines("a 1 A 10.0.0.1", "a 2 A 10.0.0.2"), api.ErrTtl},
		{"too many", n("ex."), append(zoneLines(), texts(n("ex."), 1999)...), api.ErrMany},
		// Strip takes away what would be wrong.
		{"an alias beside a DNSKEY", n("ex."), zoneLines("a CNAME b", "a DNSKEY 1 2 3 AAAA"), api.OK},
		{"many that go", n("ex."), append(slices.Repeat(list("x.org. NSEC a"), 3000), zoneLines()...), api.OK},
	} {
		refuses(t, c.what, c.apex, c.records, plan(), c.want)
		refuses(t, c.what+", hashed", c.apex, c.records, hashedPlan(), c.want)
	}
}

func TestSignWrongPlan(t *testing.T) {
	plain := func(change func(p *api.Plan)) api.Plan {
		p := plan()
		change(&p)
		return p
	}
	hashed := func(change func(p *api.Plan)) api.Plan {
		p := hashedPlan()
		change(&p)
		return p
	}
	with := func(keys ...api.PlanKey) api.Plan { return plain(func(p *api.Plan) { p.Keys = keys }) }
	odd := func(k api.Key) api.PlanKey { return api.PlanKey{Key: k} }
	other := active(0, 257)
	other.Key.Secret++
	other.Active = false
	for _, c := range []struct {
		what string
		p    api.Plan
		want api.Errno
	}{
		{"no key", with(), api.ErrKey},
		{"none is active", with(idle(0, 257), idle(1, 256)), api.ErrKey},
		{"flags", with(active(0, 257), odd(api.Key{Flags: 255, Modulus: 6, Exponent: 1, Secret: 1})), api.ErrKey},
		{"modulus", with(active(0, 257), odd(api.Key{Flags: 256, Modulus: 5, Exponent: 1, Secret: 1})), api.ErrKey},
		{"a large modulus", with(odd(api.Key{Flags: 256, Modulus: 2147483648, Exponent: 1, Secret: 1}), active(0, 257)), api.ErrKey},
		{"exponent", with(active(0, 257), odd(api.Key{Flags: 256, Modulus: 6, Exponent: 0, Secret: 1})), api.ErrKey},
		{"secret", with(active(0, 257), odd(api.Key{Flags: 256, Modulus: 6, Exponent: 1, Secret: 0})), api.ErrKey},
		{"a wrong key that is active", with(api.PlanKey{Active: true}), api.ErrKey},
		{"a small one that is right", with(active(0, 257), odd(api.Key{Flags: 256, Modulus: 6, Exponent: 1, Secret: 1})), api.OK},
		{"twice", with(active(0, 257), active(0, 257)), api.ErrTwice},
		{"twice, not in a row", with(active(0, 257), active(1, 256), idle(0, 257)), api.ErrTwice},
		{"twice, with other secrets", with(active(0, 257), other), api.ErrTwice},
		{"the same with other flags", with(active(0, 257), active(0, 256)), api.OK},
		{"before all times", plain(func(p *api.Plan) { p.From = -1 }), api.ErrTime},
		{"behind all times", plain(func(p *api.Plan) { p.Until = 4294967296 }), api.ErrTime},
		{"no time", plain(func(p *api.Plan) { p.From = p.Until + 1 }), api.ErrTime},
		{"all times", plain(func(p *api.Plan) { p.From, p.Until = 0, 4294967295 }), api.OK},
		{"a moment", plain(func(p *api.Plan) { p.From = p.Until }), api.OK},
		{"a long salt", hashed(func(p *api.Plan) { p.Salt = strings.Repeat("x", 256) }), api.ErrArg},
		{"a salt", hashed(func(p *api.Plan) { p.Salt = strings.Repeat("x", 255) }), api.OK},
		{"no salt", hashed(func(p *api.Plan) { p.Salt = "" }), api.OK},
		{"rounds below 0", hashed(func(p *api.Plan) { p.Rounds = -1 }), api.ErrArg},
		{"many rounds", hashed(func(p *api.Plan) { p.Rounds = 51 }), api.ErrArg},
		{"all rounds", hashed(func(p *api.Plan) { p.Rounds = 50 }), api.OK},
		{"no rounds", hashed(func(p *api.Plan) { p.Rounds = 0 }), api.OK},
		{"a long salt without hashes", plain(func(p *api.Plan) { p.Salt = strings.Repeat("x", 256) }), api.OK},
		{"rounds without hashes", plain(func(p *api.Plan) { p.Rounds = -1 }), api.OK},
		{"keys' age below 0", plain(func(p *api.Plan) { p.KeyTTL = -1 }), api.ErrTtl},
		{"keys' age", plain(func(p *api.Plan) { p.KeyTTL = 2147483648 }), api.ErrTtl},
	} {
		refuses(t, c.what, n("ex."), zoneLines("a A 10.0.0.1"), c.p, c.want)
	}
}

// The faults of Sign, as they are told one ahead of the other.
const (
	noZone = iota
	wrongKey
	twiceKey
	noTime
	wrongRounds
	wrongAge
	manyTold
	clash
	longOwner
	manyInAll
	noZoneInAll
	faults
)

// spoiled gives what Sign is given, with faults.
func spoiled(wrong func(fault int) bool) (string, []api.Record, api.Plan) {
	p := hashedPlan()
	p.Keys = []api.PlanKey{active(0, 257), active(1, 257)}
	apex := long(200)
	if wrong(longOwner) {
		apex = long(239)
	}
	if wrong(noZoneInAll) {
		// Both keys have one tag and make the same signatures.
		p.Keys = []api.PlanKey{
			{Key: api.Key{Flags: 256, Modulus: 7, Exponent: 1, Secret: 1}, Active: true},
			{Key: api.Key{Flags: 256, Modulus: 7, Exponent: 65536, Secret: 1}, Active: true},
		}
	}
	if wrong(twiceKey) {
		p.Keys = append(p.Keys, p.Keys[0])
	}
	if wrong(wrongKey) {
		p.Keys = append(p.Keys, api.PlanKey{})
	}
	if wrong(noTime) {
		p.From = p.Until + 1
	}
	if wrong(wrongRounds) {
		p.Rounds = 51
	}
	if wrong(wrongAge) {
		p.KeyTTL = -1
	}
	one, two := twins()
	records := listAt(apex, "@ SOA ns h 7 2 3 4 5", "@ NS ns")
	records = append(records, address(under(one, apex)))
	if wrong(clash) {
		records = append(records, address(under(two, apex)))
	}
	if wrong(manyTold) {
		records = append(records, texts(apex, 1998-len(records))...)
	} else if wrong(manyInAll) {
		records = append(records, texts(apex, 1997-len(records))...)
	}
	if wrong(noZone) {
		records[1].Type = api.TXT
		records[1].Data = "\x03now"
	}
	return apex, records, p
}

func TestSignFaultsInOrder(t *testing.T) {
	codes := [faults]api.Errno{
		api.ErrNs, api.ErrKey, api.ErrTwice, api.ErrTime, api.ErrArg, api.ErrTtl,
		api.ErrMany, api.ErrClash, api.ErrLong, api.ErrMany, api.ErrTwice,
	}
	for fault, want := range codes {
		apex, records, p := spoiled(func(f int) bool { return f == fault })
		refuses(t, "a fault alone", apex, records, p, want)
		apex, records, p = spoiled(func(f int) bool { return f >= fault })
		refuses(t, "a fault and all behind it", apex, records, p, want)
	}
	apex, records, p := spoiled(func(f int) bool { return false })
	refuses(t, "no fault", apex, records, p, api.OK)
}

func TestSignMany(t *testing.T) {
	for _, c := range []struct {
		count int
		p     api.Plan
		want  api.Errno
	}{
		// SOA, NS, DNSKEY, NSEC, and the signatures of these and of the TXT.
		{1991, plan(), api.OK},
		{1992, plan(), api.ErrMany},
		// And NSEC3PARAM with its signature.
		{1989, hashedPlan(), api.OK},
		{1990, hashedPlan(), api.ErrMany},
	} {
		records := append(zoneLines(), texts(n("ex."), c.count)...)
		refuses(t, "many records", n("ex."), records, c.p, c.want)
		if got, _ := signer.Sign(n("ex."), records, c.p); c.want == api.OK && len(got) != 2000 {
			t.Errorf("P7.2 Sign gave %d records; wanted 2000", len(got))
		}
	}
	// Names between count: each has an NSEC3 with a signature, but no NSEC.
	deep := zoneLines(strings.Repeat("x.", 120) + "a A 10.0.0.1")
	for i := range 9 {
		deep = append(deep, zoneLines(strings.Repeat("x.", 120) + string([]byte{byte('b' + i)}) + " A 10.0.0.1")[2])
	}
	refuses(t, "names between", n("ex."), deep, plan(), api.OK)
	refuses(t, "names between, hashed", n("ex."), deep, hashedPlan(), api.ErrMany)
}

func TestSignClash(t *testing.T) {
	one, two := twins()
	apex := n("ex.")
	a, b := under(one, apex), under(two, apex)
	server := func(owner string) api.Record {
		return api.Record{Owner: owner, Type: api.NS, Class: api.IN, TTL: 60, Data: n("ns.org.")}
	}
	for _, c := range []struct {
		what    string
		records []api.Record
		want    api.Errno
	}{
		{"one of the two", []api.Record{address(a)}, api.OK},
		{"both", []api.Record{address(a), address(b)}, api.ErrClash},
		{"both, one a cut", []api.Record{address(a), server(b)}, api.ErrClash},
		{"both between", []api.Record{address(under("x", a)), address(under("y", b))}, api.ErrClash},
		{"both above others", []api.Record{address(under("x", a)), address(under("x", b))}, api.ErrClash},
		{"one below a cut", []api.Record{address(under(one, n("c.ex."))), address(under(two, n("c.ex."))), server(n("c.ex."))}, api.OK},
		{"in other zones", []api.Record{address(a), address(under(two, n("c.ex.")))}, api.OK},
	} {
		records := append(zoneLines(), c.records...)
		for _, rounds := range []int{0, 1, 50} {
			p := hashedPlan()
			p.Rounds = rounds
			refuses(t, c.what, apex, records, p, c.want)
		}
		refuses(t, c.what+", without hashes", apex, records, plan(), api.OK)
	}
}

func TestSignLong(t *testing.T) {
	for size, want := range map[int]api.Errno{238: api.OK, 239: api.ErrLong, 255: api.ErrLong} {
		records := listAt(long(size), "@ SOA ns.ex. h.ex. 7 2 3 4 5", "@ NS ns.org.")
		refuses(t, "a long apex", long(size), records, hashedPlan(), want)
		refuses(t, "a long apex, without hashes", long(size), records, plan(), api.OK)
	}
}

// TestSignHashNames: a hash's name may be one of the zone's; nothing but an
// alias is in its way.
func TestSignHashNames(t *testing.T) {
	p := hashedPlan()
	h, _ := seal.Hash(n("ex."), p.Salt, p.Rounds)
	owner := data.To32(h)
	for line, want := range map[string]api.Errno{
		" CNAME x": api.ErrCname, " A 10.0.0.1": api.OK, " NS ns": api.OK, " DNAME x": api.OK,
	} {
		refuses(t, "a hash's name:"+line, n("ex."), zoneLines(owner+line), p, want)
		refuses(t, "a hash's name:"+line, n("ex."), zoneLines(strings.ToUpper(owner)+line), p, want)
		refuses(t, "a hash's name, without hashes:"+line, n("ex."), zoneLines(owner+line), plan(), api.OK)
	}
	// At such a cut the NSEC3 is signed, the NS aren't.
	signed := sign(t, n("ex."), zoneLines(owner+" NS ns"), p)
	if got := len(covered(api.NSEC3, signed)); got != 2 {
		t.Errorf("P7.2 %d signatures of NSEC3; wanted 2", got)
	}
	if got := covered(api.NS, signed); len(got) != 1 {
		t.Errorf("P7.2 signatures of NS: %q", got)
	}
}
