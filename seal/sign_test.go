package seal_test

import (
	"math"
	"slices"
	"testing"

	"gazetteer/api"
	"gazetteer/name"
	"gazetteer/seal"
)

// wrongSets: records that are no set, by what spoils them.
func wrongSets() map[string][]api.Record {
	set := list("a A 10.0.0.1", "a A 10.0.0.2")
	spoilt := func(change func(*api.Record)) []api.Record { return with(set, 1, change) }
	return map[string][]api.Record{
		"nil":                   nil,
		"none":                  {},
		"no owner":              spoilt(func(r *api.Record) { r.Owner = "" }),
		"no owners":             {{Type: api.A, Class: api.IN, Data: "\x01\x02\x03\x04"}},
		"an owner too long":     {{Owner: long(255) + "\x00", Type: api.A, Class: api.IN, Data: "\x01\x02\x03\x04"}},
		"another owner":         spoilt(func(r *api.Record) { r.Owner = n("b.ex.") }),
		"an owner below":        spoilt(func(r *api.Record) { r.Owner = n("a.a.ex.") }),
		"another class":         spoilt(func(r *api.Record) { r.Class = 3 }),
		"class 254":             spoilt(func(r *api.Record) { r.Class = api.ClsNone }),
		"an age below 0":        spoilt(func(r *api.Record) { r.TTL = -1 }),
		"an age of 2 to 31":     spoilt(func(r *api.Record) { r.TTL = 2147483648 }),
		"another type":          spoilt(func(r *api.Record) { r.Type = 4 }),
		"no data":               spoilt(func(r *api.Record) { r.Data = "" }),
		"data too long":         spoilt(func(r *api.Record) { r.Data += "\x00" }),
		"type 0":                {{Owner: n("a.ex."), Class: api.IN}},
		"type 41":               {{Owner: n("a.ex."), Type: api.OPT, Class: api.IN}},
		"type 255":              {{Owner: n("a.ex."), Type: api.ANY, Class: api.IN}},
		"type 65536":            {{Owner: n("a.ex."), Type: 65536, Class: api.IN}},
		"signatures":            list("a RRSIG A 253 2 60 9 5 1759 ex. AAAA"),
		"twice the same":        list("a A 10.0.0.1", "a A 10.0.0.2", "a A 10.0.0.1"),
		"twice the same folded": list("a MX 1 m.ex.", "a MX 2 n.ex.", "A MX 1 M.eX."),
		"the first of them":     with(set, 0, func(r *api.Record) { r.Data = "" }),
	}
}

func TestSign(t *testing.T) {
	for _, c := range []struct {
		set         []api.Record
		signer      string
		from, until int
		owner       string
		age         int
		data        string
	}{
		{list("*.W.Ex. 300 MX 10 Mail.Ex.", "*.w.ex. 300 MX 5 b.eX."), "eX.", 5, 9, "*.W.Ex.", 300,
			"\x00\x0f\xfd\x02\x00\x00\x01\x2c\x00\x00\x00\x09\x00\x00\x00\x05\x06\xdf\x02ex\x00\x00\x00\x34\x35"},
		{list(". 0 NS A."), ".", 0, 4294967295, ".", 0,
			"\x00\x02\xfd\x00\x00\x00\x00\x00\xff\xff\xff\xff\x00\x00\x00\x00\x06\xdf\x00\x00\x00\x00\x26"},
		{list("a TXT Hi"), "ex.", 1, 2, "a.ex.", 60,
			"\x00\x10\xfd\x02\x00\x00\x00\x3c\x00\x00\x00\x02\x00\x00\x00\x01\x06\xdf\x02ex\x00\x00\x00\x14\xdb"},
	} {
		want := api.Record{Owner: n(c.owner), Type: api.RRSIG, Class: api.IN, TTL: c.age, Data: c.data}
		if got, e := seal.Sign(entry(), n(c.signer), c.set, c.from, c.until); got != want || e != api.OK {
			t.Errorf("P6.5 Sign(%+v) = %+v, %d; wanted %+v", c.set, got, e, want)
		}
	}
}

// TestSignFields: the fields that hang on an owner, a signer and times, at their edges.
func TestSignFields(t *testing.T) {
	deep := api.Root
	for len(deep) < 255 {
		deep = "\x01*" + deep
	}
	for _, c := range []struct {
		owner, signer string
		labels        int
	}{
		{api.Root, api.Root, 0},
		{n("*."), api.Root, 0},
		{n("**."), api.Root, 1},
		{n("ex."), n("EX."), 1},
		{n("*.ex."), n("ex."), 1},
		{n("*.*.ex."), n("ex."), 2},
		{n("a.*.ex."), n("*.ex."), 3},
		{n("*.ex."), n("*.eX."), 1}, // a zone may begin at a star
		{deep, n("*."), 126},
		{deep[2:], api.Root, 125},
	} {
		set := []api.Record{{Owner: c.owner, Type: 65535, Class: api.IN, TTL: api.MaxTTL}}
		sig, e := seal.Sign(entry(), c.signer, set, api.MaxTime, api.MaxTime)
		head := "\xff\xff\xfd" + string([]byte{byte(c.labels)}) + "\x7f\xff\xff\xff\xff\xff\xff\xff\xff\xff\xff\xff\x06\xdf" + name.Fold(c.signer)
		if e != api.OK || sig.Owner != c.owner || sig.TTL != api.MaxTTL || len(sig.Data) != len(head)+4 || sig.Data[:len(head)] != head {
			t.Errorf("P6.5 Sign of %q by %q = %+v, %d; wanted data that begin with %x", c.owner, c.signer, sig, e, head)
		}
		if e := seal.Verify(set, sig, c.signer, seal.Public(entry()), api.MaxTime); e != api.OK {
			t.Errorf("P6.5, P6.6 Verify of %q by %q = %d", c.owner, c.signer, e)
		}
	}
}

func TestSignWrong(t *testing.T) {
	set := list("a A 10.0.0.1", "a A 10.0.0.2")
	ages := list("a 60 A 10.0.0.1", "a 61 A 10.0.0.2")
	bad := api.Key{Flags: 257, Modulus: 5, Exponent: 3, Secret: 3}
	for _, c := range []struct {
		k           api.Key
		signer      string
		set         []api.Record
		from, until int
		e           api.Errno
	}{
		{bad, "", nil, 9, 5, api.ErrKey},
		{bad, n("ex."), set, 5, 9, api.ErrKey},
		{api.Key{}, n("ex."), set, 5, 9, api.ErrKey},
		{entry(), "", nil, 9, 5, api.ErrName},
		{entry(), "ex", set, 5, 9, api.ErrName},
		{entry(), n("b."), nil, 9, 5, api.ErrTime},
		{entry(), n("ex."), set, 9, 8, api.ErrTime},
		{entry(), n("ex."), set, -1, 9, api.ErrTime},
		{entry(), n("ex."), set, -2, -1, api.ErrTime},
		{entry(), n("ex."), set, 5, 4294967296, api.ErrTime},
		{entry(), n("ex."), set, 4294967296, 4294967296, api.ErrTime},
		{entry(), n("ex."), set, math.MinInt, math.MaxInt, api.ErrTime},
		{entry(), n("b."), nil, 5, 9, api.ErrForm},
		{entry(), n("b."), ages, 5, 9, api.ErrForm},
		{entry(), n("ex."), ages, 5, 9, api.ErrForm},
		{entry(), n("b."), set, 5, 9, api.ErrOutside},
		{entry(), n("a.a.ex."), set, 5, 9, api.ErrOutside},
		{entry(), n("b.ex."), set, 5, 9, api.ErrOutside},
	} {
		if sig, e := seal.Sign(c.k, c.signer, c.set, c.from, c.until); sig != (api.Record{}) || e != c.e {
			t.Errorf("P6.5 Sign(%+v, %q, %+v, %d, %d) = %+v, %d; wanted %d", c.k, c.signer, c.set, c.from, c.until, sig, e, c.e)
		}
	}
	for why, set := range wrongSets() {
		if sig, e := seal.Sign(entry(), n("ex."), set, 5, 9); sig != (api.Record{}) || e != api.ErrForm {
			t.Errorf("P6.5 Sign(%+v) = %+v, %d; wanted %d: %s", set, sig, e, api.ErrForm, why)
		}
	}
}

// TestSignSame: order and letters are not signed, data other than names are.
func TestSignSame(t *testing.T) {
	one := signed(t, list("a MX 1 b", "a MX 2 c"))
	if again := signed(t, list("a MX 2 C", "A MX 1 B")); again != one {
		t.Errorf("P6.5 signatures %+v and %+v of one set", one, again)
	}
	if upper := signed(t, list("A MX 2 C", "a MX 1 B")); upper.Data != one.Data || upper.Owner != n("A.ex.") {
		t.Errorf("P6.5 signatures %+v and %+v of one set", one, upper)
	}
	if other := signed(t, list("a MX 1 b", "a MX 2 d")); other.Data == one.Data {
		t.Errorf("P6.5 one signature of two sets: %+v", other)
	}
	small := signed(t, list("a TXT x", "a TXT X"))
	if other := signed(t, list("a TXT x", "a TXT Y")); other.Data == small.Data {
		t.Errorf("P6.5 one signature of two texts: %+v", other)
	}
}

// TestKeepsOut: what is handed in stays as it is, spare room too.
func TestKeepsOut(t *testing.T) {
	room := append(list("a A 10.0.0.9", "a A 10.0.0.1", "a A 10.0.0.5"), api.Record{Data: "room"}, api.Record{Data: "more"})
	before := slices.Clone(room)
	sig := signed(t, room[:3])
	if e := seal.Verify(room[:3], sig, n("ex."), seal.Public(entry()), 150); e != api.OK {
		t.Errorf("P6.6 Verify = %d", e)
	}
	if !slices.Equal(room, before) {
		t.Errorf("P2 the set became %+v", room)
	}
	room[0].Owner = n("b.ex.")
	if sig.Owner != n("a.ex.") {
		t.Errorf("P2 the signature became %+v", sig)
	}
}
