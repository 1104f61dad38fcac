package proof_test

import (
	"slices"
	"strings"
	"testing"

	"gazetteer/api"
	"gazetteer/data"
	"gazetteer/proof"
)

// whole: an NSEC that says that ex. is alone in its zone.
func whole() api.Record { return list("@ NSEC @ NS SOA")[0] }

// wholeHashed: the same with hashes.
func wholeHashed() api.Record { return nsec3(hash(n("ex.")), hash(n("ex.")), "NS", "SOA") }

// change: a record, otherwise.
type change struct {
	why string
	do  func(*api.Record)
}

// wrong: what makes each record one that isn't right.
func wrong() []change {
	return []change{
		{"a class", func(r *api.Record) { r.Class = api.ClsAny }},
		{"no class", func(r *api.Record) { r.Class = 0 }},
		{"an age below 0", func(r *api.Record) { r.TTL = -1 }},
		{"an age too great", func(r *api.Record) { r.TTL = api.MaxTTL + 1 }},
		{"an owner outside", func(r *api.Record) { r.Owner = n("org.") }},
		{"an owner that is no name", func(r *api.Record) { r.Owner += "\x00" }},
		{"no owner", func(r *api.Record) { r.Owner = "" }},
		{"no data", func(r *api.Record) { r.Data = "" }},
		{"data cut short", func(r *api.Record) { r.Data = r.Data[:len(r.Data)-1] }},
		{"something behind", func(r *api.Record) { r.Data += "\x00" }},
		{"another type", func(r *api.Record) { r.Type = api.TXT }},
		{"another proof's type", func(r *api.Record) { r.Type = api.NSEC + api.NSEC3 - r.Type }},
		{"no type", func(r *api.Record) { r.Type = 0 }},
	}
}

// wrongNext: what makes an NSEC one that may not be used.
func wrongNext() []change {
	types := whole().Data[4:]
	return []change{
		{"the next name outside", func(r *api.Record) { r.Data = n("org.") + types }},
		{"the next name above", func(r *api.Record) { r.Data = api.Root + types }},
		{"a next name that ends alike", func(r *api.Record) { r.Data = "\x05xx\x02ex\x00" + types }},
	}
}

// set puts other bytes at a place of data.
func set(r *api.Record, place int, bytes string) {
	r.Data = r.Data[:place] + bytes + r.Data[place+len(bytes):]
}

// wrongHash: what makes an NSEC3 one that may not be used.
func wrongHash() []change {
	own := hash(n("ex."))
	label := func(r *api.Record, label string) {
		r.Owner = string([]byte{byte(len(label))}) + label + n("ex.")
	}
	return []change{
		{"another digest", func(r *api.Record) { set(r, 0, "\x02") }},
		{"no digest", func(r *api.Record) { set(r, 0, "\x00") }},
		{"a flag", func(r *api.Record) { set(r, 1, "\x01") }},
		{"51 rounds", func(r *api.Record) { set(r, 2, "\x00\x33") }},
		{"very many rounds", func(r *api.Record) { set(r, 2, "\x01\x00") }},
		{"a next hash of nine bytes", func(r *api.Record) { *r = nsec3(own, own[:9], "NS", "SOA") }},
		{"a next hash of eleven bytes", func(r *api.Record) { *r = nsec3(own, own+"\x00", "NS", "SOA") }},
		{"an own hash of nine bytes", func(r *api.Record) { label(r, data.To32(own[:9])) }},
		{"an own hash of eleven bytes", func(r *api.Record) { label(r, data.To32(own+"\x00")) }},
		{"a label that tells no bytes", func(r *api.Record) { label(r, data.To32(own)[:15]+"z") }},
		{"a label cut short", func(r *api.Record) { label(r, data.To32(own)[:15]) }},
		{"an owner that is the apex", func(r *api.Record) { r.Owner = n("ex.") }},
		{"a label between", func(r *api.Record) { r.Owner = r.Owner[:17] + n("a.ex.") }},
		{"a label ahead", func(r *api.Record) { r.Owner = "\x01a" + r.Owner }},
		{"an owner above", func(r *api.Record) { r.Owner = r.Owner[:17] + api.Root }},
	}
}

// right: what changes nothing.
func right() []change {
	return []change{
		{"nothing", func(r *api.Record) {}},
		{"the age 0", func(r *api.Record) { r.TTL = 0 }},
		{"the greatest age", func(r *api.Record) { r.TTL = api.MaxTTL }},
		{"great letters", func(r *api.Record) { r.Owner = strings.ToUpper(r.Owner) }},
	}
}

// proves: does one say that x.ex. isn't there?
func proves(t *testing.T, records ...api.Record) bool {
	t.Helper()
	name, absent := proof.Judge(n("ex."), records, n("x.ex."), api.A), proof.Absent(n("ex."), records, n("x.ex."))
	if (name == noName) != absent || name == noData {
		t.Errorf("P8.4, P8.5 of %q: Judge %d, Absent %v", toldAll(records), name, absent)
	}
	if len(records) == 1 && proof.MayUse(n("eX."), records[0]) != absent {
		t.Errorf("P8.3 of %q: MayUse %v", toldAll(records), !absent)
	}
	return absent
}

func TestUse(t *testing.T) {
	for _, c := range right() {
		for _, r := range []api.Record{whole(), wholeHashed()} {
			c.do(&r)
			if !proves(t, r) {
				t.Errorf("P8.3: with %s %q may not be used", c.why, told(r))
			}
		}
	}
	most := hashBy(n("ex."), strings.Repeat("s", 255), 50)
	if !proves(t, hashed(strings.Repeat("s", 255), 50, most, most, "SOA")) {
		t.Error("P8.3: 50 rounds and a salt of 255 bytes may not be used")
	}
}

func TestNoUse(t *testing.T) {
	for _, c := range slices.Concat(wrong(), wrongNext()) {
		r := whole()
		c.do(&r)
		if proves(t, r) {
			t.Errorf("P8.3: with %s %q may be used", c.why, told(r))
		}
		// What may not be used doesn't keep others from being looked at.
		if !proves(t, r, whole()) || !proves(t, wholeHashed(), r) {
			t.Errorf("P8.3: with %s %q is in the way", c.why, told(r))
		}
	}
	for _, c := range slices.Concat(wrong(), wrongHash()) {
		r := wholeHashed()
		c.do(&r)
		if proves(t, r) {
			t.Errorf("P8.3: with %s %q may be used", c.why, told(r))
		}
		if !proves(t, r, wholeHashed()) || !proves(t, r, whole()) {
			t.Errorf("P8.3: with %s %q is in the way", c.why, told(r))
		}
	}
}

// TestApexIsNone: of what is no name nothing is within.
func TestApexIsNone(t *testing.T) {
	for _, apex := range []string{"", "ex.", "\x02ex", "\x02ex\x00\x00"} {
		if proof.Judge(apex, []api.Record{whole(), wholeHashed()}, n("x.ex."), api.A) != nothing || proof.Absent(apex, []api.Record{whole()}, n("x.ex.")) {
			t.Errorf("P8.3: something is proved for %q", apex)
		}
		if proof.MayUse(apex, whole()) || proof.MayUse(apex, wholeHashed()) {
			t.Errorf("P8.3: something may be used for %q", apex)
		}
	}
}

// TestFirstWay: the first NSEC3 that may be used tells how all hash.
func TestFirstWay(t *testing.T) {
	by := func(salt string, rounds int) []api.Record {
		h := func(text string) string { return hashBy(n(text), salt, rounds) }
		return []api.Record{
			hashed(salt, rounds, h("ex."), near(h("ex."), 1), "SOA"),
			hashed(salt, rounds, near(h("a.ex."), -1), near(h("a.ex."), 1)),
			hashed(salt, rounds, near(h("*.ex."), -1), near(h("*.ex."), 1)),
		}
	}
	good, salted, longer := by("\x01", 2), by("\x02", 2), by("\x01", 3)
	unusable := salted[0]
	unusable.TTL = -1
	for _, c := range []struct {
		records []api.Record
		want    bool
	}{
		{good, true},
		{slices.Concat(good, salted, longer), true},
		{slices.Concat(good[:1], salted, good[1:]), true},
		{slices.Concat(salted[:1], good), false},
		{slices.Concat(longer[:1], good), false},
		{slices.Concat([]api.Record{unusable}, good), true},
		{slices.Concat(good[:1], salted[1:]), false},
		{slices.Concat(good[:2], longer[2:]), false},
	} {
		got := proof.Judge(n("ex."), c.records, n("a.ex."), api.A) == noName
		if got != c.want {
			t.Errorf("P8.4 of %q: %v", toldAll(c.records), got)
		}
	}
	if proof.Absent(n("ex."), slices.Concat(salted[:1], good), n("a.ex.")) || !proof.Absent(n("ex."), slices.Concat(good[:1], salted, good[1:]), n("a.ex.")) {
		t.Error("P8.5: Absent asks others than those that hash as the first")
	}
}

// TestNamesFirst: beside an NSEC that may be used no NSEC3 is looked at.
func TestNamesFirst(t *testing.T) {
	other := list("y NSEC z A")[0]
	if proves(t, wholeHashed(), other) || proves(t, other, wholeHashed()) {
		t.Error("P8.4, P8.5: NSEC3 are looked at beside an NSEC")
	}
	if proof.Judge(n("ex."), []api.Record{at("y.ex."), other}, n("y.ex."), api.A) != nothing {
		t.Error("P8.4: an NSEC3 shows what stands at a name beside an NSEC")
	}
}

// TestBeside: all other records say nothing.
func TestBeside(t *testing.T) {
	others := list("x A 10.0.0.1", "* A 10.0.0.2", "@ SOA ns h 1 2 3 4 5", "x RRSIG A 253 1 60 200 100 1 ex. AAAA", "@ NSEC3PARAM 1 0 3 abcd")
	if !proves(t, append(slices.Clone(others), whole())...) || !proves(t, append(others, wholeHashed())...) || proves(t, others...) {
		t.Error("P8.4, P8.5: other records count")
	}
}

// TestShowsNoDs: where another zone begins without DS.
func TestShowsNoDs(t *testing.T) {
	for _, c := range []struct {
		r    api.Record
		n    string
		want bool
	}{
		{list("a NSEC b NS")[0], "a.ex.", true},
		{list("a NSEC b NS")[0], "A.EX.", true},
		{list("a NSEC b NS A RRSIG NSEC")[0], "a.ex.", true},
		{list("a NSEC b NS SOA")[0], "a.ex.", false},
		{list("a NSEC b NS DS")[0], "a.ex.", false},
		{list("a NSEC b A")[0], "a.ex.", false},
		{list("a NSEC b")[0], "a.ex.", false},
		{list("a NSEC c NS")[0], "b.ex.", false},
		{list("a NSEC b NS")[0], "b.ex.", false},
		{list("a NSEC b NS")[0], "x.a.ex.", false},
		{list("a NSEC org. NS")[0], "a.ex.", false},
		{list("a.org. NSEC a.org. NS")[0], "a.org.", false},
		{list("a NS b")[0], "a.ex.", false},
		{at("a.ex.", "NS"), "a.ex.", true},
		{at("a.ex.", "NS"), "A.eX.", true},
		{at("a.ex.", "NS", "SOA"), "a.ex.", false},
		{at("a.ex.", "NS", "DS"), "a.ex.", false},
		{at("a.ex.", "A"), "a.ex.", false},
		{at("a.ex.", "NS"), "b.ex.", false},
		{over("a.ex."), "a.ex.", false},
		{hashed(salt, 50, hashBy(n("a.ex."), salt, 50), hash(n("b.ex.")), "NS"), "a.ex.", true},
		{hashed(salt, 51, hash(n("a.ex.")), hash(n("b.ex.")), "NS"), "a.ex.", false},
		{hashed("", rounds, hash(n("a.ex.")), hash(n("b.ex.")), "NS"), "a.ex.", false},
	} {
		if got := proof.ShowsNoDs(n("ex."), c.r, n(c.n)); got != c.want {
			t.Errorf("ShowsNoDs(%s) of %s = %v", c.n, told(c.r), got)
		}
	}
}
