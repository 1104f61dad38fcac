package proof_test

import (
	"slices"
	"strings"
	"testing"

	"gazetteer/api"
	"gazetteer/data"
	"gazetteer/master"
	"gazetteer/name"
	"gazetteer/seal"
	"gazetteer/signer"
	"gazetteer/zone"
)

// n gives the name that a text tells.
func n(text string) string {
	wire, _, e := name.Read(text, api.Root)
	if e != api.OK {
		panic(text)
	}
	return wire
}

// list gives the records of lines of a file of ex., of age 60 where none is told.
func list(lines ...string) []api.Record { return parse(n("ex."), lines) }

func parse(apex string, lines []string) []api.Record {
	records, f := master.Parse("$TTL 60\n"+strings.Join(lines, "\n"), apex, nil)
	if f.Code != api.OK {
		panic(lines[f.Line-2])
	}
	return records
}

// head: with what the zones here begin.
func head() []string { return []string{"@ SOA ns h 7 2 3 4 5", "@ NS ns.org."} }

// zoneOf gives the zone ex. of head and lines, as they stand.
func zoneOf(t *testing.T, lines ...string) *zone.Zone {
	t.Helper()
	return newZone(t, list(append(head(), lines...)...))
}

func newZone(t *testing.T, records []api.Record) *zone.Zone {
	t.Helper()
	z, at, e := zone.New(n("ex."), records)
	if e != api.OK {
		t.Fatalf("New(%q) = %d, %d", toldAll(records), at, e)
	}
	return z
}

const (
	salt   = "\xab\xcd"
	rounds = 3
)

// plan: one key, which signs all.
func plan(hashed bool) api.Plan {
	k, _ := seal.NewKey(251, 263, 3, 257)
	p := api.Plan{Keys: []api.PlanKey{{Key: k, Active: true}}, From: 100, Until: 200, KeyTTL: 30}
	if hashed {
		p.Hashed, p.Salt, p.Rounds = true, salt, rounds
	}
	return p
}

// signed gives the zone ex. of head and lines, signed.
func signed(t *testing.T, hashed bool, lines ...string) *zone.Zone {
	t.Helper()
	records, e := signer.Sign(n("ex."), list(append(head(), lines...)...), plan(hashed))
	if e != api.OK {
		t.Fatalf("Sign(%q) = %d", lines, e)
	}
	return newZone(t, records)
}

// example: the lines of a zone with something of each kind. In order they are
// ex., al, *.al, b, c, e.d, gr, *.w, www.
func example() []string {
	return []string{
		"al CNAME www", "*.al CNAME www", "b NS ns.b", "ns.b A 10.0.0.2", "c NS ns.org.", "c DS 1 253 1 aa",
		"e.d A 10.0.0.3", "gr DNAME org.", "*.w TXT hello", "WWW A 10.0.0.1",
	}
}

// hash gives a name's, by the salt and rounds of these tests.
func hash(n string) string { return hashBy(n, salt, rounds) }

func hashBy(n, salt string, rounds int) string {
	h, e := seal.Hash(n, salt, rounds)
	if e != api.OK {
		panic(n)
	}
	return h
}

// of gives the records of a type.
func of(t int, records []api.Record) []api.Record {
	return slices.DeleteFunc(slices.Clone(records), func(r api.Record) bool { return r.Type != t })
}

// told writes a record in one line.
func told(r api.Record) string {
	d, _ := data.Show(r.Type, r.Data)
	return name.Show(r.Owner) + " " + data.TypeName(r.Type) + " " + d
}

func toldAll(records []api.Record) []string {
	var texts []string
	for _, r := range records {
		texts = append(texts, told(r))
	}
	return texts
}

// owners tells the owners of records.
func owners(records []api.Record) string {
	var texts []string
	for _, r := range records {
		texts = append(texts, name.Show(r.Owner))
	}
	return strings.Join(texts, " ")
}

// nsec3 gives one of ex. with its own hash and the next, and types.
func nsec3(own, next string, types ...string) api.Record {
	return hashed(salt, rounds, own, next, types...)
}

// hashed gives one with another salt and other rounds.
func hashed(salt string, rounds int, own, next string, types ...string) api.Record {
	var numbers []int
	for _, word := range types {
		numbers = append(numbers, data.TypeOf(word))
	}
	d := "\x01\x00" + string([]byte{byte(rounds >> 8), byte(rounds), byte(len(salt))}) + salt + string([]byte{byte(len(next))}) + next + data.Set(numbers)
	label := data.To32(own)
	owner := string([]byte{byte(len(label))}) + label + n("ex.")
	return api.Record{Owner: owner, Type: api.NSEC3, Class: api.IN, TTL: 60, Data: d}
}

// near gives the hash that comes right ahead of one (-1) or behind it (1).
func near(hash string, by int) string {
	b := []byte(hash)
	b[len(b)-1] += byte(by)
	if by > 0 && b[len(b)-1] == 0 || by < 0 && b[len(b)-1] == 255 {
		panic("the byte goes round")
	}
	return string(b)
}

// at gives an NSEC3 that matches a name, and covers nothing but what comes
// right behind.
func at(text string, types ...string) api.Record {
	return nsec3(hash(n(text)), near(near(hash(n(text)), 1), 1), types...)
}

// over gives an NSEC3 that covers a name, and nothing beside it.
func over(text string) api.Record {
	return nsec3(near(hash(n(text)), -1), near(hash(n(text)), 1), "A")
}
