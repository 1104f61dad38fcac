package signer_test

import (
	"strconv"
	"strings"
	"testing"

	"gazetteer/api"
	"gazetteer/data"
	"gazetteer/master"
	"gazetteer/name"
	"gazetteer/seal"
	"gazetteer/signer"
)

// n gives the name that a text tells.
func n(text string) string {
	wire, _, e := name.Read(text, api.Root)
	if e != api.OK {
		panic(text)
	}
	return wire
}

// listAt gives the records of lines of a file, of age 60 where none is told.
func listAt(apex string, lines ...string) []api.Record {
	records, f := master.Parse("$TTL 60\n"+strings.Join(lines, "\n"), apex, nil)
	if f.Code != api.OK {
		panic(lines[f.Line-2])
	}
	return records
}

func list(lines ...string) []api.Record { return listAt(n("ex."), lines...) }

// head: with what the zones here begin. The age of absence is 5.
func head() []string { return []string{"@ SOA ns h 7 2 3 4 5", "@ NS ns.org."} }

// zoneLines: head, and lines behind it.
func zoneLines(lines ...string) []api.Record { return list(append(head(), lines...)...) }

// key gives one of some keys that NewKey makes, with other flags as is told.
func key(number, flags int) api.Key {
	pairs := [][3]int{
		{251, 263, 3}, {257, 263, 3}, {1009, 1013, 13}, {2003, 2011, 257}, {10007, 10009, 11},
		{30011, 30013, 13}, {46327, 46337, 17}, {499, 503, 13}, {7919, 7927, 17}, {20011, 20021, 17},
	}
	p := pairs[number]
	k, e := seal.NewKey(p[0], p[1], p[2], flags)
	if e != api.OK {
		panic(strconv.Itoa(number))
	}
	return k
}

func active(number, flags int) api.PlanKey { return api.PlanKey{Key: key(number, flags), Active: true} }

func idle(number, flags int) api.PlanKey { return api.PlanKey{Key: key(number, flags)} }

// plan: one key, which signs all, from 100 until 200; its age is 30.
func plan() api.Plan {
	return api.Plan{Keys: []api.PlanKey{active(0, 257)}, From: 100, Until: 200, KeyTTL: 30}
}

// hashedPlan: the same with hashes.
func hashedPlan() api.Plan {
	p := plan()
	p.Hashed, p.Salt, p.Rounds = true, "\xab\xcd", 3
	return p
}

// sign gives the signed zone.
func sign(t *testing.T, apex string, records []api.Record, p api.Plan) []api.Record {
	t.Helper()
	signed, e := signer.Sign(apex, records, p)
	if e != api.OK {
		t.Fatalf("P7.2 Sign(%q, %v, %+v) = %d", apex, toldAll(records), p, e)
	}
	return signed
}

// told writes a record in one line, of an RRSIG but what is signed, its
// labels, its age and its tag.
func told(r api.Record) string {
	d, _ := data.Show(r.Type, r.Data)
	if r.Type == api.RRSIG {
		w := strings.Fields(d)
		d = w[0] + " " + w[2] + " " + w[3] + " " + w[6]
	}
	return name.Show(r.Owner) + " " + strconv.Itoa(r.TTL) + " " + data.TypeName(r.Type) + " " + d
}

func toldAll(records []api.Record) []string {
	var texts []string
	for _, r := range records {
		texts = append(texts, told(r))
	}
	return texts
}

// of gives the records of a type.
func of(t int, records []api.Record) []api.Record {
	var some []api.Record
	for _, r := range records {
		if r.Type == t {
			some = append(some, r)
		}
	}
	return some
}

// covered gives what is told of the signatures of a type.
func covered(t int, records []api.Record) []string {
	var texts []string
	for _, r := range of(api.RRSIG, records) {
		if int(r.Data[0])<<8|int(r.Data[1]) == t {
			texts = append(texts, told(r))
		}
	}
	return texts
}

// long gives a name of so many bytes with ex. at its end.
func long(size int) string {
	wire := n("ex.")
	for size-len(wire) > 64 {
		wire = "\x1f" + strings.Repeat("x", 31) + wire
	}
	return string([]byte{byte(size - len(wire) - 1)}) + strings.Repeat("y", size-len(wire)-1) + wire
}

// twins: two labels that stand ahead of names with one hash, whatever follows
// them, by all salts and rounds. They have fifteen bytes.
func twins() (string, string) {
	return "\xb0\xb0\xb0\xb0\xb6\xb0\xb0\xb0\xb8\xb0\xba\xb0\xb0\xb0\xb0",
		"\xb1\xc4\xba\xb6\xb0\xbc\xc0\xc3\xb0\xb2\xb0\xb1\xc2\xc5\xb0"
}

// under gives the name with a label ahead of it.
func under(label, apex string) string { return string([]byte{byte(len(label))}) + label + apex }

// address gives an A.
func address(owner string) api.Record {
	return api.Record{Owner: owner, Type: api.A, Class: api.IN, TTL: 60, Data: "\x0a\x00\x00\x01"}
}

// texts gives so many TXT of an owner.
func texts(owner string, count int) []api.Record {
	var some []api.Record
	for i := range count {
		some = append(some, api.Record{Owner: owner, Type: api.TXT, Class: api.IN, TTL: 60, Data: "\x02" + string([]byte{byte(i >> 8), byte(i)})})
	}
	return some
}
