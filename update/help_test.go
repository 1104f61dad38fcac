package update_test

import (
	"slices"
	"strconv"
	"strings"
	"testing"

	"gazetteer/api"
	"gazetteer/data"
	"gazetteer/master"
	"gazetteer/name"
	"gazetteer/update"
	"gazetteer/zone"
)

// n gives the name that a text tells.
func n(text string) string {
	wire, _, e := name.Read(text, api.Root)
	if e != api.OK {
		panic(text)
	}
	return wire
}

// list gives the records of lines of a file, of age 60 where none is told.
func list(apex string, lines ...string) []api.Record {
	records, f := master.Parse("$TTL 60\n"+strings.Join(lines, "\n"), n(apex), nil)
	if f.Code != api.OK {
		panic(lines[f.Line-2])
	}
	return records
}

func newZone(apex string, records []api.Record) *zone.Zone {
	z, at, e := zone.New(n(apex), records)
	if e != api.OK {
		panic("no zone " + apex + ": error " + strconv.Itoa(int(e)) + " of the record " + strconv.Itoa(at))
	}
	return z
}

// plain gives the zone ex. of the serial 7, with one server, and lines.
func plain(lines ...string) *zone.Zone { return serialed(7, lines...) }

// serialed gives such a zone of another serial.
func serialed(serial int, lines ...string) *zone.Zone {
	head := []string{"@ SOA ns h " + strconv.Itoa(serial) + " 2 3 4 5", "@ NS ns.org."}
	return newZone("ex.", list("ex.", append(head, lines...)...))
}

// example gives the zone of chapter 5's examples.
func example() *zone.Zone {
	return plain("www A 10.0.0.1", "*.w TXT hello", "b NS ns.b", "ns.b A 10.0.0.2")
}

// part gives the record of a line: a sign, the owner, the age if the sign is +,
// the type, and the data. The signs: + and is for class IN, = and has for 255,
// - and no for 254.
func part(line string) api.Record {
	words := strings.Fields(line)
	r := api.Record{Owner: n(words[1])}
	rest := words[2:]
	if words[0] == "+" {
		r.TTL, _ = strconv.Atoi(rest[0])
		rest = rest[1:]
	}
	r.Type = data.TypeOf(rest[0])
	if r.Type == 0 {
		panic(line)
	}
	if rest = rest[1:]; len(rest) > 0 {
		r.Data = dataOf(r.Type, rest)
	}
	switch words[0] {
	case "+", "is":
		r.Class = api.IN
	case "=", "has":
		r.Class = api.ClsAny
	case "-", "no":
		r.Class = api.ClsNone
	default:
		panic(line)
	}
	return r
}

func dataOf(t int, words []string) string {
	var list []api.Word
	for _, w := range words {
		list = append(list, api.Word{Text: w})
	}
	d, _, e := data.Read(t, list, n("ex."))
	if e != api.OK {
		panic(strings.Join(words, " "))
	}
	return d
}

func parts(lines []string) []api.Record {
	var list []api.Record
	for _, line := range lines {
		list = append(list, part(line))
	}
	return list
}

// changes gives the update of ex. that has them, and no conditions.
func changes(lines ...string) api.Message {
	return api.Message{ID: 4711, Opcode: api.OpUpdate, Questions: []api.Question{{Name: n("ex."), Type: api.SOA, Class: api.IN}}, Authority: parts(lines)}
}

// conditions gives the update of ex. that has them, and changes nothing.
func conditions(lines ...string) api.Message {
	m := changes()
	m.Answers = parts(lines)
	return m
}

// told writes a record in one line.
func told(r api.Record) string {
	d, _ := data.Show(r.Type, r.Data)
	return name.Show(r.Owner) + " " + strconv.Itoa(r.TTL) + " " + data.TypeName(r.Type) + " " + d
}

// tell writes the records of a zone.
func tell(z *zone.Zone) string {
	var texts []string
	for _, r := range z.Records() {
		texts = append(texts, told(r))
	}
	return strings.Join(texts, "\n")
}

// same: do two zones have the same apex and the same records?
func same(a, b *zone.Zone) bool {
	return a.Apex() == b.Apex() && slices.Equal(a.Records(), b.Records())
}

// checkCode: what Check says, and that Apply says the same where that is an
// error, and leaves the zone as it was.
func checkCode(t *testing.T, what string, z *zone.Zone, m api.Message, want int) {
	t.Helper()
	if got := update.Check(z, m); got != want {
		t.Errorf("P10.1, %s: Check = %d, wanted %d", what, got, want)
	}
	y, code := update.Apply(z, m)
	if want != api.NoError && (y != nil || code != want) {
		t.Errorf("P10.2, %s: Apply = %v, %d; wanted none, %d", what, y, code, want)
	}
}

// checkApply: what comes out of changes that may be done, and that the zone
// itself stays.
func checkApply(t *testing.T, z *zone.Zone, m api.Message, want *zone.Zone) {
	t.Helper()
	before := tell(z)
	y, code := update.Apply(z, m)
	if code != api.NoError || y == nil || !same(y, want) {
		t.Errorf("P10.2 of %+v: Apply = %d\n%s\nwanted\n%s", m.Authority, code, tellOf(y), tell(want))
	}
	if tell(z) != before {
		t.Errorf("P10.2 of %+v: the zone itself has changed", m.Authority)
	}
	if code := update.Check(z, m); code != api.NoError {
		t.Errorf("P10.1 of %+v: Check = %d", m.Authority, code)
	}
}

func tellOf(z *zone.Zone) string {
	if z == nil {
		return "no zone"
	}
	return tell(z)
}
