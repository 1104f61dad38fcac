package zone_test

import (
	"strings"
	"testing"

	"gazetteer/api"
	"gazetteer/data"
	"gazetteer/master"
	"gazetteer/name"
	"gazetteer/zone"
)

// n gives the name that a text tells.
func n(text string) string {
	wire, _, e := name.Read(text, api.Root)
	if e != api.OK {
		panic(text)
	}
	return wire
}

// list gives the records of lines of a file of ex., of age 60 where none is told.
func list(lines ...string) []api.Record {
	records, f := master.Parse("$TTL 60\n"+strings.Join(lines, "\n"), n("ex."), nil)
	if f.Code != api.OK {
		panic(lines[f.Line-2])
	}
	return records
}

// head: with what the zones here begin.
func head() []string { return []string{"@ SOA ns h 7 2 3 4 5", "@ NS ns", "@ NS ns.org."} }

// zoneOf gives the zone ex. that begins with head.
func zoneOf(t *testing.T, lines ...string) *zone.Zone {
	t.Helper()
	return zoneAt(t, "ex.", append(head(), lines...)...)
}

func zoneAt(t *testing.T, apex string, lines ...string) *zone.Zone {
	t.Helper()
	z, at, e := zone.New(n(apex), list(lines...))
	if z == nil || at != 0 || e != api.OK {
		t.Fatalf("New(%q, %q) = %v, %d, %d", apex, lines, z, at, e)
	}
	return z
}

// example gives the zone of the chapter's examples.
func example(t *testing.T) *zone.Zone {
	t.Helper()
	return zoneAt(t, "ex.", "@ SOA ns h 7 2 3 4 5", "@ NS ns.org.", "www A 10.0.0.1", "*.w TXT hello", "b NS ns.b", "ns.b A 10.0.0.2")
}

// told writes a record in one line.
func told(r api.Record) string {
	d, _ := data.Show(r.Type, r.Data)
	return name.Show(r.Owner) + " " + data.TypeName(r.Type) + " " + d
}

func toldAll(records []api.Record) string {
	var texts []string
	for _, r := range records {
		texts = append(texts, told(r))
	}
	return strings.Join(texts, "|")
}

// label gives a label of so many bytes in its wire form.
func label(size int) string { return string([]byte{byte(size)}) + strings.Repeat("x", size) }
