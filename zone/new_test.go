package zone_test

import (
	"fmt"
	"strings"
	"testing"

	"gazetteer/api"
	"gazetteer/zone"
)

// refused: New tells this error, this number, and no zone.
func refused(t *testing.T, what, apex string, records []api.Record, at int, e api.Errno) {
	t.Helper()
	z, gotAt, got := zone.New(apex, records)
	if z != nil || gotAt != at || got != e {
		t.Errorf("P5.1 New, %s: %v, %d, %d; wanted none, %d, %d", what, z != nil, gotAt, got, at, e)
	}
}

// taken: New gives a zone of these records.
func taken(t *testing.T, what, apex string, records []api.Record) {
	t.Helper()
	z, at, e := zone.New(apex, records)
	if z == nil || at != 0 || e != api.OK {
		t.Errorf("P5.1 New, %s: %v, %d, %d; wanted a zone", what, z != nil, at, e)
		return
	}
	if got := len(z.Records()); got != len(records) {
		t.Errorf("P5.1 New, %s: a zone of %d records; wanted %d", what, got, len(records))
	}
}

func TestNewApexAndCount(t *testing.T) {
	full := list(head()...)
	for i := len(full); i < 2000; i++ {
		full = append(full, api.Record{Owner: n("a.ex."), Type: api.A, Class: api.IN, TTL: 60, Data: string([]byte{10, 0, byte(i >> 8), byte(i)})})
	}
	taken(t, "2000 records", n("ex."), full)
	over := append(full, list("one.more TXT x")...)
	refused(t, "2001 records", n("ex."), over, -1, api.ErrMany)
	refused(t, "2001 records, one of them wrong", n("ex."), append(over[:2000:2000], api.Record{}), -1, api.ErrMany)
	for _, apex := range []string{"", "ex.", "\x02ex", "\x02ex\x00\x00", "\x40" + strings.Repeat("x", 64) + "\x00", label(63) + label(63) + label(63) + label(62) + "\x00"} {
		refused(t, fmt.Sprintf("apex %q", apex), apex, list(head()...), -1, api.ErrName)
		refused(t, fmt.Sprintf("apex %q, 2001 records", apex), apex, over, -1, api.ErrName)
	}
	refused(t, "no record", n("ex."), nil, -1, api.ErrSoa)
}

func TestNewForm(t *testing.T) {
	for _, c := range []struct {
		what string
		do   func(r *api.Record)
	}{
		{"no owner", func(r *api.Record) { r.Owner = "" }},
		{"an owner that is no name", func(r *api.Record) { r.Owner = "\x03www\x02ex" }},
		{"an owner of 256 bytes", func(r *api.Record) { r.Owner = label(63) + label(63) + label(63) + label(62) + "\x00" }},
		{"class 0", func(r *api.Record) { r.Class = 0 }},
		{"class 254", func(r *api.Record) { r.Class = api.ClsNone }},
		{"class 255", func(r *api.Record) { r.Class = api.ClsAny }},
		{"age -1", func(r *api.Record) { r.TTL = -1 }},
		{"age 2147483648", func(r *api.Record) { r.TTL = 2147483648 }},
		{"no data", func(r *api.Record) { r.Data = "" }},
		{"data of another type", func(r *api.Record) { r.Data += "\x00" }},
		{"type 0", func(r *api.Record) { r.Type = 0 }},
		{"type -1", func(r *api.Record) { r.Type = -1 }},
		{"type 65536", func(r *api.Record) { r.Type = 65536 }},
		{"type OPT", func(r *api.Record) { r.Type = api.OPT }},
		{"type ANY", func(r *api.Record) { r.Type = api.ANY }},
	} {
		records := list(append(head(), "www A 10.0.0.1", "w A 10.0.0.1")...)
		c.do(&records[3])
		c.do(&records[4])
		refused(t, c.what, n("ex."), records, 3, api.ErrForm)
	}
	for _, age := range []int{0, 2147483647} {
		records := list(append(head(), "www A 10.0.0.1")...)
		records[3].TTL = age
		taken(t, fmt.Sprintf("age %d", age), n("ex."), records)
	}
}

// TestNewRules: each rule behind the first two; the number is that of the line.
func TestNewRules(t *testing.T) {
	const soa = "@ SOA ns h 7 2 3 4 5"
	const sig = " A 253 2 60 9 1 7 ex. AAAA"
	for _, c := range []struct {
		what  string
		lines []string
		at    int
		e     api.Errno
	}{
		{"an owner above", []string{soa, "@ NS ns", ". A 10.0.0.1"}, 2, api.ErrOutside},
		{"an owner beside", []string{soa, "a.org. A 10.0.0.1", "@ NS ns", "b.org. A 10.0.0.1"}, 1, api.ErrOutside},
		{"an owner that ends with the apex's bytes alone", []string{soa, "@ NS ns", `a.xx\002ex. A 10.0.0.1`}, 2, api.ErrOutside},
		{"twice", []string{soa, "@ NS ns", "a A 10.0.0.1", "a A 10.0.0.2", "a A 10.0.0.1", "@ NS ns"}, 4, api.ErrTwice},
		{"twice, in other letters", []string{soa, "@ NS ns", "EX. 90 NS NS.Ex."}, 2, api.ErrTwice},
		{"twice a SOA", []string{soa, "@ NS ns", soa}, 2, api.ErrTwice},
		{"twice a signature, in other letters", []string{soa, "@ NS ns", "a RRSIG" + sig, "A 5 RRSIG" + strings.Replace(sig, "ex.", "EX.", 1)}, 3, api.ErrTwice},
		{"a SOA below", []string{"a SOA ns h 7 2 3 4 5", soa, "@ NS ns"}, 0, api.ErrSoa},
		{"a second SOA", []string{"@ NS ns", soa, "@ SOA ns h 8 2 3 4 5", "a SOA ns h 8 2 3 4 5"}, 2, api.ErrSoa},
		{"no SOA", []string{"@ NS ns", "@ A 10.0.0.1"}, -1, api.ErrSoa},
		{"no SOA and no NS", []string{"@ A 10.0.0.1"}, -1, api.ErrSoa},
		{"no NS", []string{soa, "@ A 10.0.0.1"}, -1, api.ErrNs},
		{"NS below alone", []string{soa, "a NS ns", "*.b NS ns"}, -1, api.ErrNs},
		{"a star with NS", []string{soa, "@ NS ns", "a.* NS ns", "*.a NS ns"}, 3, api.ErrWild},
		{"a star with a DNAME", []string{soa, "@ NS ns", "* DNAME b"}, 2, api.ErrWild},
		{"an alias and an address", []string{soa, "@ NS ns", "a A 10.0.0.1", "b CNAME c", "a CNAME b"}, 4, api.ErrCname},
		{"an alias and an address, in other letters", []string{soa, "@ NS ns", "a CNAME b", "A A 10.0.0.1"}, 2, api.ErrCname},
		{"two aliases", []string{soa, "@ NS ns", "a CNAME b", "a CNAME c"}, 2, api.ErrCname},
		{"an alias and an NSEC3", []string{soa, "@ NS ns", "a CNAME b", "a NSEC3 1 0 0 - 00"}, 2, api.ErrCname},
		{"an alias at the apex", []string{soa, "@ NS ns", "@ CNAME b"}, 2, api.ErrCname},
		{"an alias and a DNAME", []string{soa, "@ NS ns", "a DNAME b", "a CNAME b"}, 3, api.ErrCname},
		{"a DNAME at the apex", []string{soa, "@ NS ns", "@ DNAME org."}, 2, api.ErrDname},
		{"two DNAME", []string{soa, "@ NS ns", "a DNAME b", "A DNAME c"}, 2, api.ErrDname},
		{"a record below a DNAME", []string{soa, "@ NS ns", "b DNAME c", "x.A A 10.0.0.1", "a DNAME b"}, 4, api.ErrDname},
		{"a record far below a DNAME", []string{soa, "@ NS ns", "a DNAME b", "a A 10.0.0.1", "x.y.z.A A 10.0.0.1"}, 2, api.ErrDname},
		{"an NSEC3 below a DNAME", []string{soa, "@ NS ns", "a DNAME b", "x.a NSEC3 1 0 0 - 00"}, 2, api.ErrDname},
		{"another age", []string{soa, "@ NS ns", "a 5 A 10.0.0.1", "a A 10.0.0.2", "a 5 A 10.0.0.3"}, 3, api.ErrTtl},
		{"another age, in other letters", []string{soa, "@ NS ns", "A 5 A 10.0.0.1", "a 6 A 10.0.0.2"}, 3, api.ErrTtl},
		{"another age of an NSEC3", []string{soa, "@ NS ns", "a 5 NSEC3 1 0 0 - 00", "a 6 NSEC3 1 0 0 - 0g"}, 3, api.ErrTtl},
	} {
		refused(t, c.what, n("ex."), list(c.lines...), c.at, c.e)
	}
	for what, lines := range map[string][]string{
		"a zone":                             {soa, "@ NS ns"},
		"the SOA last":                       {"a A 10.0.0.1", "@ NS ns", soa},
		"the same data at two names":         {soa, "@ NS ns", "a A 10.0.0.1", "b A 10.0.0.1"},
		"the same data of two types":         {soa, "@ NS ns", "a TYPE700 \\# 1 00", "a TYPE701 \\# 1 00"},
		"texts in other letters":             {soa, "@ NS ns", "a TXT x", "a TXT X"},
		"a star further down":                {soa, "@ NS ns", "a.* NS ns", "b.* DNAME ns"},
		"a star's label among others":        {soa, "@ NS ns", "*a NS ns", "** DNAME ns"},
		"an alias with its signature":        {soa, "@ NS ns", "a CNAME b", "a RRSIG" + sig, "a NSEC b CNAME"},
		"an alias with something below it":   {soa, "@ NS ns", "a CNAME b", "b.a A 10.0.0.1"},
		"a DNAME with others at its name":    {soa, "@ NS ns", "a DNAME b", "a A 10.0.0.1", "a NS ns"},
		"a DNAME and names beside it":        {soa, "@ NS ns", "a DNAME b", "aa A 10.0.0.1", "x.aa A 10.0.0.1", `a\000 A 10.0.0.1`},
		"ages of two types":                  {soa, "@ NS ns", "a 5 A 10.0.0.1", "a 6 TXT x"},
		"ages of two names":                  {soa, "@ NS ns", "a 5 A 10.0.0.1", "b 6 A 10.0.0.1"},
		"ages of signatures":                 {soa, "@ NS ns", "a 5 RRSIG" + sig, "a 6 RRSIG" + sig + "AAAA"},
		"an NSEC3 and what it stands beside": {soa, "@ NS ns", "a NSEC3 1 0 0 - 00", "a A 10.0.0.1"},
	} {
		taken(t, what, n("ex."), list(lines...))
	}
}

// TestNewOrder: of several rules the first is told, wherever the records
// stand. All are broken at first; each is mended by another record in the
// place of one, and then the next is told.
func TestNewOrder(t *testing.T) {
	records := list("a A 10.0.0.1", "a 5 A 10.0.0.2", "x.a TXT x", "a DNAME b", "a CNAME b", "*.h DNAME b",
		"i NS ns", "j TXT x", "k SOA ns h 7 2 3 4 5", "a A 10.0.0.1", "a.org. TXT x", "l TXT x")
	records[11].Class = 3
	for _, step := range []struct {
		at    int
		e     api.Errno
		place int
		mend  string
	}{
		{11, api.ErrForm, 11, "l TXT x"},
		{10, api.ErrOutside, 10, "k TXT x"},
		{9, api.ErrTwice, 9, "k TXT y"},
		{8, api.ErrSoa, 8, "k TXT z"},
		{-1, api.ErrSoa, 7, "@ SOA ns h 7 2 3 4 5"},
		{-1, api.ErrNs, 6, "@ NS ns"},
		{5, api.ErrWild, 5, "l TXT y"},
		{4, api.ErrCname, 4, "l TXT z"},
		{3, api.ErrDname, 3, "m TXT x"},
		{1, api.ErrTtl, 1, "a A 10.0.0.2"},
	} {
		refused(t, "rules in their order", n("ex."), records, step.at, step.e)
		records[step.place] = list(step.mend)[0]
	}
	taken(t, "all mended", n("ex."), records)
}

func TestNewAtOtherApexes(t *testing.T) {
	root := []api.Record{
		{Owner: api.Root, Type: api.SOA, Class: api.IN, TTL: 5, Data: list(head()[0])[0].Data},
		{Owner: api.Root, Type: api.NS, Class: api.IN, TTL: 5, Data: n("ns.ex.")},
	}
	taken(t, "the root", api.Root, root)
	taken(t, "the root with any name", api.Root, append(root, list("a.org. A 10.0.0.1")...))
	taken(t, "an apex in other letters", n("EX."), list(head()...))
	// A star may be an apex but for its NS.
	star := list("* SOA ns h 7 2 3 4 5", "* NS ns")
	refused(t, "a star", n("*.ex."), star, 1, api.ErrWild)
}

func TestNewLeavesTheList(t *testing.T) {
	records := list(append(head(), "b A 10.0.0.2", "a A 10.0.0.1")...)
	room := append(records, api.Record{Owner: "spare"})
	before := append([]api.Record(nil), room...)
	z, _, e := zone.New(n("ex."), room[:len(records)])
	if e != api.OK {
		t.Fatal(e)
	}
	for i := range room {
		if room[i] != before[i] {
			t.Errorf("P2: New changed record %d to %+v", i, room[i])
		}
	}
	want := toldAll(z.Records())
	clear(room)
	if got := toldAll(z.Records()); got != want {
		t.Errorf("P2: the zone has %s; it had %s before the list was changed", got, want)
	}
}
