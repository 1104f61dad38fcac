package master_test

import (
	"reflect"
	"slices"
	"strings"
	"testing"

	"gazetteer/api"
	"gazetteer/master"
)

// address: a record with an owner, and nothing else to look at.
func address(owner string) api.Record {
	return api.Record{Owner: owner, Type: api.A, Class: api.IN, TTL: 60, Data: "\x0a\x00\x00\x01"}
}

// prints holds a file against the one wanted, and what it tells against the records.
func prints(t *testing.T, records []api.Record, origin string, want ...string) {
	t.Helper()
	text := lines(append(want, "")...)
	got, e := master.Print(records, origin)
	if got != text || e != api.OK {
		t.Errorf("P4.4 Print(%+v, %q) = %q, %d; wanted %q", records, origin, got, e, text)
	}
	for _, elsewhere := range []string{origin, "\x09elsewhere\x00"} {
		back, f := master.Parse(got, elsewhere, nil)
		if f != (api.Fault{}) || !slices.Equal(back, records) {
			t.Errorf("P4.4 Parse(%q) = %+v, %+v; wanted %+v", got, back, f, records)
		}
	}
}

// P4.4: a line a record.
func TestPrint(t *testing.T) {
	prints(t, nil, ex, "$ORIGIN ex.")
	prints(t, nil, api.Root, "$ORIGIN .")
	prints(t, nil, "\x04a.b$\x01E\x00", `$ORIGIN a\.b\$.E.`)
	prints(t, []api.Record{
		{Owner: ex, Type: api.SOA, Class: api.IN, TTL: 0, Data: "\x02ns\x02ex\x00\x00\x00\x00\x00\x07\x00\x00\x00\x01\x00\x00\x00\x02\x00\x00\x00\x03\x00\x00\x00\x04"},
		{Owner: ex, Type: api.TXT, Class: api.IN, TTL: api.MaxTTL, Data: "\x02a\"\x00"},
		{Owner: "\x01a\x02ex\x00", Type: 731, Class: api.IN, TTL: 90, Data: "\xab"},
		{Owner: "\x01a\x02ex\x00", Type: 65535, Class: api.IN, TTL: 90, Data: ""},
		{Owner: "\x01a\x02ex\x00", Type: api.NSEC, Class: api.IN, TTL: 90, Data: ex},
		{Owner: ex, Type: api.MX, Class: api.IN, TTL: 5, Data: "\x00\x0a\x01a\x02ex\x00"},
	}, ex,
		"$ORIGIN ex.",
		"@\t0\tIN\tSOA\tns.ex. . 7 1 2 3 4",
		"\t2147483647\tIN\tTXT\t\"a\\\"\" \"\"",
		"a\t90\tIN\tTYPE731\t\\# 1 ab",
		"\t90\tIN\tTYPE65535\t\\# 0",
		"\t90\tIN\tNSEC\tex.",
		"@\t5\tIN\tMX\t10 a.ex.",
	)
}

// P4.4: how owners are told.
func TestPrintOwner(t *testing.T) {
	for _, c := range []struct{ owner, origin, want string }{
		{ex, ex, "@"},
		{"\x02EX\x00", ex, "EX."}, // byte for byte
		{"\x01a\x02ex\x00", ex, "a"},
		{"\x01a\x02Ex\x00", ex, "a.Ex."},
		{"\x01A\x01b\x02ex\x00", ex, "A.b"},
		{"\x02ex\x02ex\x00", ex, "ex"},
		{"\x02ex\x01a\x00", ex, "ex.a."},
		{"\x03xex\x00", ex, "xex."},
		{"\x01a\x00", ex, "a."},
		{api.Root, ex, "."},
		{ex, "\x01a\x02ex\x00", "ex."},
		{"\x01b\x02ex\x00", "\x01a\x02ex\x00", "b.ex."},
		{"\x01b\x01a\x02ex\x00", "\x01a\x02ex\x00", "b"},
		{"\x04a\x02ex\x00", ex, `a\002ex.`},                  // the origin's bytes, but not at a label
		{"\x01b\x04a\x02ex\x00", ex, `b.a\002ex.`},           // nor here
		{"\x04a\x02ex\x02ex\x00", ex, `a\002ex`},             // at the second place
		{"\x05a\x00b*.\x02ex\x00", ex, `a\000b*\.`},          // the label's own "." stays
		{"\x01@\x02ex\x00", ex, `\@`},                        // no origin
		{"\x04$TTL\x02ex\x00", ex, `\$TTL`},                  // nothing else than an owner
		{"\x06 \t\n;()\x02ex\x00", ex, `\032\009\010\;\(\)`}, // one word
		{"\x01*\x02ex\x00", ex, "*"},
		{api.Root, api.Root, "@"},
		{"\x01a\x02ex\x00", api.Root, "a.ex"},
	} {
		prints(t, []api.Record{address(c.owner)}, c.origin, "$ORIGIN "+shown(c.origin), c.want+"\t60\tIN\tA\t10.0.0.1")
	}
}

// shown: the few origins of these tests, as they are written.
func shown(origin string) string {
	return map[string]string{ex: "ex.", "\x01a\x02ex\x00": "a.ex.", api.Root: "."}[origin]
}

// P4.4: an owner is left out if it is the one before, byte for byte.
func TestPrintSameOwner(t *testing.T) {
	const rest = "\t60\tIN\tA\t10.0.0.1"
	a, large, other := address("\x01a\x02ex\x00"), address("\x01A\x02ex\x00"), address("\x01b\x00")
	prints(t, []api.Record{a, a, large, large, a, other, other, a, address(ex), address(ex), a}, ex,
		"$ORIGIN ex.", "a"+rest, rest, "A"+rest, rest, "a"+rest, "b."+rest, rest, "a"+rest, "@"+rest, rest, "a"+rest)
}

// P4.4: what isn't right.
func TestPrintWrong(t *testing.T) {
	right := address(ex)
	change := func(f func(r *api.Record)) []api.Record {
		r := right
		f(&r)
		return []api.Record{right, r, right}
	}
	for what, records := range map[string][]api.Record{
		"no owner":        change(func(r *api.Record) { r.Owner = "" }),
		"owner no name":   change(func(r *api.Record) { r.Owner = "\x02ex" }),
		"long owner":      change(func(r *api.Record) { r.Owner = strings.Repeat("\x01a", 128) + "\x00" }),
		"class none":      change(func(r *api.Record) { r.Class = api.ClsNone }),
		"class any":       change(func(r *api.Record) { r.Class = api.ClsAny }),
		"class 0":         change(func(r *api.Record) { r.Class = 0 }),
		"class -1":        change(func(r *api.Record) { r.Class = -1 }),
		"age -1":          change(func(r *api.Record) { r.TTL = -1 }),
		"age too large":   change(func(r *api.Record) { r.TTL = api.MaxTTL + 1 }),
		"type 0":          change(func(r *api.Record) { r.Type = 0 }),
		"type OPT":        change(func(r *api.Record) { r.Type = api.OPT }),
		"type ANY":        change(func(r *api.Record) { r.Type = api.ANY }),
		"type 65536":      change(func(r *api.Record) { r.Type = 65536 }),
		"data too short":  change(func(r *api.Record) { r.Data = "\x0a\x00\x00" }),
		"data too long":   change(func(r *api.Record) { r.Data = "\x0a\x00\x00\x01\x00" }),
		"no data":         change(func(r *api.Record) { r.Data = "" }),
		"data above most": change(func(r *api.Record) { r.Type, r.Data = 731, strings.Repeat("a", api.MaxData+1) }),
	} {
		for _, list := range [][]api.Record{records, records[1:], records[:2]} {
			if text, e := master.Print(list, ex); text != "" || e != api.ErrForm {
				t.Errorf("P4.4 Print, %s: %q, %d; wanted ErrForm", what, text, e)
			}
		}
		if text, e := master.Print(records, "ex."); text != "" || e != api.ErrName {
			t.Errorf("P4.4 Print, no origin and %s: %q, %d; wanted ErrName", what, text, e)
		}
	}
}

// P4.4: at most 2000 records.
func TestPrintMany(t *testing.T) {
	full := slices.Repeat([]api.Record{address(ex)}, api.MaxRecords)
	text, e := master.Print(full, ex)
	if e != api.OK || strings.Count(text, "\n") != 1+api.MaxRecords {
		t.Errorf("P4.4 Print of 2000 records: %d lines, %d", strings.Count(text, "\n"), e)
	}
	full = append(full, address(""))
	if text, e := master.Print(full, ex); text != "" || e != api.ErrMany {
		t.Errorf("P4.4 Print of 2001 records: %q, %d; wanted ErrMany", text, e)
	}
	if text, e := master.Print(full, ""); text != "" || e != api.ErrName {
		t.Errorf("P4.4 Print of 2001 records, no origin: %q, %d; wanted ErrName", text, e)
	}
}

// Records are not changed, those behind the list's end neither.
func TestPrintRecordsStay(t *testing.T) {
	room := []api.Record{address("\x01a\x02ex\x00"), address(ex), address("beyond")}
	want := slices.Clone(room)
	master.Print(room[:2], ex)
	if !reflect.DeepEqual(room, want) {
		t.Errorf("P2: Print left %+v", room)
	}
}
