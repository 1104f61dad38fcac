package master_test

import (
	"reflect"
	"slices"
	"strconv"
	"strings"
	"testing"

	"gazetteer/api"
	"gazetteer/data"
	"gazetteer/master"
	"gazetteer/name"
)

// told: how a record is told in these tests: "owner age TYPE data".
func told(r api.Record) string {
	d, _ := data.Show(r.Type, r.Data)
	if r.Class != api.IN {
		d += " of class " + strconv.Itoa(r.Class)
	}
	return strings.Join([]string{name.Show(r.Owner), strconv.Itoa(r.TTL), data.TypeName(r.Type), d}, " ")
}

func toldAll(list []api.Record) []string {
	var all []string
	for _, r := range list {
		all = append(all, told(r))
	}
	return all
}

const ex = "\x02ex\x00"

// lines: a text of these lines.
func lines(l ...string) string { return strings.Join(l, "\n") }

// parses holds the records of a text (with ex. as origin) against those wanted.
func parses(t *testing.T, text string, files []api.File, want ...string) {
	t.Helper()
	got, f := master.Parse(text, ex, files)
	if f != (api.Fault{}) || !slices.Equal(toldAll(got), want) {
		t.Errorf("P4.3 Parse(%q) = %q, %+v; wanted %q", text, toldAll(got), f, want)
	}
}

// fails holds the fault of a text (with ex. as origin) against the one wanted.
func fails(t *testing.T, text string, files []api.File, code api.Errno, file string, line int) {
	t.Helper()
	got, f := master.Parse(text, ex, files)
	if want := (api.Fault{Code: code, File: file, Line: line}); f != want || got != nil {
		t.Errorf("P4.3 Parse(%q) = %q, %+v; wanted %+v", text, toldAll(got), f, want)
	}
}

// P4.3: the document's zone.
func TestParseZone(t *testing.T) {
	zone := func(soa1, soa2, width string) string {
		return lines("$ORIGIN ex.", "$TTL 1h", "@   IN SOA ns root ( 7 "+soa1, "             "+soa2+" )",
			"    NS ns", "ns  60 A 10.0.0.1", "$GENERATE 1-2 h$ A 10.0.1.${"+width+"}", "")
	}
	want := []string{
		"ex. 3600 SOA ns.ex. root.ex. 7 86400 7200 2419200 300",
		"ex. 3600 NS ns.ex.",
		"ns.ex. 60 A 10.0.0.1",
		"h1.ex. 3600 A 10.0.1.10",
		"h2.ex. 3600 A 10.0.1.11",
	}
	for _, origin := range []string{api.Root, ex, "\x05other\x00"} {
		got, f := master.Parse(zone("86400", "7200 2419200 300", "9,2"), origin, nil)
		if f != (api.Fault{}) || !slices.Equal(toldAll(got), want) {
			t.Errorf("P4.3 Parse of the zone = %q, %+v; wanted %q", toldAll(got), f, want)
		}
	}
	fails(t, zone("1d", "2h 4w 5m", "9,2"), nil, api.ErrText, "", 3)
	fails(t, zone("86400", "7200 2419200 300", "8,2"), nil, api.ErrText, "", 7)
}

// P4.3: records, as fields and not as they are told.
func TestParseFields(t *testing.T) {
	got, f := master.Parse("WWW 5 in a 10.0.0.1\n TYPE731 \\# 1 ff", ex, nil)
	want := []api.Record{
		{Owner: "\x03WWW\x02ex\x00", Type: api.A, Class: api.IN, TTL: 5, Data: "\x0a\x00\x00\x01"},
		{Owner: "\x03WWW\x02ex\x00", Type: 731, Class: api.IN, TTL: 5, Data: "\xff"},
	}
	if f != (api.Fault{}) || !reflect.DeepEqual(got, want) {
		t.Errorf("P4.3 Parse = %+v, %+v; wanted %+v", got, f, want)
	}
	if got, f := master.Parse("", ex, nil); len(got) != 0 || f != (api.Fault{}) {
		t.Errorf("P4.3 Parse of nothing = %+v, %+v", got, f)
	}
}

// P4.3: an origin that is no name, ahead of all that is wrong in the text.
func TestParseOrigin(t *testing.T) {
	for _, origin := range []string{"", "ex.", "\x02ex", "\x02ex\x00\x00", "\x40" + strings.Repeat("a", 64) + "\x00"} {
		for _, text := range []string{"", "a 60 A 10.0.0.1", "(", "a"} {
			list, f := master.Parse(text, origin, nil)
			if f != (api.Fault{Code: api.ErrName}) || list != nil {
				t.Errorf("P4.3 Parse(%q, %q) = %+v, %+v; wanted ErrName, line 0", text, origin, list, f)
			}
		}
	}
}

// P4.3: owners.
func TestParseOwner(t *testing.T) {
	parses(t, lines("a 60 A 10.0.0.1", "\tA 10.0.0.2", "b.other. A 10.0.0.3", " (", "A 10.0.0.4)", "@ A 10.0.0.5", ". A 10.0.0.6", "", ";", "\rA 10.0.0.7"), nil,
		"a.ex. 60 A 10.0.0.1", "a.ex. 60 A 10.0.0.2", "b.other. 60 A 10.0.0.3", "b.other. 60 A 10.0.0.4",
		"ex. 60 A 10.0.0.5", ". 60 A 10.0.0.6", ". 60 A 10.0.0.7")
	// Words that would be something else stand for an owner, too.
	parses(t, lines("60 60 A 10.0.0.1", "IN IN A 10.0.0.2", "A A 10.0.0.3", `\$TTL A 10.0.0.4`, `\@ A 10.0.0.5`), nil,
		"60.ex. 60 A 10.0.0.1", "IN.ex. 60 A 10.0.0.2", "A.ex. 60 A 10.0.0.3", `\$TTL.ex. 60 A 10.0.0.4`, `\@.ex. 60 A 10.0.0.5`)
	// An owner is kept as it was read: a later origin doesn't move it.
	parses(t, lines("a 60 A 10.0.0.1", "$ORIGIN b", " NS c"), nil, "a.ex. 60 A 10.0.0.1", "a.ex. 60 NS c.b.ex.")

	fails(t, `"a" 60 A 10.0.0.1`, nil, api.ErrText, "", 1)
	fails(t, `"" 60 A 10.0.0.1`, nil, api.ErrText, "", 1)
	fails(t, `"$TTL" 60`, nil, api.ErrText, "", 1)
	fails(t, "\na..b 60 A 10.0.0.1", nil, api.ErrText, "", 2)
	fails(t, `a\300 60 A 10.0.0.1`, nil, api.ErrText, "", 1)
	fails(t, strings.Repeat("a", 64)+" 60 A 10.0.0.1", nil, api.ErrLabel, "", 1)
	fails(t, strings.Repeat("a.", 125)+"a 60 A 10.0.0.1", nil, api.ErrLong, "", 1)
	fails(t, " 60 A 10.0.0.1", nil, api.ErrNone, "", 1)
	fails(t, "$TTL 60\n\n\tA 10.0.0.1", nil, api.ErrNone, "", 3)
	fails(t, " $TTL 60", nil, api.ErrNone, "", 1)
	// The owner's fault comes ahead of all others.
	fails(t, `a..b "A"`, nil, api.ErrText, "", 1)
	fails(t, " FOO", nil, api.ErrNone, "", 1)
	fails(t, `"a"`, nil, api.ErrText, "", 1)
}

// P4.3: class and age, each once, in any order.
func TestParseHead(t *testing.T) {
	const want = "a.ex. 3660 A 10.0.0.1"
	for _, head := range []string{"3660", "1h1m", "IN 3660", "3660 IN", "in 1H1M", "1h60s iN", "In 0000003660"} {
		parses(t, "a "+head+" A 10.0.0.1", nil, want)
		parses(t, "$ORIGIN ex.\na 3660 A 10.0.0.1\n "+head+" A 10.0.0.1", nil, want, want)
	}
	for _, head := range []string{"IN", "in", ""} {
		parses(t, "$TTL 3660\na "+head+" A 10.0.0.1", nil, want)
	}
	parses(t, "a 0 A 10.0.0.1\nb 2147483647 A 10.0.0.1", nil, "a.ex. 0 A 10.0.0.1", "b.ex. 2147483647 A 10.0.0.1")
	for _, head := range []string{"IN IN", "60 60", "60 IN 60", "IN 60 IN", "60 1h", "CH", "60 HS IN", "2147483648", "1y", "60 x", `I\N`, "IN60"} {
		fails(t, "a "+head+" A 10.0.0.1", nil, api.ErrType, "", 1)
	}
	for _, head := range []string{`"60"`, `"IN"`, `60 "IN"`, `IN "60"`} {
		fails(t, "a "+head+" A 10.0.0.1", nil, api.ErrText, "", 1)
	}
}

// P4.3: the type.
func TestParseType(t *testing.T) {
	parses(t, lines("a 60 tXt hello", " TYPE16 hi", " type1 10.0.0.1", " TYPE65535 \\# 0", " TYPE127 \\# 1 00"), nil,
		`a.ex. 60 TXT "hello"`, `a.ex. 60 TXT "hi"`, "a.ex. 60 A 10.0.0.1", `a.ex. 60 TYPE65535 \# 0`, `a.ex. 60 TYPE127 \# 1 00`)
	for _, text := range []string{"a", "a 60", "a IN", "a IN 60", "a 60 IN", "a ()", "a ; A 10.0.0.1"} {
		fails(t, text, nil, api.ErrEnd, "", 1)
	}
	fails(t, "a 60 A 10.0.0.1\n IN", nil, api.ErrEnd, "", 2)
	fails(t, `a 60 "A" 10.0.0.1`, nil, api.ErrText, "", 1)
	fails(t, `a "FOO"`, nil, api.ErrText, "", 1)
	for _, word := range []string{"FOO", "TYPE0", "TYPE65536", "TYPE", "OPT", "AXFR", "IXFR", "ANY", "TYPE41", "TYPE128", "TYPE255", `\A`, "@", "$TTL"} {
		fails(t, "\na 60 "+word+" 10.0.0.1", nil, api.ErrType, "", 2)
		fails(t, "a "+word, nil, api.ErrType, "", 1) // ahead of the data and the age
	}
	fails(t, "a 60 A 10.0.0.1\n $TTL 60", nil, api.ErrType, "", 2)
}

// P4.3: the data, by the origin as it is.
func TestParseData(t *testing.T) {
	parses(t, lines(`a 60 TXT a "b c" "" d\"e "60" IN`, `$ORIGIN b.`, ` MX ( 10`, `c`, `) ; d`, ` A \# 4 0a000001`), nil,
		`a.ex. 60 TXT "a" "b c" "" "d\"e" "60" "IN"`, "a.ex. 60 MX 10 c.b.", "a.ex. 60 A 10.0.0.1")
	for _, c := range []struct {
		data string
		code api.Errno
	}{
		{"A", api.ErrText},
		{"A 10.0.0.1 10.0.0.2", api.ErrText},
		{"A 10.0.0.256", api.ErrText},
		{`A "10.0.0.1"`, api.ErrText},
		{"NS a..b", api.ErrText},
		{"NS " + strings.Repeat("a", 64), api.ErrLabel},
		{"NS " + strings.Repeat("a.", 126) + "a", api.ErrLong},
		{`A \# 3 0a0000`, api.ErrData},
		{"TYPE731 a", api.ErrText},
		{"TXT " + strings.Repeat(strings.Repeat("a", 255)+" ", 256), api.ErrLarge},
	} {
		fails(t, "\na 60 "+c.data, nil, c.code, "", 2)
		fails(t, "a "+c.data, nil, c.code, "", 1) // ahead of the age
	}
}

// P4.3: the age that is told, else the default, else the last one that was told.
func TestParseAge(t *testing.T) {
	parses(t, lines("a 60 A 10.0.0.1", " A 10.0.0.2", " 1h A 10.0.0.3", "b A 10.0.0.4",
		"$TTL 5", "c A 10.0.0.5", " 7 A 10.0.0.6", " A 10.0.0.7", "$ttl 1w", " A 10.0.0.8"), nil,
		"a.ex. 60 A 10.0.0.1", "a.ex. 60 A 10.0.0.2", "a.ex. 3600 A 10.0.0.3", "b.ex. 3600 A 10.0.0.4",
		"c.ex. 5 A 10.0.0.5", "c.ex. 7 A 10.0.0.6", "c.ex. 5 A 10.0.0.7", "c.ex. 604800 A 10.0.0.8")
	parses(t, lines("$TTL 0", "a A 10.0.0.1", " 60 A 10.0.0.2", " A 10.0.0.3"), nil,
		"a.ex. 0 A 10.0.0.1", "a.ex. 60 A 10.0.0.2", "a.ex. 0 A 10.0.0.3")
	parses(t, lines("a 0 A 10.0.0.1", " A 10.0.0.2"), nil, "a.ex. 0 A 10.0.0.1", "a.ex. 0 A 10.0.0.2")
	fails(t, "\na A 10.0.0.1", nil, api.ErrTtl, "", 2)
	fails(t, "a IN A 10.0.0.1", nil, api.ErrTtl, "", 1)
}

// P4.3: what $ORIGIN and $TTL tell.
func TestParseTells(t *testing.T) {
	parses(t, lines("$origin a", "@ 60 A 10.0.0.1", "$ORIGIN b", "c A 10.0.0.2", "$Origin d.", "c NS e", "$ORIGIN @", "@ NS .", "$ORIGIN .", "f NS @"), nil,
		"a.ex. 60 A 10.0.0.1", "c.b.a.ex. 60 A 10.0.0.2", "c.d. 60 NS e.d.", "d. 60 NS .", "f. 60 NS .")
	parses(t, "$ORIGIN ( a\n ) ; b\n$TTL ( 1m )\n@ A 10.0.0.1", nil, "a.ex. 60 A 10.0.0.1")
	for _, text := range []string{
		"$ORIGIN", "$ORIGIN a b", "$ORIGIN a..b c", `$ORIGIN "a"`, `$ORIGIN ""`, `$ORIGIN "a..b"`, "$ORIGIN a..b", `$ORIGIN \256`,
		"$TTL", "$TTL 1 2", `$TTL "1"`, "$TTL x", "$TTL 1y", "$TTL 2147483648", "$TTL -1", "$TTL 1h 1m",
		// no such words
		"$", "$$", "$FOO", "$FOO 60 A 10.0.0.1", "$ORIGINS a", "$TTL60", `$T\TL 60`, "$1 60 A 10.0.0.1", "$\u017forigin a",
	} {
		fails(t, "a 60 A 10.0.0.1\n\n"+text, nil, api.ErrText, "", 3)
	}
	fails(t, "$ORIGIN "+strings.Repeat("a", 64), nil, api.ErrLabel, "", 1)
	fails(t, "$ORIGIN "+strings.Repeat("a.", 125)+"a", nil, api.ErrLong, "", 1)
}

// P4.3: at most 2000 records, told behind all other faults of the one too many.
func TestParseMany(t *testing.T) {
	full := strings.Repeat("a 60 A 10.0.0.1\n", api.MaxRecords)
	if got, f := master.Parse(full+"$ORIGIN b\n", ex, nil); len(got) != api.MaxRecords || f != (api.Fault{}) {
		t.Errorf("P4.3 Parse of 2000 records: %d, %+v", len(got), f)
	}
	fails(t, full+"\na A 10.0.0.1\nb", nil, api.ErrMany, "", 2002)
	fails(t, full+"a A 10.0.0", nil, api.ErrText, "", 2001)
	fails(t, full+"a", nil, api.ErrEnd, "", 2001)
	fails(t, "$TTL 1\n"+strings.ReplaceAll(full, "60 ", "")+"a A 10.0.0.1", nil, api.ErrMany, "", 2002)
	fails(t, full+"(", nil, api.ErrEnd, "", 2001) // Entries' fault comes first
}

// The first fault is told, and no record with it.
func TestParseFirstFault(t *testing.T) {
	fails(t, "a 60 A 10.0.0.1\nb 60 A x\nc..d 60 FOO\n$BAR", nil, api.ErrText, "", 2)
	fails(t, "a 60 FOO\n\"", nil, api.ErrText, "", 2)
	// The entry's line is its first one.
	fails(t, "\n(\n\na 60\n\nFOO )", nil, api.ErrType, "", 2)
}
