package data_test

import (
	"math"
	"strings"
	"testing"

	"gazetteer/api"
	"gazetteer/data"
)

// words takes a line apart at its blanks, those within quotes aside.
func words(line string) []api.Word {
	var list []api.Word
	for {
		line = strings.TrimLeft(line, " ")
		if line == "" {
			return list
		}
		quoted := line[0] == '"'
		if quoted {
			line = line[1:]
		}
		end := 0
		for end < len(line) && !(quoted && line[end] == '"') && !(!quoted && line[end] == ' ') {
			if line[end] == '\\' {
				end++
			}
			end++
		}
		end = min(end, len(line))
		list = append(list, api.Word{Text: line[:end], Quoted: quoted})
		line = line[end:]
		if quoted {
			line = line[1:]
		}
	}
}

// label gives a label of so many bytes in its wire form.
func label(size int) string { return string([]byte{byte(size)}) + strings.Repeat("x", size) }

func zeros(size int) string { return strings.Repeat("\x00", size) }

// name255 is a name of the most bytes, name256 of one more.
var (
	name255 = label(63) + label(63) + label(63) + label(61) + "\x00"
	name256 = label(63) + label(63) + label(63) + label(62) + "\x00"
)

type good struct {
	typ   int
	words string
	d     string
	shown string // "": as words
}

// ex is the origin of all words below.
const ex = "\x02Ex\x00"

func (g good) show() string {
	if g.shown == "" {
		return g.words
	}
	return g.shown
}

// goods are words, the data that they tell, and how these are told.
func goods() []good {
	soaTail := "\x00\x00\x00\x01\x00\x00\x00\x02\x00\x00\x00\x03\x00\x00\x00\x04\xff\xff\xff\xff"
	sigHead := "\x00\x01\xfd\x02\x00\x00\x0e\x10\x00\x01\x00\x00\x00\x00\x00\x00\x01\x02"
	return []good{
		{api.A, "192.0.2.1", "\xc0\x00\x02\x01", ""},
		{api.A, "0.0.0.0", zeros(4), ""},
		{api.A, "255.255.255.255", "\xff\xff\xff\xff", ""},
		{api.A, `\# 4 0a000001`, "\x0a\x00\x00\x01", "10.0.0.1"},
		{api.A, `\# 0004 0A 000 001`, "\x0a\x00\x00\x01", "10.0.0.1"},
		{api.NS, "ns", "\x02ns" + ex, "ns.Ex."},
		{api.NS, "@", ex, "Ex."},
		{api.NS, ".", api.Root, ""},
		{api.NS, `a\.b\032.`, "\x04a.b \x00", ""},
		{api.CNAME, "C.", "\x01C\x00", ""},
		{api.PTR, "p.", "\x01p\x00", ""},
		{api.DNAME, "d.", "\x01d\x00", ""},
		{api.DNAME, `\# 3 016400`, "\x01d\x00", "d."},
		{api.SOA, "ns hm 1 2 3 4 4294967295", "\x02ns" + ex + "\x02hm" + ex + soaTail, "ns.Ex. hm.Ex. 1 2 3 4 4294967295"},
		{api.HINFO, `"pc" "un ix"`, "\x02pc\x05un ix", ""},
		{api.HINFO, `pc ""`, "\x02pc\x00", `"pc" ""`},
		{api.MX, "10 mail.example.", "\x00\x0a\x04mail\x07example\x00", ""},
		{api.MX, "0 .", zeros(3), ""},
		{api.MX, "0000065535 .", "\xff\xff\x00", "65535 ."},
		{api.TXT, `"a"`, "\x01a", ""},
		{api.TXT, `""`, "\x00", ""},
		{api.TXT, `a.b "c d" \"\\\;\065`, "\x03a.b\x03c d\x04\"\\;A", `"a.b" "c d" "\"\\;A"`},
		{api.TXT, `"\000\031 !~\127\255"`, "\x07\x00\x1f !~\x7f\xff", ""},
		{api.TXT, `"\# 1 00"`, "\x06# 1 00", `"# 1 00"`}, // in quotes it is no mark
		{api.TXT, strings.Repeat("x", 255), "\xff" + strings.Repeat("x", 255), `"` + strings.Repeat("x", 255) + `"`},
		{api.TXT, strings.Repeat(`\120`, 255), "\xff" + strings.Repeat("x", 255), `"` + strings.Repeat("x", 255) + `"`},
		{api.AAAA, "2001:db8::1", "\x20\x01\x0d\xb8" + zeros(11) + "\x01", ""},
		{api.SRV, "1 2 65535 t.", "\x00\x01\x00\x02\xff\xff\x01t\x00", ""},
		{api.NAPTR, `1 2 "u" "" "!a!b!" r.`, "\x00\x01\x00\x02\x01u\x00\x05!a!b!\x01r\x00", ""},
		{api.DS, "65535 8 255 ab", "\xff\xff\x08\xff\xab", ""},
		{api.DS, "1 2 3 A b 0C dEf0", "\x00\x01\x02\x03\xab\x0c\xde\xf0", "1 2 3 ab0cdef0"},
		{api.RRSIG, "A 253 2 3600 65536 0 258 Ex. AQ==", sigHead + ex + "\x01", ""},
		{api.RRSIG, "type1 253 2 3600 65536 0 258 @ A QID", sigHead + ex + "\x01\x02\x03", "A 253 2 3600 65536 0 258 Ex. AQID"},
		{api.RRSIG, "OPT 0 0 0 0 0 0 . AAA=", "\x00\x29" + zeros(17) + zeros(2), ""},
		{api.RRSIG, "ANY 0 0 0 0 0 0 . +/A=", "\x00\xff" + zeros(17) + "\xfb\xf0", ""},
		{api.NSEC, "b.", "\x01b\x00", ""},
		{api.NSEC, "b A MX RRSIG NSEC TYPE1234", "\x01b" + ex + exampleSet, "b.Ex. A MX RRSIG NSEC TYPE1234"},
		{api.NSEC, "b. TYPE1234 nsec A mx A type46", "\x01b\x00" + exampleSet, "b. A MX RRSIG NSEC TYPE1234"},
		{api.NSEC, ". OPT TYPE128 ANY", "\x00\x00\x20" + zeros(5) + "\x40" + zeros(10) + "\x80" + zeros(14) + "\x01", ""},
		{api.DNSKEY, "256 3 253 AQIDBAU=", "\x01\x00\x03\xfd\x01\x02\x03\x04\x05", ""},
		{api.DNSKEY, "256 3 253 AQ I DBAU =", "\x01\x00\x03\xfd\x01\x02\x03\x04\x05", "256 3 253 AQIDBAU="},
		{api.NSEC3, "1 0 12 aabb cpnmuoj1e8 A", "\x01\x00\x00\x0c\x02\xaa\xbb\x06foobar\x00\x01\x40", ""},
		{api.NSEC3, "1 0 12 - CPNMUOJ1E8", "\x01\x00\x00\x0c\x00\x06foobar", "1 0 12 - cpnmuoj1e8"},
		{api.NSEC3, "1 1 0 AaBb 00", "\x01\x01\x00\x00\x02\xaa\xbb\x01\x00", "1 1 0 aabb 00"},
		{api.NSEC3PARAM, "1 0 65535 -", "\x01\x00\xff\xff\x00", ""},
		{api.NSEC3PARAM, "1 0 0 " + strings.Repeat("0f", 255), "\x01\x00\x00\x00\xff" + strings.Repeat("\x0f", 255), ""},
		{api.NSEC3, "1 0 0 - " + strings.Repeat("0", 408), zeroHash(), ""},
		{api.CAA, `0 "issue" "ca.example; x"`, "\x00\x05issueca.example; x", ""},
		{api.CAA, `128 i ""`, "\x80\x01i", `128 "i" ""`},
		{api.CAA, "0 i " + strings.Repeat("y", 300), "\x00\x01i" + strings.Repeat("y", 300), `0 "i" "` + strings.Repeat("y", 300) + `"`},
		{731, `\# 3 abcdef`, "\xab\xcd\xef", ""},
		{731, `\# 3 ABc def`, "\xab\xcd\xef", `\# 3 abcdef`},
		{731, `\# 0`, "", ""},
		{731, `\# 00000`, "", `\# 0`},
		{3, `\# 2 00ff`, "\x00\xff", ""},
		{65535, `\# 1 61`, "a", ""},
		{127, `\# 1 61`, "a", ""},
		{256, `\# 1 61`, "a", ""},
	}
}

// zeroHash is an NSEC3 with the longest hash, all of it nought.
func zeroHash() string { return "\x01\x00\x00\x00\x00\xff" + zeros(255) }

func TestGoodData(t *testing.T) {
	for _, c := range goods() {
		if e := data.Check(c.typ, c.d); e != api.OK {
			t.Errorf("P2.4 Check(%d, %q) = %d", c.typ, c.d, e)
		}
		if got, e := data.Show(c.typ, c.d); got != c.show() || e != api.OK {
			t.Errorf("P2.6 Show(%d, %q) = %q, %d; wanted %q", c.typ, c.d, got, e, c.show())
		}
		for _, line := range []string{c.words, c.show()} {
			if got, at, e := data.Read(c.typ, words(line), ex); got != c.d || at != 0 || e != api.OK {
				t.Errorf("P2.5 Read(%d, %q) = %q, %d, %d; wanted %q", c.typ, line, got, at, e, c.d)
			}
		}
	}
}

func TestNoTypesOfData(t *testing.T) {
	none := []int{0, -1, 41, 65536, 65537, math.MinInt, math.MaxInt, 1<<32 + 1}
	for typ := 128; typ <= 255; typ++ {
		none = append(none, typ)
	}
	for _, typ := range none {
		for _, d := range []string{"", "\x01", "\x0a\x00\x00\x01", zeros(65536)} {
			show, e := data.Show(typ, d)
			if data.Check(typ, d) != api.ErrType || show != "" || e != api.ErrType {
				t.Errorf("P2.4, P2.6 of type %d: %d, %q, %d; wanted ErrType", typ, data.Check(typ, d), show, e)
			}
			if data.Fold(typ, d) != "" || len(data.Names(typ, d)) != 0 {
				t.Errorf("P2.7 of type %d: %q, %q", typ, data.Fold(typ, d), data.Names(typ, d))
			}
		}
		for _, origin := range []string{ex, "no name"} {
			if d, at, e := data.Read(typ, words(`\# 1 00`), origin); d != "" || at != 0 || e != api.ErrType {
				t.Errorf("P2.5 Read(%d) = %q, %d, %d; wanted ErrType at 0", typ, d, at, e)
			}
		}
	}
}

func TestUnnamedTypesTakeAllBytes(t *testing.T) {
	for typ := 1; typ <= 65535; typ += 1 + typ/300 {
		if _, named := namedForm(typ); named || typ == api.OPT || 128 <= typ && typ <= 255 {
			continue
		}
		for _, d := range []string{"", "\x00", "\x05Ab", zeros(65535)} {
			if e := data.Check(typ, d); e != api.OK || data.Fold(typ, d) != d || len(data.Names(typ, d)) != 0 {
				t.Errorf("P2.4, P2.7 of type %d and %d bytes: %d", typ, len(d), e)
			}
		}
		if e := data.Check(typ, zeros(65536)); e != api.ErrData {
			t.Errorf("P2.4 Check(%d) of 65536 bytes = %d; wanted ErrData", typ, e)
		}
	}
}

// Of all types' forms: what is cut short, and what has something behind it.
func TestDataCutAndWithATail(t *testing.T) {
	for _, c := range goods() {
		form, named := namedForm(c.typ)
		if !named {
			continue
		}
		for cut := range c.d {
			refused(t, c.typ, c.d[:cut], wellFormed(form, c.d[:cut]))
		}
		for _, more := range []string{"\x00", "\x01", "\x01a", "\xff"} {
			refused(t, c.typ, c.d+more, wellFormed(form, c.d+more))
		}
	}
}

// refused tries Check, Show, Fold and Names, on data that may be right after all.
func refused(t *testing.T, typ int, d string, right bool) {
	t.Helper()
	want := api.ErrData
	if right {
		want = api.OK
	}
	show, e := data.Show(typ, d)
	if data.Check(typ, d) != want || e != want || !right && show != "" {
		t.Errorf("P2.4, P2.6 of type %d, %q: %d, %q, %d; wanted %d", typ, d, data.Check(typ, d), show, e, want)
	}
	if !right && (data.Fold(typ, d) != "" || len(data.Names(typ, d)) != 0) {
		t.Errorf("P2.7 of type %d, %q: %q, %q", typ, d, data.Fold(typ, d), data.Names(typ, d))
	}
}

func TestWrongData(t *testing.T) {
	sig := zeros(18)
	for _, c := range []struct {
		typ int
		d   string
	}{
		{api.A, ""},
		{api.A, zeros(3)},
		{api.A, zeros(5)},
		{api.AAAA, zeros(15)},
		{api.AAAA, zeros(17)},
		{api.NS, ""},
		{api.NS, "a."},
		{api.NS, "\x01a"},
		{api.NS, "\x02a\x00"},
		{api.NS, "\x40" + strings.Repeat("x", 64) + "\x00"},
		{api.NS, "\xc0\x00"},
		{api.NS, "\xc0" + strings.Repeat("x", 192) + "\x00"},
		{api.NS, name256},
		{api.NS, api.Root + api.Root},
		{api.SOA, api.Root + api.Root + zeros(19)},
		{api.SOA, api.Root + zeros(20)},
		{api.MX, zeros(2)},
		{api.MX, "\x00\x00" + name256},
		{api.HINFO, "\x01a"},
		{api.HINFO, "\x01a\x02b"},
		{api.HINFO, "\x01a\x01b\x00"},
		{api.TXT, ""},
		{api.TXT, "\x01"},
		{api.TXT, "\x01a\x02b"},
		{api.DS, zeros(4)},
		{api.DNSKEY, zeros(4)},
		{api.RRSIG, "\x00\x00" + sig[2:] + api.Root + "s"},
		{api.RRSIG, "\x00\x01" + sig[2:] + api.Root},
		{api.RRSIG, "\x00\x01" + sig[2:] + "\x01s"},
		{api.NSEC3, zeros(4) + "\x00\x00"},         // a hash of no bytes
		{api.NSEC3, zeros(4) + "\x00\x00\x40"},     // and something behind it
		{api.NSEC3, zeros(4) + "\x00\x00\x01\x40"}, // that would be right by one byte less
		{api.NSEC3, zeros(4) + "\x02a\x01h"},
		{api.NSEC3, zeros(4) + "\x00\x02h"},
		{api.NSEC3PARAM, zeros(4)},
		{api.NSEC3PARAM, zeros(4) + "\x02a"},
		{api.NSEC3PARAM, zeros(4) + "\x01ab"},
		{api.CAA, ""},
		{api.CAA, "\x00"},
		{api.CAA, "\x00\x02a"},
		{api.TXT, strings.Repeat("\x00", 65536)},
		{api.CAA, zeros(65536)},
		{api.DS, zeros(65536)},
	} {
		refused(t, c.typ, c.d, false)
	}
	for _, set := range badSets() {
		refused(t, api.NSEC, api.Root+set, false)
		refused(t, api.NSEC3, zeros(4)+"\x00\x01h"+set, false)
	}
	for _, c := range []struct {
		typ int
		d   string
	}{
		{api.NS, name255},
		{api.TXT, zeros(65535)},
		{api.CAA, zeros(65535)},
		{api.DS, zeros(65535)},
		{api.DNSKEY, zeros(65535)},
	} {
		refused(t, c.typ, c.d, true)
	}
}

func TestInAddresses(t *testing.T) {
	for _, c := range []struct{ words, groups, shown string }{
		{"1:0:0:2:0:0:0:3", "1 0 0 2 0 0 0 3", "1:0:0:2::3"},
		{"0:0:1::", "0 0 1 0 0 0 0 0", "0:0:1::"},
		{"::", "0 0 0 0 0 0 0 0", "::"},
		{"0:0:0:0:0:0:0:0", "0 0 0 0 0 0 0 0", "::"},
		{"::1", "0 0 0 0 0 0 0 1", "::1"},
		{"1::", "1 0 0 0 0 0 0 0", "1::"},
		{"ABCD:EF01:2345:6789:abcd:ef01:2345:6789", "abcd ef01 2345 6789 abcd ef01 2345 6789", "abcd:ef01:2345:6789:abcd:ef01:2345:6789"},
		{"0001:0020:0300:4000:05:06:07:08", "1 20 300 4000 5 6 7 8", "1:20:300:4000:5:6:7:8"},
		{"1:2:3:4:5:6:7::", "1 2 3 4 5 6 7 0", "1:2:3:4:5:6:7:0"},
		{"::2:3:4:5:6:7:8", "0 2 3 4 5 6 7 8", "0:2:3:4:5:6:7:8"},
		{"1:2:3::5:6:7:8", "1 2 3 0 5 6 7 8", "1:2:3:0:5:6:7:8"},
		{"1:2:3::6:7:8", "1 2 3 0 0 6 7 8", "1:2:3::6:7:8"},
		{"1:0:0:4:5:0:0:8", "1 0 0 4 5 0 0 8", "1::4:5:0:0:8"},
		{"0:0:3:4:5:6:0:0", "0 0 3 4 5 6 0 0", "::3:4:5:6:0:0"},
		{"0:2:0:4:0:6:0:8", "0 2 0 4 0 6 0 8", "0:2:0:4:0:6:0:8"},
		{"0:0:3:0:0:0:7:8", "0 0 3 0 0 0 7 8", "0:0:3::7:8"},
		{"::ffff:102:304", "0 0 0 0 0 ffff 102 304", "::ffff:102:304"},
		{"0::0", "0 0 0 0 0 0 0 0", "::"},
	} {
		d := groups(c.groups)
		if got, at, e := data.Read(api.AAAA, words(c.words), ex); got != d || at != 0 || e != api.OK {
			t.Errorf("P2.5 Read(AAAA, %q) = %q, %d, %d; wanted %q", c.words, got, at, e, d)
		}
		if got, e := data.Show(api.AAAA, d); got != c.shown || e != api.OK {
			t.Errorf("P2.6 Show(AAAA, %q) = %q, %d; wanted %q", d, got, e, c.shown)
		}
	}
}
