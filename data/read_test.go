package data_test

import (
	"encoding/base64"
	"encoding/binary"
	"encoding/hex"
	"math/rand"
	"net/netip"
	"slices"
	"strconv"
	"strings"
	"testing"

	"gazetteer/api"
	"gazetteer/data"
)

func hexOf(b string) string { return hex.EncodeToString([]byte(b)) }

// groups gives the bytes of groups of hexadecimal digits.
func groups(list string) string {
	var b []byte
	for _, g := range strings.Fields(list) {
		n, err := strconv.ParseUint(g, 16, 16)
		if err != nil {
			panic(err)
		}
		b = binary.BigEndian.AppendUint16(b, uint16(n))
	}
	return string(b)
}

// notRead tries a line of words that is wrong.
func notRead(t *testing.T, typ int, line string, place int, want api.Errno) {
	t.Helper()
	notReadWords(t, typ, words(line), place, want)
}

func notReadWords(t *testing.T, typ int, list []api.Word, place int, want api.Errno) {
	t.Helper()
	if d, at, e := data.Read(typ, list, ex); d != "" || at != place || e != want {
		t.Errorf("P2.5 Read(%d, %+.200v) = %.200q, %d, %d; wanted %d at %d", typ, list, d, at, e, want, place)
	}
}

// One wrong word: of each kind of field, by a type in which it has a place of its own.
func TestWrongWords(t *testing.T) {
	for _, c := range []struct {
		typ   int
		line  string // % is where the wrong words stand
		place int
		wrong []string
	}{
		{api.CAA, "% i x", 0, []string{"256", "x", "-1", "+1", "00000000001", "1.0", "0x1", "1_0", `"1"`, `\049`, "4294967296", "99999999999999999999"}},
		{api.MX, "% a", 0, []string{"65536", "70000", "a", `"1"`, "00000065536", "00000000000"}},
		{api.SOA, "a b 1 % 3 4 5", 3, []string{"4294967296", "9999999999", "10000000000", "00000000001", "-", `"7"`, "1h"}},
		{api.A, "%", 0, []string{"1", "1.2.3", "1.2.3.4.5", "1.2.3.256", "1.2.3.1000", "01.2.3.4", "1.2.3.04", "1.2.3.00", "1.2.3.", ".1.2.3", "1..2.3", "1.2.3.a", "1.2.3.-4", "1.2.3.+4", "1,2,3,4", `"1.2.3.4"`, `1.2.3.\052`, "::1", "a", `""`}},
		{api.AAAA, "%", 0, []string{
			"1", "1:2:3:4:5:6:7", "1:2:3:4:5:6:7:8:9", ":", ":::", "::::", "1:::2", "1::2::3", "::1::", "1:2:3:4:5:6:7:", ":1:2:3:4:5:6:7",
			"1:2:3:4:5:6:7:8::", "::1:2:3:4:5:6:7:8", "1:2:3:4::5:6:7:8", ":1::", "::1:", "00001::", "12345::", "g::", "-1::", "+1::", "0x1::", "1_0::",
			"::1.2.3.4", "1.2.3.4", `"::1"`, "::1%25", `""`}},
		{api.NSEC3PARAM, "1 0 0 %", 3, []string{"a", "abc", "zz", "--", "-a", "ab-", "0xab", "a_b0", `"ab"`, `"-"`, `""`, strings.Repeat("00", 256), "gg", "``", "@@", "//", "::"}},
		{api.NSEC3, "1 0 0 - % A", 4, []string{"0", "c", "cp", "w0", "-", "co======", `"co"`, `""`, strings.Repeat("0", 410)}},
		{api.RRSIG, "% 0 0 0 0 0 0 . AA==", 0, []string{"B", "TYPE0", "TYPE65536", "1", "-", `"A"`, `""`, `\A`}},
		{api.NSEC, "a A % MX", 2, []string{"B", "TYPE0", "TYPE65536", "1", "-", `"MX"`, `""`, "A,B"}},
		{api.TXT, `a "b" %`, 2, []string{`\`, `\1`, `\12`, `\256`, `\999`, `x\1y`, `"\25"`, `"\256"`, strings.Repeat("x", 256), `"` + strings.Repeat(`\000`, 256) + `"`}},
		{api.HINFO, `a %`, 1, []string{`\`, `"\2x5"`, strings.Repeat("x", 256)}},
		{api.CAA, `0 i %`, 2, []string{`\`, `"\300"`, `\1`}},
		{api.NS, "%", 0, []string{"a..b", ".a", `\`, `\300`, `"a"`, `"."`, `""`, `"@"`}},
		{api.SRV, "1 2 3 %", 3, []string{"a..b", `"a"`}},
	} {
		for _, w := range c.wrong {
			notRead(t, c.typ, strings.Replace(c.line, "%", w, 1), c.place, api.ErrText)
		}
	}
	// An empty word without quotes, which no file has, is no better.
	for _, c := range []struct {
		typ   int
		ahead string
		place int
	}{{api.A, "", 0}, {api.AAAA, "", 0}, {api.NS, "", 0}, {api.MX, "", 0}, {api.DS, "1 2 3", 3}, {api.DNSKEY, "1 2 3", 3}, {api.NSEC3PARAM, "1 2 3", 3}, {api.NSEC3, "1 2 3 -", 4}, {api.NSEC, "a A", 2}} {
		notReadWords(t, c.typ, append(words(c.ahead), api.Word{}), c.place, api.ErrText)
	}
	if d, _, e := data.Read(api.TXT, []api.Word{{}}, ex); d != "\x00" || e != api.OK {
		t.Errorf("P2.5 Read(TXT) of an empty word = %q, %d", d, e)
	}
}

// A name's errors are those of chapter 1, with the number of the word.
func TestWrongNames(t *testing.T) {
	x64 := strings.Repeat("x", 64)
	tooLong := strings.Repeat("aa.", 85)
	for _, c := range []struct {
		typ   int
		line  string
		place int
		want  api.Errno
	}{
		{api.NS, x64, 0, api.ErrLabel},
		{api.NS, "aaa." + x64, 0, api.ErrLabel},
		{api.NS, tooLong, 0, api.ErrLong},
		{api.MX, "1 " + x64, 1, api.ErrLabel},
		{api.MX, "1 " + tooLong, 1, api.ErrLong},
		{api.MX, "1 a..", 1, api.ErrText},
		{api.SOA, "a " + x64 + " 1 2 3 4 x", 1, api.ErrLabel},
		{api.SOA, tooLong + " " + x64 + " 1 2 3 4 5", 0, api.ErrLong},
		{api.NSEC, x64 + " B", 0, api.ErrLabel},
		{api.RRSIG, "A 0 0 0 0 0 0 " + tooLong + " A", 7, api.ErrLong},
		{api.MX, `1 "` + x64 + `"`, 1, api.ErrText}, // in quotes it is no name's word at all
	} {
		notRead(t, c.typ, c.line, c.place, c.want)
	}
}

func TestNoOrigin(t *testing.T) {
	for _, origin := range []string{"", "Ex.", name256, "\x02Ex"} {
		for _, c := range []struct {
			typ  int
			line string
		}{{api.A, "10.0.0.1"}, {api.A, "x"}, {api.NS, "a."}, {api.NS, ""}, {731, `\# 0`}, {731, "x"}} {
			if d, at, e := data.Read(c.typ, words(c.line), origin); d != "" || at != 0 || e != api.ErrName {
				t.Errorf("P2.5 Read(%d, %q, %q) = %q, %d, %d; wanted ErrName at 0", c.typ, c.line, origin, d, at, e)
			}
		}
	}
	if d, _, e := data.Read(api.NS, words("@"), name255); d != name255 || e != api.OK {
		t.Errorf("P2.5 Read(NS, @) of a long origin = %q, %d", d, e)
	}
	if d, at, e := data.Read(api.MX, words("1 a"), name255); d != "" || at != 1 || e != api.ErrLong {
		t.Errorf("P2.5 Read(MX, 1 a) below a long origin = %q, %d, %d; wanted ErrLong at 1", d, at, e)
	}
}

// Of each type: all beginnings of its words, as far as they aren't whole, and one word more.
func TestMissingAndLeftOverWords(t *testing.T) {
	open := map[string]bool{"texts": true, "hex": true, "base64": true, "types": true}
	r := rand.New(rand.NewSource(6))
	for _, typ := range namedTypes() {
		form, _ := namedForm(typ)
		last := form[len(form)-1]
		need := len(form)
		if last == "types" {
			need--
		}
		line, _ := data.Show(typ, randomData(r, typ))
		list := words(line)
		for n := range need {
			notReadWords(t, typ, list[:n], n, api.ErrText)
		}
		if !open[last] {
			more := append(list, api.Word{Text: "0"})
			notReadWords(t, typ, more, len(list), api.ErrText)
			notReadWords(t, typ, append(more, api.Word{Text: "0", Quoted: true}), len(list), api.ErrText)
		}
	}
}

func TestWordsPutTogether(t *testing.T) {
	for _, c := range []struct {
		typ   int
		line  string
		place int
	}{
		{api.DS, "1 2 3 ab c", 3},
		{api.DS, "1 2 3 a", 3},
		{api.DS, "1 2 3 ab zz", 3},
		{api.DS, "1 2 3 zz ab", 3},
		{api.DS, `1 2 3 ab "cd"`, 4},
		{api.DS, `1 2 3 zz "cd" "ef"`, 4},
		{api.DS, `1 2 3 "ab" cd`, 3},
		{api.DS, `1 2 3 ab ""`, 4},
		{api.DS, "1 2 3 -", 3},
		{api.DS, "1 2 3 0xab", 3},
		{api.DS, "1 2 x zz", 2}, // the first wrong word
		{api.DNSKEY, "1 2 3 A", 3},
		{api.DNSKEY, "1 2 3 AA", 3},
		{api.DNSKEY, "1 2 3 AAA", 3},
		{api.DNSKEY, "1 2 3 AA=", 3},
		{api.DNSKEY, "1 2 3 A===", 3},
		{api.DNSKEY, "1 2 3 ====", 3},
		{api.DNSKEY, "1 2 3 =", 3},
		{api.DNSKEY, "1 2 3 AAA==", 3},
		{api.DNSKEY, "1 2 3 AAAA=", 3},
		{api.DNSKEY, "1 2 3 AAAA====", 3},
		{api.DNSKEY, "1 2 3 AA=A", 3},
		{api.DNSKEY, "1 2 3 AA==AAAA", 3},
		{api.DNSKEY, "1 2 3 AA== AAAA", 3},
		{api.DNSKEY, "1 2 3 AB==", 3}, // bits that are left over
		{api.DNSKEY, "1 2 3 AP==", 3},
		{api.DNSKEY, "1 2 3 AAB=", 3},
		{api.DNSKEY, "1 2 3 AAD=", 3},
		{api.DNSKEY, "1 2 3 AA-_", 3},
		{api.DNSKEY, "1 2 3 AA.A", 3},
		{api.DNSKEY, `1 2 3 AAAA AA\065A`, 3},
		{api.DNSKEY, `1 2 3 AAAA "AAAA"`, 4},
		{api.DNSKEY, `1 2 3 ! "AAAA"`, 4},
		{api.RRSIG, "A 0 0 0 0 0 0 . AA== =", 8},
		{api.RRSIG, `A 0 0 0 0 0 0 . AA "=="`, 9},
	} {
		notRead(t, c.typ, c.line, c.place, api.ErrText)
	}
}

func TestBytesBehindTheMark(t *testing.T) {
	for _, typ := range []int{731, api.A, api.TXT} {
		for _, c := range []struct {
			line  string
			place int
		}{
			{`\#`, 1},
			{`\# x`, 1},
			{`\# -1`, 1},
			{`\# +1 00`, 1},
			{`\# "1" 00`, 1},
			{`\# "" 00`, 1},
			{`\# 65536 00`, 1},
			{`\# 99999`, 1},
			{`\# 000001 00`, 1},
			{`\# 100000`, 1},
			{`\# 99999 "00"`, 1},
			{`\# 1`, 2},
			{`\# 65535`, 2},
			{`\# 1 0`, 2},
			{`\# 1 0 0 0`, 2},
			{`\# 1 0000`, 2},
			{`\# 2 00`, 2},
			{`\# 0 00`, 2},
			{`\# 1 zz`, 2},
			{`\# 2 00 zz`, 2},
			{`\# 2 00 "00"`, 3},
			{`\# 2 zz 00 "00"`, 4},
			{`\# 2 "00" "00"`, 2},
			{`\# 0 ""`, 2},
			{`\# 1 \# 00`, 2},
		} {
			notRead(t, typ, c.line, c.place, api.ErrText)
		}
	}
	for _, line := range []string{`\# 0`, `\# 3 000000`, `\# 5 0000000000`} {
		notRead(t, api.A, line, 0, api.ErrData)
	}
	notRead(t, api.NS, `\# 2 c000`, 0, api.ErrData)
	notRead(t, api.HINFO, `\# 2 0161`, 0, api.ErrData)
	// Types that the table doesn't name have no other words.
	for _, line := range []string{``, `x`, `00`, `"\#" 0`, `3 abcdef`, `# 0`, `\\# 0`, `"" x`} {
		notRead(t, 731, line, 0, api.ErrText)
	}
	notReadWords(t, 731, nil, 0, api.ErrText)
	most := strings.Repeat("5a", 65535)
	if d, at, e := data.Read(731, words(`\# 65535 `+most), ex); len(d) != 65535 || at != 0 || e != api.OK {
		t.Errorf("P2.5 Read(731) of 65535 bytes: %d of them, %d, %d", len(d), at, e)
	}
	if d, _, e := data.Read(731, []api.Word{{Text: `\#`}, {Text: "0"}, {}, {}}, ex); d != "" || e != api.OK {
		t.Errorf(`P2.5 Read(731, \# 0 and empty words) = %q, %d`, d, e)
	}
}

func TestTooLargeData(t *testing.T) {
	text := `"` + strings.Repeat("x", 255) + `" `
	texts := strings.Repeat(text, 255)
	for _, c := range []struct {
		typ        int
		most, more string
	}{
		{api.TXT, texts + `"` + strings.Repeat("x", 254) + `"`, texts + `"` + strings.Repeat("x", 255) + `"`},
		{api.CAA, "0 i " + strings.Repeat("x", 65532), "0 i " + strings.Repeat("x", 65533)},
		{api.DS, "1 2 3 " + strings.Repeat("ab", 65531), "1 2 3 " + strings.Repeat("ab", 65532)},
		{api.DNSKEY, "1 2 3 " + base64.StdEncoding.EncodeToString(make([]byte, 65531)), "1 2 3 " + base64.StdEncoding.EncodeToString(make([]byte, 65532))},
	} {
		if d, at, e := data.Read(c.typ, words(c.most), ex); len(d) != 65535 || at != 0 || e != api.OK {
			t.Errorf("P2.5 Read(%d) of 65535 bytes: %d of them, %d, %d", c.typ, len(d), at, e)
		}
		notRead(t, c.typ, c.more, 0, api.ErrLarge)
	}
	// A wrong word is told ahead of it.
	notRead(t, api.TXT, texts+text+text+`\`, 257, api.ErrText)
	notRead(t, api.CAA, "0 i "+strings.Repeat("x", 70000)+" y", 3, api.ErrText)
}

// Addresses and base 64, held against the library.
func TestFieldsByTheLibrary(t *testing.T) {
	r := rand.New(rand.NewSource(7))
	for range 2000 {
		d := randomField(r, "ip6")
		want := netip.AddrFrom16([16]byte([]byte(d))).StringExpanded()
		if got, at, e := data.Read(api.AAAA, words(want), ex); got != d || at != 0 || e != api.OK {
			t.Errorf("P2.5 Read(AAAA, %q) = %q, %d, %d", want, got, at, e)
		}
		short := netip.AddrFrom16([16]byte([]byte(d))).String()
		if got, _ := data.Show(api.AAAA, d); got != short && !strings.Contains(short, ".") {
			t.Errorf("P2.6 Show(AAAA, %q) = %q; wanted %q", d, got, short)
		}
	}
	for size := 1; size < 50; size++ {
		b := randomBytes(r, size)
		want := "0 0 0 " + base64.StdEncoding.EncodeToString([]byte(b))
		if got, e := data.Show(api.DNSKEY, zeros(4)+b); got != want || e != api.OK {
			t.Errorf("P2.6 Show(DNSKEY, %q) = %q, %d; wanted %q", b, got, e, want)
		}
	}
}

// Whatever words come: an answer, data that Check takes, or a place among the words.
func TestAnyWords(t *testing.T) {
	r := rand.New(rand.NewSource(8))
	pieces := []string{`\#`, "0", "1", "4", "65535", "A", "MX", "TYPE1", "a.", "@", ".", "ab", "00", "AA==", "-", "::1", "10.0.0.1", "co", `\`, `\255`, ""}
	types := append(namedTypes(), 731)
	for range 20000 {
		typ := types[r.Intn(len(types))]
		var list []api.Word
		for range r.Intn(9) {
			list = append(list, api.Word{Text: pieces[r.Intn(len(pieces))], Quoted: r.Intn(8) == 0})
		}
		d, at, e := data.Read(typ, list, ex)
		if e == api.OK && (at != 0 || data.Check(typ, d) != api.OK) || e != api.OK && (d != "" || at < 0 || at > len(list)) {
			t.Errorf("P2.5 Read(%d, %+v) = %q, %d, %d", typ, list, d, at, e)
		}
	}
}

func TestFoldAndNames(t *testing.T) {
	for _, c := range []struct {
		typ    int
		d      string
		folded string
		names  []string
	}{
		{api.MX, "\x41\x42\x04MaIl\x00", "\x41\x42\x04mail\x00", []string{"\x04MaIl\x00"}},
		{api.SOA, "\x01A\x00\x02B[\x00AAAABBBBCCCCDDDDEEEE", "\x01a\x00\x02b[\x00AAAABBBBCCCCDDDDEEEE", []string{"\x01A\x00", "\x02B[\x00"}},
		{api.SOA, api.Root + api.Root + zeros(20), api.Root + api.Root + zeros(20), []string{api.Root, api.Root}},
		{api.TXT, "\x01A", "\x01A", nil},
		{api.HINFO, "\x01A\x01B", "\x01A\x01B", nil},
		{api.NAPTR, "ABCD\x01E\x01F\x01G\x01H\x00", "ABCD\x01E\x01F\x01G\x01h\x00", []string{"\x01H\x00"}},
		{api.RRSIG, "\x00AAAAAAAAAAAAAAAAA\x01S\x00SIG", "\x00AAAAAAAAAAAAAAAAA\x01s\x00SIG", []string{"\x01S\x00"}},
		{api.NSEC, "\x01N\x00\x00\x01A", "\x01n\x00\x00\x01A", []string{"\x01N\x00"}},
		{api.CAA, "A\x01BC", "A\x01BC", nil},
		{731, "\x01A\x00", "\x01A\x00", nil},
		{731, "", "", nil},
		{api.NS, "\x01A", "", nil},
		{api.NS, "\x01A\x00\x00", "", nil},
		{api.MX, "A", "", nil},
		{api.OPT, "\x01A\x00", "", nil},
		{0, "\x01A\x00", "", nil},
		{731, zeros(65536), "", nil},
	} {
		if got := data.Fold(c.typ, c.d); got != c.folded {
			t.Errorf("P2.7 Fold(%d, %.100q) = %.100q; wanted %q", c.typ, c.d, got, c.folded)
		}
		if got := data.Names(c.typ, c.d); !slices.Equal(got, c.names) {
			t.Errorf("P2.7 Names(%d, %.100q) = %q; wanted %q", c.typ, c.d, got, c.names)
		}
	}
}
