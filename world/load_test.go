package world_test

import (
	"slices"
	"strconv"
	"strings"
	"testing"
)

func TestLoad(t *testing.T) {
	w := told("server a")
	play(t, w, `
> load a Ex. $TTL 60|@ SOA ns h.org. 7 2 3 4 5| NS ns|NS 9 A 10.0.0.1| AAAA ::1|$ORIGIN sub|x TXT a b|@ 5 IN MX 1 x
ok
> show a Ex.
$ORIGIN Ex.
@	60	IN	NS	ns.Ex.
	60	IN	SOA	ns.Ex. h.org. 7 2 3 4 5
NS	9	IN	A	10.0.0.1
	60	IN	AAAA	::1
sub	5	IN	MX	1 x.sub.Ex.
x.sub	60	IN	TXT	"a" "b"
ok
> show a ex.
$ORIGIN ex.
Ex.	60	IN	NS	ns.Ex.
	60	IN	SOA	ns.Ex. h.org. 7 2 3 4 5
NS.Ex.	9	IN	A	10.0.0.1
	60	IN	AAAA	::1
sub.Ex.	5	IN	MX	1 x.sub.Ex.
x.sub.Ex.	60	IN	TXT	"a" "b"
ok`)
}

// TestLoadText: blanks between words are one, a bar ends a line.
func TestLoadText(t *testing.T) {
	head := "load a ex. "
	zone := "$TTL 60|@ SOA ns h 1 2 3 4 5|@ NS ns"
	for _, c := range [][2]string{
		{zone, "ok"},
		{"|" + zone, "ok"},
		{"|||" + zone, "ok"},
		{"| " + zone, "error 28"}, // the line begins with a blank: no owner yet
		{"|  |" + zone, "ok"},
		{zone + "|", "ok"},
		{zone + " |", "ok"},
		{zone + "| | |", "ok"},
		{zone + "||x A 10.0.0.1", "ok"},
		{zone + "||x A|10.0.0.1", "error 2"},
		{zone + "|x A (|10.0.0.1|)", "ok"},
		{zone + "|x A (|10.0.0.1|", "error 10"},
		{zone + "|x TXT \"a|b\"", "error 2"},
		{zone + "|x TXT a\\|b", "error 2"},
		{zone + ";|x", "error 10"},
		{zone + ";x", "ok"},
		{zone + "|;x|;|", "ok"},
		{"|", "error 15"},
		{"||", "error 15"},
		{";", "error 15"},
		{zone + "\nx A 10.0.0.1", "ok"}, // a byte 10 ends a line as it is
		{zone + "|x\tA\t10.0.0.1", "ok"},
		{zone + "|$INCLUDE f", "error 13"},
		{zone + "|$ORIGIN " + strings.Repeat("x", 64), "error 3"},
		{zone + "|x 60 IN", "error 10"},
		{zone + "|x B 1", "error 6"},
		{zone + "|x TYPE700 \\# 1", "error 2"},
		{zone + "|x A \\# 1 00", "error 7"},
		{"@ SOA ns h 1 2 3 4 5|@ NS ns", "error 21"},
		{zone + "|$GENERATE 1-2000 h$ A 10.0.0.1", "error 20"},
		{zone + "|$GENERATE 1-1998 h$ A 10.0.0.1", "ok"},
		// What the file tells is no zone.
		{"$TTL 60|@ NS ns", "error 15"},
		{"$TTL 60|@ SOA ns h 1 2 3 4 5", "error 16"},
		{zone + "|x.org. A 10.0.0.1", "error 5"},
		{zone + "|x A 10.0.0.1|X A 10.0.0.1", "error 19"},
		{zone + "|x CNAME y|x A 10.0.0.1", "error 17"},
		{zone + "|x DNAME y|y.x A 10.0.0.1", "error 18"},
		{zone + "|x 5 A 10.0.0.1|x 6 A 10.0.0.2", "error 21"},
		{zone + "|* NS x", "error 22"},
		// A fault of the file goes ahead of one of the zone.
		{"$TTL 60|@ NS ns|x A 10", "error 2"},
	} {
		w := told("server a")
		checkDo(t, w, head+c[0], c[1])
		if c[1] != "ok" {
			checkDo(t, w, "show a ex.", "error 28")
		}
	}
	w := told("server a")
	checkDo(t, w, `  load   a   ex.   $TTL   60|@   SOA   ns  h   1 2 3 4   5|@ NS ns|x  TXT  "a   b"   "  "|   TXT c  `, "ok")
	want := []string{"$ORIGIN ex.", "@\t60\tIN\tNS\tns.ex.", "\t60\tIN\tSOA\tns.ex. h.ex. 1 2 3 4 5", "x\t60\tIN\tTXT\t\"c\"", "\t60\tIN\tTXT\t\"a b\" \" \""}
	if got := show(w, "a", "ex."); !slices.Equal(got, want) {
		t.Errorf("P16.1: %q; wanted %q", got, want)
	}
}

// zoneOf gives the apex of the zone of a number.
func zoneOf(number int) string { return "z" + strconv.Itoa(number) + "." }

// TestZones: twenty at most; one of an equal apex takes the place of the other.
func TestZones(t *testing.T) {
	w := told("server a", "server b", loading("b", zoneOf(20), 1), loading("b", zoneOf(5), 2))
	for i := range 20 {
		checkDo(t, w, loading("a", zoneOf(i), 1), "ok")
		checkDo(t, w, loading("a", strings.ToUpper(zoneOf(i/2)), 1), "ok")
	}
	checkDo(t, w, loading("a", zoneOf(20), 1), "error 20")
	checkDo(t, w, loading("a", ".", 1), "error 20")
	checkDo(t, w, loading("a", "x."+zoneOf(0), 1), "error 20")
	checkDo(t, w, "copy b a z20.", "error 20")
	checkDo(t, w, "show a z20.", "error 28")
	checkDo(t, w, "show a .", "error 28")
	// What is no zone isn't one too many.
	checkDo(t, w, "load a z20. $TTL 60|@ NS ns", "error 15")
	checkDo(t, w, "load a z20. )", "error 2")
	// What has its place already isn't either.
	tell(w, loading("a", "Z19.", 1, "x A 10.0.0.1"), loading("a", "z0.", 2, "x A 10.0.0.1"), "sign a z3. 251 263 3 0 9",
		"change a z4. + x.z4. 60 A 10.0.0.1", "copy b a z5.", "crash a")
	checkLast(t, w, "ask a z5. SOA -", "an z5. 60 SOA ns.z5. h.z5. 2 2 3 4 5")
	checkDo(t, w, loading("a", zoneOf(20), 1), "error 20")
	// The other has two, and gets eighteen more.
	for i := range 19 {
		checkDo(t, w, "copy a b "+zoneOf(i), "1", "ok")
	}
	checkDo(t, w, "copy a b z19.", "error 20")
	checkDo(t, w, "show b z19.", "error 28")
	checkDo(t, w, "copy a b z18.", "1", "ok")
}

// TestZoneNewer: a zone that is newer goes on with the history of the one
// ahead. (b has that; by steps it gets in one message what as a whole takes
// three.)
func TestZoneNewer(t *testing.T) {
	for _, serial := range []int{6, 7, 2147483652} {
		w := told("server a", "server b", loading("a", "ex.", 5, many), "copy a b ex.", loading("a", "EX.", serial, "$ORIGIN ex.", many, "x A 10.0.0.9"))
		checkDo(t, w, "copy a b ex.", "1", "ok")
		checkLast(t, w, "ask b x.ex. A -", "an x.ex. 60 A 10.0.0.9")
	}
}

// TestZoneOlder: with one that isn't newer a history begins. What comes behind
// it is newer than what b has, but no step leads there.
func TestZoneOlder(t *testing.T) {
	for _, serial := range []int{4, 0, 4294967295, 2147483654} {
		w := told("server a", "server b", loading("a", "ex.", 5, many), "copy a b ex.", loading("a", "ex.", serial, many))
		checkDo(t, w, "copy a b ex.", "1", "ok") // it keeps its own
		checkLast(t, w, "ask b ex. SOA -", "an ex. 60 SOA ns.ex. h.ex. 5 2 3 4 5")
		tell(w, loading("a", "ex.", 6, many, "x A 10.0.0.9"))
		checkDo(t, w, "copy a b ex.", "3", "ok")
		checkLast(t, w, "ask b x.ex. A -", "an x.ex. 60 A 10.0.0.9")
	}
}

// TestZoneSame: with the same serial one begins, too: the steps lead from the
// second of the two, whoever has the first.
func TestZoneSame(t *testing.T) {
	w := told("server a", "server b", loading("a", "ex.", 5, many), "copy a b ex.", loading("a", "ex.", 5, many, "x A 10.0.0.9", "y A 10.0.0.9"))
	checkLast(t, w, "ask a x.ex. A -", "an x.ex. 60 A 10.0.0.9")
	checkDo(t, w, "copy a b ex.", "1", "ok")
	checkLast(t, w, "ask b x.ex. A -", "au ex. 5 SOA ns.ex. h.ex. 5 2 3 4 5")
	tell(w, "change a ex. + z.ex. 60 A 10.0.0.9", "copy a b ex.")
	checkLast(t, w, "ask b z.ex. A -", "an z.ex. 60 A 10.0.0.9")
	checkLast(t, w, "ask b x.ex. A -", "au ex. 5 SOA ns.ex. h.ex. 6 2 3 4 5")
	before := show(w, "b", "ex.")
	tell(w, "change a ex. = y.ex. 0 A -")
	checkDo(t, w, "copy a b ex.", "error 28") // it hasn't what goes
	if got := show(w, "b", "ex."); !slices.Equal(got, before) {
		t.Errorf("P16.1: behind an error b has %q; wanted %q", got, before)
	}
}

// TestKeeperAnew: whatever a server gets, its keeper has, and a crash leaves
// just that.
func TestKeeperAnew(t *testing.T) {
	for _, serial := range []int{4, 5, 6} {
		w := told("server a", "server b", loading("a", "ex.", 5, "x A 10.0.0.9"), "change a ex. + y.ex. 60 A 10.0.0.9", loading("a", "ex.", serial, "z A 10.0.0.9"))
		loaded := show(w, "a", "ex.")
		tell(w, "crash a")
		if got := show(w, "a", "ex."); !slices.Equal(got, loaded) {
			t.Errorf("P16.1: behind a crash a has %q; wanted %q", got, loaded)
		}
		tell(w, "change a ex. + w.ex. 60 A 10.0.0.9")
		checkLast(t, w, "ask a y.ex. A -", "au ex. 5 SOA ns.ex. h.ex. "+strconv.Itoa(serial+1)+" 2 3 4 5")
		checkLast(t, w, "ask a z.ex. A -", "an z.ex. 60 A 10.0.0.9")
	}
}
