package world_test

import (
	"slices"
	"strings"
	"testing"

	"gazetteer/world"
)

// wrongLines gives, of each command, lines that are errors in the world that
// full gives.
func wrongLines() []string {
	long := strings.Repeat("x", 64)
	return []string{
		"", "what", "time", "time 9 9", "time x", "time 00000000099", "time 49", "time 4294967296",
		"server", "server d e", "server D", "server " + strings.Repeat("d", 21), "server a", "server c",
		"load a ex.", "load d ex. x", "load a " + long + " x", "load a ex. (", "load a new. $TTL 60|@ SOA ns h 9 2 3 4 5", "load b ex. $TTL 60|@ NS ns", loading("c", "new.", 1),
		"sign a ex. 251 263 3 0", "sign d ex. 251 263 3 0 9", "sign a new. 251 263 3 0 9", "sign a ex. x 263 3 0 9", "sign a ex. 7 13 5 0 9", "sign a ex. 251 263 3 9 0",
		"show a", "show d ex.", "show a new.", "show a " + long,
		"ask a ns.ex. A", "ask d ns.ex. A -", "ask a " + long + " A -", "ask a ns.ex. B -", "ask a ns.ex. A x",
		"change a ex. + x.ex. 60 TXT", "change d ex. + x.ex. 60 TXT hi", "change a " + long + " + x.ex. 60 TXT hi", "change a ex. % x.ex. 60 TXT hi", "change a ex. + " + long + " 60 TXT hi",
		"change a ex. + x.ex. x TXT hi", "change a ex. + x.ex. 60 B hi", "change a ex. + x.ex. 60 A hi", "change a ex. - ns.ex. 60 A 10", "change a ex. = ns.ex. 60 B -", "change a new. + x.new. 60 TXT hi",
		"copy a b", "copy d b ex.", "copy a d ex.", "copy a b " + long, "copy a b new.", "copy a b odd.", "copy a c ex.",
		"crash", "crash a b", "crash d",
		"rule a drop ns.ex. A", "rule d drop ns.ex. A -", "rule a what ns.ex. A -", "rule a drop " + long + " A -", "rule a drop ns.ex. B -", "rule a say ns.ex. A -",
		"anchor a", "anchor d ex.", "anchor a " + long, "anchor a new.",
		"judge a ns.ex.", "judge d ns.ex. A", "judge a " + long + " A", "judge a ns.ex. B", "judge a x.ex. A", "judge a new. A",
	}
}

// full gives a world with something of all, at the time 50: c has twenty zones;
// odd. can't be copied from a to b.
func full() *world.World {
	w := told("server a", "server b", "server c", loading("a", "ex.", 1, many), loading("a", "odd.", 1, many), loading("b", "odd.", 1, many, "x A 10.0.0.9"),
		"sign a ex. 251 263 3 40 60", "copy a b ex.", "change a ex. + y.ex. 60 A 10.0.0.9", "change a odd. + x.odd. 60 A 10.0.0.9",
		"rule a nodata h1.ex. A -", "rule b say h1.ex. A 10.9.9.9", "time 50")
	for i := range 20 {
		tell(w, loading("c", zoneOf(i), 1))
	}
	return w
}

// probe gives lines by which a difference between two such worlds would be seen:
// the clock, servers, zones, histories, keepers, rules and anchors.
func probe() []string {
	var list []string
	for _, server := range []string{"a", "b", "c", "d"} {
		for _, apex := range []string{"ex.", "odd.", "new.", "z0.", "z19."} {
			list = append(list, "show "+server+" "+apex)
		}
		for _, name := range []string{"ns.ex.", "h1.ex.", "x.ex.", "y.ex.", "x.odd.", "ns.new."} {
			list = append(list, "ask "+server+" "+name+" A +", "judge "+server+" "+name+" A")
		}
	}
	list = append(list, "anchor a ex.", "judge a ns.ex. A", "judge b h2.ex. A")
	list = append(list, "copy a b ex.", "copy a b odd.", "copy b a ex.", "crash a", "crash b", "show a ex.", "show b ex.", "show a odd.", "copy a b odd.")
	list = append(list, "time 50", "judge a ns.ex. A", "time 60", "judge a ns.ex. A", "time 61", "judge a ns.ex. A", "server d", "server e")
	return append(list, loading("c", "new.", 1), loading("b", "new.", 1), "show b new.")
}

// answers gives what a world tells to lines.
func answers(w *world.World, lines []string) []string {
	var list []string
	for _, line := range lines {
		list = append(list, "> "+line+"\n"+strings.Join(w.Do(line), "\n"))
	}
	return list
}

// checkSame: two worlds tell the same.
func checkSame(t *testing.T, what string, got, want []string) {
	t.Helper()
	for i := range want {
		if got[i] != want[i] {
			t.Errorf("%s:\n%s\nwanted\n%s", what, got[i], want[i])
			return
		}
	}
}

// TestErrors: with an error nothing has changed.
func TestErrors(t *testing.T) {
	t.Parallel()
	want := answers(full(), probe())
	all := full()
	for _, line := range wrongLines() {
		w := full()
		for _, w := range []*world.World{w, all} {
			if got := w.Do(line); len(got) != 1 || !strings.HasPrefix(got[0], "error ") {
				t.Errorf("P16.1: %q tells %q; wanted an error", line, got)
			}
		}
		checkSame(t, "P16.1 behind the error of "+line, answers(w, probe()), want)
	}
	checkSame(t, "P16.1 behind all errors", answers(all, probe()), want)
}

// TestErrorsByChance: a world to which all lines were told that were errors, and
// one to which they weren't, tell the same.
func TestErrorsByChance(t *testing.T) {
	t.Parallel()
	for seed := range 100 {
		d := newDice(int64(1000 + seed))
		v, w := world.New(), world.New()
		lines := d.opening()
		for len(lines) < 100 {
			lines = append(lines, d.line())
		}
		for _, line := range lines {
			got := w.Do(line)
			if len(got) == 1 && strings.HasPrefix(got[0], "error ") {
				continue
			}
			if got[len(got)-1] != "ok" {
				t.Fatalf("P16.1: %q tells %q: neither an error nor ok", line, got)
			}
			if want := v.Do(line); !slices.Equal(got, want) {
				t.Fatalf("P16.1: %q tells %q where errors were ahead, else %q", line, got, want)
			}
		}
	}
}

// TestSame: what is answered hangs on the lines alone, and whoever changes an
// answer changes nothing else.
func TestSame(t *testing.T) {
	t.Parallel()
	for seed := range 40 {
		d := newDice(int64(2000 + seed))
		v, w := world.New(), world.New()
		lines := d.opening()
		for len(lines) < 100 {
			lines = append(lines, d.line())
		}
		for _, line := range lines {
			got, want := v.Do(line), w.Do(line)
			if !slices.Equal(got, want) {
				t.Fatalf("P2: %q tells %q and %q", line, got, want)
			}
			got = got[:cap(got)]
			for i := range got {
				got[i] = "spoiled"
			}
		}
	}
}

// TestAnything: whatever a line is, it is answered.
func TestAnything(t *testing.T) {
	t.Parallel()
	d := newDice(3000)
	names := []string{"time", "server", "load", "sign", "show", "ask", "change", "copy", "crash", "rule", "anchor", "judge"}
	words := []string{
		"a", "b", "a", "ex.", ".", "ex.", "@", "+", "-", "=", "*", "%", "|", "||", "0", "1", "60", "9999999999", "251", "263", "3", "A", "ANY", "RRSIG", "DNSKEY", "OPT", "TYPE65535", "say", "*say", "drop",
		"\x00", "\xff", "\t", "\n", "\"", "\\", "\\#", "(", ")", ";", "$TTL", "$ORIGIN", "$INCLUDE", "$GENERATE", "@|@", strings.Repeat("x", 300), "10.0.0.1", "\u2028",
	}
	for range 200 {
		w := full()
		for range 100 {
			var line strings.Builder
			line.WriteString(d.oneOf(names...))
			for range d.Intn(9) {
				line.WriteString(strings.Repeat(" ", 1+d.Intn(2)) + d.oneOf(words...))
			}
			got := w.Do(line.String())
			last := got[len(got)-1]
			if last != "ok" && (len(got) != 1 || !strings.HasPrefix(last, "error ")) {
				t.Fatalf("P16.1: %q tells %q", line.String(), got)
			}
		}
	}
}

// TestLong: lines that are long.
func TestLong(t *testing.T) {
	w := told("server a")
	blanks := strings.Repeat(" ", 1<<20)
	checkDo(t, w, blanks, "error 2")
	checkDo(t, w, blanks+"crash"+blanks+"a"+blanks, "ok")
	checkDo(t, w, "crash a"+strings.Repeat(" x", 1<<18), "error 2")
	checkDo(t, w, strings.Repeat("x", 1<<20), "error 2")
	checkDo(t, w, "server "+strings.Repeat("x", 1<<20), "error 23")
	checkDo(t, w, loading("a", "ex.", 1)+strings.Repeat("| ", 1<<18), "ok")
	checkDo(t, w, "change a ex. + x.ex. 60 TXT"+strings.Repeat(" t", 40000), "error 12")
	checkDo(t, w, "change a ex. + x.ex. 60 TXT"+strings.Repeat(" t", 30000), "rcode 0", "ok")
}
