package world_test

import (
	"slices"
	"strconv"
	"strings"
	"testing"

	"gazetteer/world"
)

// mayLoad: what was shown can stand in a line.
func mayLoad(lines []string) bool {
	return !strings.ContainsAny(strings.Join(lines, "\n"), "\"|")
}

// oddLabels are labels that are written with signs.
func oddLabels() []string {
	return []string{
		"a", "B", "*", `\*`, `x\.y`, `\000`, `\010`, `\032x`, `\255\200`, `\@`, `\$ttl`, "$x", `\;`, `\(`, `\)`, `\\`, `\009`, "60", "IN", "in", "A", "1h", "-", "#", `\#`, "_a", "@a", "TYPE1",
		strings.Repeat("l", 63), `\127`, "'", "~", "!", "{}",
	}
}

// oddData are data of many types.
func oddData() []string {
	return []string{
		"A 10.0.0.1", "AAAA 1:0:0:2::3", "AAAA ::", "NS a", `NS \;.org.`, `MX 65535 x\.y`, "MX 0 .", "PTR @", `PTR \@`, "SRV 1 2 3 .", "DS 1 2 3 00ff", "TYPE700 \\# 0", "TYPE700 \\# 3 0a0b0c", "TYPE65535 \\# 1 20",
		"DNSKEY 257 3 253 AAEIBwAAAAM=", "NSEC a A TYPE700 NSEC", "NSEC . ", "NSEC3 1 0 0 - 00", "NSEC3 1 1 50 aabb 00 A CAA", "NSEC3PARAM 1 0 5 -", "RRSIG TYPE700 253 1 60 9 8 7 . AA==", "CNAME b",
	}
}

// TestShownAgain: P16.2: what is shown, loaded again, is shown likewise.
func TestShownAgain(t *testing.T) {
	t.Parallel()
	d := newDice(16)
	shown := 0
	for range 3000 {
		apex := d.oneOf("ex.", "Ex.", ".", `\;.x\.y.`, "a.B.c.", `\@.`)
		var lines []string
		for range d.Intn(12) {
			owner := d.oneOf(oddLabels()...)
			if d.odds(3) {
				owner = d.oneOf("@", owner+"."+d.oneOf(oddLabels()...))
			}
			lines = append(lines, owner+" "+d.oneOf("60", "60", "60", "0", "2147483647")+" "+d.oneOf(oddData()...))
		}
		w := told("server a", "server b")
		if got := w.Do(loading("a", apex, d.Intn(9), lines...)); got[0] != "ok" {
			continue // no zone
		}
		if d.odds(3) {
			w.Do("sign a " + apex + " 251 263 3 0 9")
		}
		as := d.oneOf(apex, strings.ToUpper(apex), strings.ToLower(apex), apex)
		want := show(w, "a", as)
		if !mayLoad(want) {
			continue
		}
		shown++
		for _, server := range []string{"a", "b"} {
			line := again(server, as, want)
			if got := w.Do(line); !slices.Equal(got, []string{"ok"}) {
				t.Fatalf("P16.2: %q tells %q", line, got)
			}
			if got := show(w, server, as); !slices.Equal(got, want) {
				t.Fatalf("P16.2: %q is shown as %q; wanted %q", line, got, want)
			}
		}
	}
	if shown < 500 {
		t.Errorf("just %d zones were shown", shown)
	}
}

// TestShownWhole: a zone that is as large as one can be.
func TestShownWhole(t *testing.T) {
	w := told("server a", "server b", loading("a", "ex.", 1, "$GENERATE 4-2000 h$ A 10.0.0.1"))
	want := show(w, "a", "ex.")
	if len(want) != 2001 {
		t.Errorf("P16.1: %d lines", len(want))
	}
	tell(w, again("b", "ex.", want))
	if got := show(w, "b", "ex."); !slices.Equal(got, want) {
		t.Error("P16.2: a full zone isn't shown likewise")
	}
}

// TestCrashByChance: P16.2: a crash turns nothing that is shown, asked or
// judged.
func TestCrashByChance(t *testing.T) {
	t.Parallel()
	for seed := range 60 {
		d := newDice(int64(4000 + seed))
		w := world.New()
		answers(w, d.opening())
		for range 60 {
			w.Do(d.line())
		}
		var lines []string
		for _, server := range []string{"a", "b", "c", "d"} {
			for _, apex := range []string{"ex.", "EX.", "b.ex.", "u.ex.", ".", "org."} {
				lines = append(lines, "show "+server+" "+apex)
			}
		}
		for range 300 {
			lines = append(lines, "ask "+d.server()+" "+d.name()+" "+d.typ()+" "+d.oneOf("+", "-"), "judge "+d.server()+" "+d.name()+" "+d.typ())
		}
		want := answers(w, lines)
		for i, server := range []string{"a", "b", "c", "d", "a"} {
			w.Do("crash " + server)
			checkSame(t, "P16.2 behind crash "+strconv.Itoa(i)+" of "+server, answers(w, lines), want)
		}
	}
}
