package world_test

import (
	"slices"
	"strings"
	"testing"

	"gazetteer/world"
)

func TestCopy(t *testing.T) {
	w := told("server a", "server b", "server c", loading("a", "eX.", 7, many))
	play(t, w, `
> copy a b Ex.
3
ok
> copy a b ex.
1
ok
> copy b c ex.
3
ok
> copy a a ex.
1
ok
> copy c a ex.
1
ok
> copy a b org.
error 28
> copy a b .
error 28
> copy a d ex.
error 28
> copy d a ex.
error 28
> change a ex. + x.ex. 60 A 10.0.0.9
rcode 0
ok
> copy a b ex.
1
ok
> ask b x.ex. A -
rcode 0 aa
an x.ex. 60 A 10.0.0.9
ok
> ask c x.ex. A -
rcode 3 aa
au eX. 5 SOA ns.eX. h.eX. 7 2 3 4 5
ok
> copy b a ex.
1
ok
> copy b c ex.
1
ok
> change b ex. = h7.ex. 0 ANY -
rcode 0
ok
> copy b a ex.
1
ok
> copy b c ex.
1
ok`)
	for _, server := range []string{"b", "c"} {
		if !slices.Equal(show(w, "a", "ex."), show(w, server, "ex.")) {
			t.Errorf("P16.1: the copy is %q", show(w, server, "ex."))
		}
	}
}

// TestCopyApex: who has no such zone has it as it was asked for.
func TestCopyApex(t *testing.T) {
	w := told("server a", "server b", loading("a", "ex.", 7), "copy a b EX", "sign b ex. 251 263 3 0 9")
	got := strings.Join(show(w, "b", "EX."), "\n")
	if !strings.Contains(got, "\n@\t60\tIN\tDNSKEY\t") {
		t.Errorf("P16.1: the copy's apex isn't EX.: %q", got)
	}
	checkDo(t, w, "copy b a Ex", "1", "ok")
	checkDo(t, w, "anchor a ex.", "0", "ok") // the same serial: a keeps its own
}

// TestCopyWhole: one message has sixteen records; the SOA stands at both ends.
func TestCopyWhole(t *testing.T) {
	for hosts, want := range map[string]string{"1-1": "1", "1-12": "1", "1-13": "2", "1-28": "2", "1-29": "3"} {
		w := told("server a", "server b", loading("a", "ex.", 7, "$GENERATE "+hosts+" h$ A 10.0.1.$"))
		checkDo(t, w, "copy a b ex.", want, "ok")
		if !slices.Equal(show(w, "a", "ex."), show(w, "b", "ex.")) {
			t.Errorf("P16.1: the copy is %q", show(w, "b", "ex."))
		}
	}
}

// TestCopyOlder: who has a zone that is older, or newer, of another row of
// serials.
func TestCopyOlder(t *testing.T) {
	w := told("server a", "server b", loading("a", "ex.", 7, many), loading("b", "ex.", 5, "x A 10.0.0.9"))
	checkDo(t, w, "copy a b ex.", "3", "ok")
	if !slices.Equal(show(w, "a", "ex."), show(w, "b", "ex.")) {
		t.Errorf("P16.1: the copy is %q", show(w, "b", "ex."))
	}
	tell(w, loading("b", "ex.", 9, "x A 10.0.0.9"))
	before := show(w, "b", "ex.")
	checkDo(t, w, "copy a b ex.", "1", "ok")
	if got := show(w, "b", "ex."); !slices.Equal(got, before) {
		t.Errorf("P16.1: who has what is newer gets %q", got)
	}
	checkDo(t, w, "copy b a ex.", "1", "ok")
	if got := show(w, "a", "ex."); !slices.Equal(got, before) {
		t.Errorf("P16.1: who has what is older gets %q", got)
	}
}

// TestCopyHistory: what was copied goes on with the history of who got it: c has
// the zone ahead of it, and gets by one message what it takes b three to tell as
// a whole.
func TestCopyHistory(t *testing.T) {
	w := told("server a", "server b", "server c", loading("a", "ex.", 7, many), "copy a b ex.", "copy a c ex.", "change a ex. + x.ex. 60 A 10.0.0.9", "copy a b ex.")
	checkDo(t, w, "copy b c ex.", "1", "ok")
	tell(w, "change a ex. + y.ex. 60 A 10.0.0.9", "copy a b ex.", "crash b")
	checkDo(t, w, "copy b c ex.", "3", "ok")
	// What it had already, its history doesn't begin anew with.
	w = told("server a", "server b", "server c", loading("a", "ex.", 7, many), "copy a b ex.", "copy a c ex.", "change b ex. + x.ex. 60 A 10.0.0.9", "copy a b ex.", "copy b b ex.")
	checkDo(t, w, "copy b c ex.", "1", "ok")
	// A keeper of what was copied changes just that.
	tell(w, "change c ex. + z.ex. 60 A 10.0.0.9", "crash c")
	checkLast(t, w, "ask c x.ex. A -", "an x.ex. 60 A 10.0.0.9")
	checkLast(t, w, "ask c z.ex. A -", "an z.ex. 60 A 10.0.0.9")
}

// TestCopyFaults: what doesn't fit is an error of Take, and nothing is taken.
func TestCopyFaults(t *testing.T) {
	both := func(lines ...string) *world.World {
		return told(append([]string{"server a", "server b", loading("a", "ex.", 7, many), loading("b", "ex.", 7, many, "x A 10.0.0.9")}, lines...)...)
	}
	for _, c := range []struct {
		line, want string
	}{
		{"change a ex. + x.ex. 60 A 10.0.0.9", "error 19"},
		{"change a ex. = h1.ex. 60 ANY -", "ok"},
		{"change a ex. + x.ex. 60 CNAME y", "error 17"},
	} {
		w := both(c.line)
		before := show(w, "b", "ex.")
		got := w.Do("copy a b ex.")
		if got[len(got)-1] != c.want {
			t.Errorf("P16.1: behind %s: %q; wanted %s", c.line, got, c.want)
		}
		if now := show(w, "b", "ex."); slices.Equal(now, before) != (c.want != "ok") {
			t.Errorf("P16.1: behind %s b has %q", c.line, now)
		}
	}
	w := told("server a", "server b", loading("a", "ex.", 7, many, "x A 10.0.0.9"), loading("b", "ex.", 7, many), "change a ex. = x.ex. 0 A -")
	checkDo(t, w, "copy a b ex.", "error 28")
	w = told("server a", "server b", loading("a", "ex.", 7, many), loading("b", "ex.", 7, many), "change b ex. + ex. 60 SOA x y 8 2 3 4 5", "change a ex. + ex. 60 A 10.0.0.9", "change a ex. + ex. 60 A 10.0.0.8")
	checkDo(t, w, "copy a b ex.", "error 30")
}

func TestCrash(t *testing.T) {
	w := told("server a", "server b", loading("a", "ex.", 7, many), loading("a", "org.", 1, many), "copy a b ex.", "copy a b org.",
		"change a ex. + x.ex. 60 A 10.0.0.9", "change a ex. = h3.ex. 0 ANY -", "change a ex. + *.ex. 60 NS ns", "change a org. + x.org. 60 A 10.0.0.9")
	ex, org := show(w, "a", "ex."), show(w, "a", "org.")
	checkDo(t, w, "crash a", "ok")
	checkDo(t, w, "crash a", "ok")
	if !slices.Equal(show(w, "a", "ex."), ex) || !slices.Equal(show(w, "a", "org."), org) {
		t.Errorf("P16.2: behind a crash a has %q, %q", show(w, "a", "ex."), show(w, "a", "org."))
	}
	// Nothing is known of what was ahead: copies are whole.
	checkDo(t, w, "copy a b ex.", "3", "ok")
	checkDo(t, w, "copy a b org.", "3", "ok")
	if !slices.Equal(show(w, "b", "ex."), ex) || !slices.Equal(show(w, "b", "org."), org) {
		t.Errorf("P16.1: behind a crash b has %q, %q", show(w, "b", "ex."), show(w, "b", "org."))
	}
	tell(w, "change a ex. + y.ex. 60 A 10.0.0.9", "crash b")
	checkDo(t, w, "copy a b ex.", "1", "ok")
	checkDo(t, w, "crash c", "error 28")
	checkDo(t, told("server a"), "crash a", "ok")
}

// TestCrashOne: a crash of one server is none of another's, nor of the clock, the
// rules and the anchors.
func TestCrashOne(t *testing.T) {
	w := told("server a", "server b", "server c", loading("a", "ex.", 7, many), "copy a b ex.", "copy a c ex.", "change a ex. + x.ex. 60 A 10.0.0.9",
		"rule a noname h1.ex. A -", "rule b drop h1.ex. A -", loading("c", "org.", 1), "sign c org. 251 263 3 5 9", "anchor c org.", "time 9", "crash b")
	checkDo(t, w, "copy a b ex.", "1", "ok")
	tell(w, "crash a", "crash b", "crash c")
	checkDo(t, w, "ask a h1.ex. A -", "rcode 3", "ok")
	checkDo(t, w, "ask b h1.ex. A -", "drop", "ok")
	checkDo(t, w, "time 8", "error 25")
	checkDo(t, w, "judge c ns.org. A", "trust 1", "ok")
	checkDo(t, w, "server d", "10.0.0.4", "ok")
}
