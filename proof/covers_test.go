package proof_test

import (
	"strings"
	"testing"

	"gazetteer/api"
	"gazetteer/proof"
)

func TestCovers(t *testing.T) {
	// In their order, so that a place tells what comes ahead.
	row := []string{".", "ex.", "*.ex.", "a.ex.", "a.a.ex.", "b.a.ex.", "aa.ex.", "b.ex.", "ey.", "a.ey."}
	for i, owner := range row {
		for j, next := range row {
			for k, x := range row {
				want := i < k && k < j
				if j <= i {
					want = i < k || k < j
				}
				if got := proof.Covers(n(owner), n(next), n(x)); got != want {
					t.Errorf("P8.1 Covers(%s, %s, %s) = %v", owner, next, x, got)
				}
				if proof.Covers(n(strings.ToUpper(owner)), n(next), n(strings.ToUpper(x))) != want {
					t.Errorf("P8.1 Covers(%s, %s, %s) hangs on letters", owner, next, x)
				}
			}
		}
	}
}

func TestCoversNoNames(t *testing.T) {
	a, b, c := n("a."), n("b."), n("c.")
	for _, bad := range []string{"", "a", "\x01a", "\x01b\x00\x00", "\xc0\x0c", "b.", strings.Repeat("\x01b", 127) + "\x01\x00"} {
		for _, three := range [][3]string{{bad, c, b}, {a, bad, b}, {a, c, bad}, {bad, bad, b}, {bad, c, bad}, {a, bad, bad}, {bad, bad, bad}, {c, a, bad}, {a, a, bad}, {bad, c, a}, {a, bad, c}} {
			if proof.Covers(three[0], three[1], three[2]) {
				t.Errorf("P8.1 Covers(%q) with what is no name", three)
			}
		}
	}
	if !proof.Covers(a, c, b) || proof.Covers(a, c, "\x01A\x00") || !proof.Covers(api.Root, api.Root, a) {
		t.Error("P8.1: a name between two")
	}
}
