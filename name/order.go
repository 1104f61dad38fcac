package name

import (
	"cmp"
	"strings"

	"gazetteer/spell"
)

// Fold: the name in small letters.
func Fold(n string) string {
	if !isName(n) {
		return ""
	}
	// The lengths of labels are folded along: they stay below "A".
	return spell.Small(n)
}

// Equal: are both names, and the same?
func Equal(a, b string) bool { return isName(a) && Fold(a) == Fold(b) }

// Compare: which comes first.
func Compare(a, b string) int {
	if !isName(a) || !isName(b) {
		return 0
	}
	x, y := Labels(Fold(a)), Labels(Fold(b))
	k := sameTail(x, y)
	if k == len(x) || k == len(y) {
		return cmp.Compare(len(x), len(y))
	}
	return strings.Compare(x[len(x)-1-k], y[len(y)-1-k])
}

// Within: is n the zone's name or below it?
func Within(n, zone string) bool { return Equal(Tail(n, Count(zone)), zone) }

// Common: the longest name that both are within.
func Common(a, b string) string {
	if !isName(a) || !isName(b) {
		return ""
	}
	return Tail(a, sameTail(Labels(Fold(a)), Labels(Fold(b))))
}

// sameTail: how many labels, from the last one on, are the same.
func sameTail(x, y []string) int {
	most := min(len(x), len(y))
	for k := range most {
		if x[len(x)-1-k] != y[len(y)-1-k] {
			return k
		}
	}
	return most
}
