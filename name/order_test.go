package name_test

import (
	"bytes"
	"slices"
	"testing"

	"gazetteer/api"
	"gazetteer/name"
)

// great writes a to z as A to Z, and leaves all other bytes.
func great(n string) string {
	b := []byte(n)
	for i := range b {
		if 97 <= b[i] && b[i] <= 122 {
			b[i] -= 32
		}
	}
	return string(b)
}

func TestFold(t *testing.T) {
	var all, folded [256]string
	for b := range 256 {
		small := b
		if 65 <= b && b <= 90 {
			small = b + 32
		}
		all[b], folded[b] = string([]byte{byte(b)}), string([]byte{byte(small)})
	}
	for i := range all {
		n, want := wire(all[i], "Ab"), wire(folded[i], "ab")
		if got := name.Fold(n); got != want {
			t.Errorf("P1.4 Fold(%q) = %q; wanted %q", n, got, want)
		}
		for j := range all {
			if name.Equal(wire(all[i]), wire(all[j])) != (folded[i] == folded[j]) {
				t.Errorf("P1.4 Equal of the bytes %d and %d", i, j)
			}
		}
	}
	if got := name.Fold(great(long(255))); got != long(255) {
		t.Errorf("P1.4: Fold of a name of 255 bytes is %q", got)
	}
}

func TestEqual(t *testing.T) {
	for _, c := range []struct {
		a, b string
		want bool
	}{
		{api.Root, api.Root, true},
		{api.Root, wire("a"), false},
		{wire("www", "Example"), wire("WWW", "eXample"), true},
		{wire("a", "b"), wire("a"), false},
		{wire("a", "b"), wire("b", "a"), false},
		{wire("a\x01b"), wire("a", "b"), false},
		{wire("\xe4"), wire("\xc4"), false}, // letters beyond a to z
	} {
		if got := name.Equal(c.a, c.b); got != c.want {
			t.Errorf("P1.4 Equal(%q, %q) = %v; wanted %v", c.a, c.b, got, c.want)
		}
	}
}

func TestCompareOrder(t *testing.T) {
	order := []string{
		api.Root,
		wire("EXAMPLE"),
		wire("a", "example"),
		wire("_b", "a", "Example"), // between the great and the small letters
		wire("yljk", "a", "example"),
		wire("Z", "a", "Example"),
		wire("zABC", "a", "EXAMPLE"),
		wire("b", "example"),
		wire("z", "example"),
		wire("\x01", "z", "example"),
		wire("*", "z", "example"),
		wire("\xc8", "z", "example"),
		wire("z\x00", "example"), // one label begins with the other
		wire("zz", "example"),
		wire("z\xff", "example"),
		wire("{", "example"),
		wire("\xff", "example"),
		wire("examplex"),
		wire("f"),
	}
	for i, a := range order {
		for j, b := range order {
			want := 0
			if i < j {
				want = -1
			} else if i > j {
				want = 1
			}
			if got := name.Compare(a, b); got != want {
				t.Errorf("P1.5 Compare(%q, %q) = %d; wanted %d", a, b, got, want)
			}
			if got := name.Compare(great(a), b); got != want {
				t.Errorf("P1.5 Compare(%q, %q) = %d; wanted %d", great(a), b, got, want)
			}
		}
	}
}

// comparePlainly tells the order by lists of labels, the last one first.
func comparePlainly(a, b string) int {
	x, _ := splitPlainly(a)
	y, _ := splitPlainly(b)
	slices.Reverse(x)
	slices.Reverse(y)
	return slices.CompareFunc(x, y, func(k, l string) int {
		return bytes.Compare(lower(k), lower(l))
	})
}

func lower(label string) []byte {
	b := []byte(label)
	for i := range b {
		if 65 <= b[i] && b[i] <= 90 {
			b[i] += 32
		}
	}
	return b
}

func commonPlainly(a, b string) string {
	x, _ := splitPlainly(a)
	y, _ := splitPlainly(b)
	for k := range len(x) + 1 {
		for l := range len(y) + 1 {
			if great(wire(x[k:]...)) == great(wire(y[l:]...)) {
				return wire(x[k:]...)
			}
		}
	}
	return ""
}

func TestRandomPairs(t *testing.T) {
	list := randomNames(400)
	for _, a := range list {
		for _, b := range list {
			if got, want := name.Compare(a, b), comparePlainly(a, b); got != want {
				t.Fatalf("P1.5 Compare(%q, %q) = %d; wanted %d", a, b, got, want)
			}
			common := commonPlainly(a, b)
			if got := name.Common(a, b); got != common {
				t.Fatalf("P1.7 Common(%q, %q) = %q; wanted %q", a, b, got, common)
			}
			if got, want := name.Within(a, b), great(common) == great(b); got != want {
				t.Fatalf("P1.7 Within(%q, %q) = %v; wanted %v", a, b, got, want)
			}
			if got, want := name.Equal(a, b), great(a) == great(b); got != want {
				t.Fatalf("P1.4 Equal(%q, %q) = %v; wanted %v", a, b, got, want)
			}
		}
	}
}

func TestWithin(t *testing.T) {
	for _, c := range []struct {
		n, zone string
		want    bool
	}{
		{api.Root, api.Root, true},
		{wire("a"), api.Root, true},
		{api.Root, wire("a"), false},
		{wire("a", "B"), wire("A", "b"), true},
		{wire("x", "a", "b"), wire("A", "B"), true},
		{wire("b"), wire("a", "b"), false},
		{wire("xa", "b"), wire("a", "b"), false},
		{wire("xx\x01b"), wire("b"), false}, // ends with its bytes, not with its labels
		{long(255), api.Root, true},
		{long(255), long(255), true},
	} {
		if got := name.Within(c.n, c.zone); got != c.want {
			t.Errorf("P1.7 Within(%q, %q) = %v; wanted %v", c.n, c.zone, got, c.want)
		}
	}
}

func TestCommon(t *testing.T) {
	for _, c := range []struct{ a, b, want string }{
		{wire("a", "b", "c"), wire("x", "B", "c"), wire("b", "c")},
		{wire("x", "B", "c"), wire("a", "b", "C"), wire("B", "c")},
		{wire("a"), wire("b"), api.Root},
		{api.Root, wire("b"), api.Root},
		{api.Root, api.Root, api.Root},
		{wire("A"), wire("a"), wire("A")},
		{wire("a", "b"), wire("b"), wire("b")},
		{wire("b", "a"), wire("b", "c"), api.Root},
		{wire("a", "x", "c"), wire("a", "y", "c"), wire("c")}, // the same again further down doesn't count
	} {
		if got := name.Common(c.a, c.b); got != c.want {
			t.Errorf("P1.7 Common(%q, %q) = %q; wanted %q", c.a, c.b, got, c.want)
		}
	}
}
