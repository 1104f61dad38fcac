package name_test

import (
	"math"
	"math/rand"
	"slices"
	"strings"
	"testing"

	"gazetteer/api"
	"gazetteer/name"
)

// wire lays labels one behind the other, right or wrong, and an end.
func wire(labels ...string) string {
	var b strings.Builder
	for _, l := range labels {
		b.WriteByte(byte(len(l)))
		b.WriteString(l)
	}
	return b.String() + "\x00"
}

func fill(size int) string { return strings.Repeat("x", size) }

// long gives a row of good labels that has size bytes, its end counted.
func long(size int) string {
	var labels []string
	for left := size - 1; left > 0; {
		take := min(left, 64)
		if left == 65 { // a label needs two bytes
			take = 63
		}
		labels = append(labels, fill(take-1))
		left -= take
	}
	return wire(labels...)
}

// notNames are texts that are no names, each for a reason of its own.
func notNames() []string {
	return []string{
		"",                       // no end
		"\x01a",                  // no end behind a label
		"\x00\x00",               // something behind the root
		"\x01a\x00\x00",          // something behind the end
		"\x01a\x00\x01b\x00",     // a name behind a name
		"\x03ab\x00",             // the end lies within a label
		"\x02a",                  // a label is cut short
		"\x01",                   // a length alone
		wire(fill(64)),           // a label too long
		wire("a", fill(64)),      // and not the first one
		"\xc0\x0c",               // a pointer of a message
		"\x01a\xc0\x00",          // a pointer behind a label
		"a.",                     // a written name
		long(256),                // a name too long
		long(1000),               // much too long
		strings.Repeat("a", 300), // long and no name at all
	}
}

// randomNames have few letters and labels, so that they often share some.
func randomNames(count int) []string {
	const bytes = "aAbBzZ@[`{*\x00\xff."
	r := rand.New(rand.NewSource(1))
	list := []string{api.Root, long(255), long(254), long(253), wire(fill(63))}
	for range count {
		var labels []string
		for range r.Intn(5) {
			l := make([]byte, 1+r.Intn(2))
			for i := range l {
				l[i] = bytes[r.Intn(len(bytes))]
			}
			labels = append(labels, string(l))
		}
		list = append(list, wire(labels...))
	}
	return list
}

func TestCheck(t *testing.T) {
	if len(long(255)) != 255 || len(long(256)) != 256 {
		t.Fatal("long makes rows of other lengths")
	}
	most := strings.Repeat("\x01a", 127) + "\x00"
	for _, n := range []string{api.Root, "\x01a\x00", "\x03www\x07Example\x00", wire(fill(63)), long(254), long(255), most, wire("\x00\xff.")} {
		if e := name.Check(n); e != api.OK {
			t.Errorf("P1.1 Check(%q) = %d; wanted OK", n, e)
		}
	}
	for _, n := range notNames() {
		if e := name.Check(n); e != api.ErrName {
			t.Errorf("P1.1 Check(%q) = %d; wanted ErrName", n, e)
		}
	}
}

func TestNotNames(t *testing.T) {
	good := "\x01a\x00"
	for _, n := range notNames() {
		if name.Show(n) != "" || name.Fold(n) != "" {
			t.Errorf("P1.3, P1.4: Show or Fold tells something of %q", n)
		}
		if name.Equal(n, n) || name.Equal(n, good) || name.Equal(good, n) {
			t.Errorf("P1.4: %q is equal to something", n)
		}
		if name.Compare(n, good) != 0 || name.Compare(good, n) != 0 || name.Compare(n, "") != 0 {
			t.Errorf("P1.5: %q has a place in the order", n)
		}
		if name.Count(n) != -1 || len(name.Labels(n)) != 0 || name.Parent(n) != "" {
			t.Errorf("P1.6: Count, Labels or Parent of %q", n)
		}
		for _, k := range []int{math.MinInt, -2, -1, 0, 1, math.MaxInt} {
			if name.Tail(n, k) != "" {
				t.Errorf("P1.6: Tail(%q, %d) is something", n, k)
			}
		}
		if name.Within(n, n) || name.Within(n, api.Root) || name.Within(good, n) {
			t.Errorf("P1.7: %q is within something, or something within it", n)
		}
		if name.Common(n, good) != "" || name.Common(good, n) != "" || name.Common(n, n) != "" {
			t.Errorf("P1.7: Common of %q", n)
		}
		if name.Star(n) != "" || name.IsStar(n) || name.IsStar("\x01*\x00"+n+"a") {
			t.Errorf("P1.9: Star or IsStar of %q", n)
		}
	}
}

func TestLabels(t *testing.T) {
	for _, labels := range [][]string{
		nil,
		{"a"},
		{"www", "Example"},
		{"a", "B", "a", "b"},
		{fill(63), fill(63), fill(63), fill(61)},
		{"\x00", "\x01a", ".", "\xff"},
	} {
		n := wire(labels...)
		if got := name.Count(n); got != len(labels) {
			t.Errorf("P1.6 Count(%q) = %d; wanted %d", n, got, len(labels))
		}
		if got := name.Labels(n); !slices.Equal(got, labels) {
			t.Errorf("P1.6 Labels(%q) = %q; wanted %q", n, got, labels)
		}
		if got, e := name.Join(labels); got != n || e != api.OK {
			t.Errorf("P1.6 Join(%q) = %q, %d; wanted %q", labels, got, e, n)
		}
		parent := ""
		if len(labels) > 0 {
			parent = wire(labels[1:]...)
		}
		if got := name.Parent(n); got != parent {
			t.Errorf("P1.6 Parent(%q) = %q; wanted %q", n, got, parent)
		}
		for k := range len(labels) + 1 {
			want := wire(labels[len(labels)-k:]...)
			if got := name.Tail(n, k); got != want {
				t.Errorf("P1.6 Tail(%q, %d) = %q; wanted %q", n, k, got, want)
			}
		}
		for _, k := range []int{math.MinInt, -1, len(labels) + 1, math.MaxInt} {
			if got := name.Tail(n, k); got != "" {
				t.Errorf("P1.6 Tail(%q, %d) = %q; wanted nothing", n, k, got)
			}
		}
	}
}

func TestJoinFaults(t *testing.T) {
	for _, c := range []struct {
		labels []string
		want   api.Errno
	}{
		{[]string{""}, api.ErrLabel},
		{[]string{"a", "", "b"}, api.ErrLabel},
		{[]string{fill(63)}, api.OK},
		{[]string{fill(64)}, api.ErrLabel},
		{[]string{fill(64 + 256)}, api.ErrLabel},
		{[]string{fill(63), fill(63), fill(63), fill(61)}, api.OK},
		{[]string{fill(63), fill(63), fill(63), fill(62)}, api.ErrLong},
		{slices.Repeat([]string{"a"}, 127), api.OK},
		{slices.Repeat([]string{"a"}, 128), api.ErrLong},
		{append(slices.Repeat([]string{"a"}, 200), ""), api.ErrLabel},
		{append(slices.Repeat([]string{"a"}, 200), fill(64)), api.ErrLabel},
	} {
		given := slices.Clone(c.labels)
		got, e := name.Join(c.labels)
		if e != c.want || (got == "") != (c.want != api.OK) {
			t.Errorf("P1.6 Join(%q) = %q, %d; wanted %d", c.labels, got, e, c.want)
		}
		if !slices.Equal(given, c.labels) {
			t.Errorf("P2: Join changed %q to %q", given, c.labels)
		}
	}
}

func TestLabelsAreNew(t *testing.T) {
	n := wire("a", "b")
	name.Labels(n)[0] = "z"
	if got := name.Labels(n); !slices.Equal(got, []string{"a", "b"}) {
		t.Errorf("P2: Labels(%q) = %q once an answer ahead was changed", n, got)
	}
}

func TestGraft(t *testing.T) {
	half := wire(fill(63), fill(63))
	for _, c := range []struct {
		n, from, to, want string
		e                 api.Errno
	}{
		{wire("a", "b", "old"), wire("old"), wire("new", "example"), wire("a", "b", "new", "example"), api.OK},
		{wire("A", "b", "OLD"), wire("B", "old"), wire("New"), wire("A", "New"), api.OK},
		{wire("old"), wire("Old"), wire("new"), wire("new"), api.OK},
		{wire("a", "old"), wire("old"), api.Root, wire("a"), api.OK},
		{wire("a"), api.Root, wire("b"), wire("a", "b"), api.OK},
		{api.Root, api.Root, api.Root, api.Root, api.OK},
		{api.Root, wire("a"), wire("b"), "", api.ErrOutside},
		{wire("a", "bold"), wire("old"), wire("new"), "", api.ErrOutside},
		{wire("b"), wire("a", "b"), wire("new"), "", api.ErrOutside},
		{wire("a", "xxx\x03old"), wire("old"), wire("new"), "", api.ErrOutside},
		{half, api.Root, wire(fill(63), fill(61)), half[:128] + wire(fill(63), fill(61)), api.OK},
		{half, api.Root, wire(fill(63), fill(62)), "", api.ErrLong},
		{long(255), long(255), long(255), long(255), api.OK},
	} {
		got, e := name.Graft(c.n, c.from, c.to)
		if got != c.want || e != c.e {
			t.Errorf("P1.8 Graft(%q, %q, %q) = %q, %d; wanted %q, %d", c.n, c.from, c.to, got, e, c.want, c.e)
		}
	}
	for _, bad := range notNames() {
		for _, three := range [][3]string{{bad, "\x01a\x00", "\x00"}, {"\x01b\x00", bad, "\x00"}, {"\x01b\x00", "\x01a\x00", bad}, {bad, bad, bad}} {
			got, e := name.Graft(three[0], three[1], three[2])
			if got != "" || e != api.ErrName {
				t.Errorf("P1.8 Graft(%q) = %q, %d; wanted ErrName", three, got, e)
			}
		}
	}
}

func TestStar(t *testing.T) {
	for _, c := range []struct{ n, want string }{
		{api.Root, "\x01*\x00"},
		{wire("w", "ex"), wire("*", "w", "ex")},
		{wire("*"), wire("*", "*")},
		{long(253), "\x01*" + long(253)},
		{long(254), ""},
		{long(255), ""},
	} {
		got := name.Star(c.n)
		if got != c.want {
			t.Errorf("P1.9 Star(%q) = %q; wanted %q", c.n, got, c.want)
		}
		if name.IsStar(got) != (c.want != "") {
			t.Errorf("P1.9 IsStar(%q)", got)
		}
	}
	for _, n := range []string{api.Root, wire("a"), wire("**"), wire("*a"), wire("a", "*"), wire("+")} {
		if name.IsStar(n) {
			t.Errorf("P1.9: %q is a star", n)
		}
	}
}

// Every short row of telling bytes: no call may panic, and calls must agree.
func TestShortRows(t *testing.T) {
	const bytes = "\x00\x01\x02\x03a\\.0*\xff"
	rows := []string{""}
	for begin := 0; len(rows) < 11111; {
		end := len(rows)
		for _, row := range rows[begin:end] {
			for i := range len(bytes) {
				rows = append(rows, row+bytes[i:i+1])
			}
		}
		begin = end
	}
	for i, n := range rows {
		labels, good := splitPlainly(n)
		if (name.Check(n) == api.OK) != good {
			t.Fatalf("P1.1 Check(%q); wanted a name: %v", n, good)
		}
		if !slices.Equal(name.Labels(n), labels) {
			t.Fatalf("P1.6 Labels(%q) = %q; wanted %q", n, name.Labels(n), labels)
		}
		if name.IsStar(n) != (len(labels) > 0 && labels[0] == "*") {
			t.Fatalf("P1.9 IsStar(%q)", n)
		}
		other := rows[(i*7919)%len(rows)]
		if name.Compare(n, other) != -name.Compare(other, n) || name.Equal(n, other) != name.Equal(other, n) {
			t.Fatalf("P1.4, P1.5: %q and %q, each way", n, other)
		}
		name.Common(n, other)
		name.Graft(n, other, n)
	}
}

// splitPlainly tells the labels of a name in another way than the package.
func splitPlainly(n string) ([]string, bool) {
	if n == "\x00" {
		return nil, true
	}
	if n == "" || n[0] == 0 || n[0] > 63 || len(n) > 255 || len(n) < int(n[0])+2 {
		return nil, false
	}
	rest, good := splitPlainly(n[1+n[0]:])
	if !good {
		return nil, false
	}
	return append([]string{n[1 : 1+n[0]]}, rest...), true
}
