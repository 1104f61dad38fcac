package resolver_test

import (
	"math"
	"slices"
	"strings"
	"testing"

	"gazetteer/api"
	"gazetteer/resolver"
)

func TestNew(t *testing.T) {
	four, sixteen := at(1), strings.Repeat("\x00", 16)
	for _, c := range []struct {
		about string
		roots []string
		most  int
		ok    bool
	}{
		{"one", []string{four}, 100, true},
		{"sixteen bytes", []string{sixteen}, 100, true},
		{"both", []string{sixteen, four, sixteen}, 100, true},
		{"any bytes", []string{"abcd", "\x00\x00\x00\x00", "\xff\xff\xff\xff"}, 100, true},
		{"twenty", slices.Repeat([]string{four}, 20), 100, true},
		{"the fewest things", []string{four}, 1, true},
		{"the most things", []string{four}, 5000, true},
		{"nil", nil, 100, false},
		{"none", []string{}, 100, false},
		{"twenty-one", slices.Repeat([]string{four}, 21), 100, false},
		{"an empty one", []string{""}, 100, false},
		{"three bytes", []string{four[:3]}, 100, false},
		{"five bytes", []string{four + "\x00"}, 100, false},
		{"fifteen bytes", []string{sixteen[:15]}, 100, false},
		{"seventeen bytes", []string{sixteen + "\x00"}, 100, false},
		{"the last one wrong", []string{four, sixteen, "abc"}, 100, false},
		{"no thing", []string{four}, 0, false},
		{"fewer than none", []string{four}, -1, false},
		{"one too many", []string{four}, 5001, false},
		{"the least number", []string{four}, math.MinInt, false},
		{"the greatest number", []string{four}, math.MaxInt, false},
		{"all wrong", nil, 0, false},
	} {
		want := api.ErrArg
		if c.ok {
			want = api.OK
		}
		r, e := resolver.New(c.roots, c.most)
		if e != want || (r != nil) != c.ok {
			t.Errorf("P14.1 %s: %v, error %d; wanted %d", c.about, r != nil, e, want)
		}
	}
}

// TestRoots: those that were given are asked, one behind the other, and no
// others; whatever is done later with the list.
func TestRoots(t *testing.T) {
	w := netOf(found(lay(".", "ns.=1", "www A 10.1.1.1")))
	long := strings.Repeat("\x20", 16)
	w.servers[long] = w.servers[at(1)]
	for _, c := range []struct {
		roots []string
		asked []string
	}{
		{[]string{at(1)}, []string{at(1)}},
		{[]string{at(7), at(1), at(8)}, []string{at(7), at(1)}},
		{[]string{long, at(1)}, []string{long}},
		{[]string{at(7), at(8)}, []string{at(7), at(8)}},
	} {
		given := slices.Clone(c.roots)
		r, e := resolver.New(given, 10)
		if e != api.OK {
			t.Fatalf("P14.1: error %d", e)
		}
		if !slices.Equal(given, c.roots) {
			t.Errorf("P2: %q was changed to %q", c.roots, given)
		}
		clear(given)
		w.sent = nil
		reply := ask(t, r, w, "100 www. A")
		var asked []string
		for _, s := range w.sent {
			asked = append(asked, s.to)
		}
		want := "NoError: www. 60 A 10.1.1.1"
		if !slices.Contains(c.asked, at(1)) && !slices.Contains(c.asked, long) {
			want = "ServFail"
		}
		if !slices.Equal(asked, c.asked) || tell(reply) != want {
			t.Errorf("P14.1: roots %q: asked %q, told %s", c.roots, asked, tell(reply))
		}
	}
}
