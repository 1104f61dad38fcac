package auth_test

import (
	"slices"
	"strings"
	"testing"

	"gazetteer/api"
	"gazetteer/auth"
	"gazetteer/zone"
)

// zonesOf gives a zone for each apex; "-" is nil.
func zonesOf(apexes string) []*zone.Zone {
	var zones []*zone.Zone
	for _, apex := range strings.Fields(apexes) {
		if apex == "-" {
			zones = append(zones, nil)
		} else {
			zones = append(zones, plain(apex))
		}
	}
	return zones
}

func TestHas(t *testing.T) {
	const none = -1
	for _, c := range []struct {
		apexes string
		q      string
		typ    int
		want   int
	}{
		{"", "ex.", api.A, none},
		{"- -", "ex.", api.A, none},
		{"ex.", "ex.", api.A, 0},
		{"ex.", "EX.", api.A, 0},
		{"eX.", "a.b.Ex.", api.A, 0},
		{"ex.", "xex.", api.A, none},
		{"ex.", ".", api.A, none},
		{"ex.", "org.", api.A, none},
		{"a.ex.", "ex.", api.A, none},
		{".", ".", api.A, 0},
		{".", "a.ex.", api.A, 0},
		// The one with the most labels, wherever it stands.
		{". ex. b.ex.", "a.b.ex.", api.A, 2},
		{"b.ex. ex. .", "a.b.ex.", api.A, 0},
		{"ex. b.ex. .", "b.ex.", api.A, 1},
		{"ex. b.ex. .", "bb.ex.", api.A, 0},
		{"ex. b.ex. .", "org.", api.A, 2},
		// It is labels that count, not bytes.
		{"long-label.ex. b.c.ex.", "b.c.ex.", api.A, 1},
		// Of equal ones the first, of nil ones none.
		{"- ex. EX. ex.", "a.ex.", api.A, 1},
		{". - ex. - ex. .", "a.ex.", api.A, 2},
		{". - ex. - ex. .", "a.", api.A, 0},
		// Of DS at an apex the zone above has it.
		{"ex. b.ex.", "b.ex.", api.DS, 0},
		{"b.ex. ex.", "B.EX.", api.DS, 1},
		{"b.ex. ex.", "a.b.ex.", api.DS, 0},
		{"ex. b.ex.", "b.ex.", api.NS, 1},
		{". a.b.ex. ex.", "a.b.ex.", api.DS, 2},
		{". a.b.ex.", "a.b.ex.", api.DS, 0},
		{". ex. b.ex. a.b.ex.", "a.b.ex.", api.DS, 2},
		{"a.b.ex. b.ex. ex. .", "a.b.ex.", api.DS, 1},
		{"a.b.ex. c.ex.", "a.b.ex.", api.DS, 0},
		{"b.ex.", "b.ex.", api.DS, 0},
		{"b.ex. a.b.ex.", "b.ex.", api.DS, 0},
		{"b.ex. b.ex.", "b.ex.", api.DS, 0},
		{"b.ex. B.ex. - ex. EX.", "b.ex.", api.DS, 3},
		{".", ".", api.DS, 0},
		{". .", ".", api.DS, 0},
		// No other type says anything.
		{"ex. b.ex.", "b.ex.", 0, 1},
		{"ex. b.ex.", "b.ex.", -1, 1},
		{"ex. b.ex.", "b.ex.", 65536 + api.DS, 1},
		{"ex. b.ex.", "b.ex.", api.ANY, 1},
	} {
		zones := zonesOf(c.apexes)
		given := slices.Clone(zones)
		var want *zone.Zone
		if c.want != none {
			want = zones[c.want]
		}
		if got := auth.Has(zones, n(c.q), c.typ); got != want {
			t.Errorf("P9.1 Has of %s: %s %d is the zone %d, wanted %d", c.apexes, c.q, c.typ, slices.Index(zones, got), c.want)
		}
		if !slices.Equal(zones, given) {
			t.Errorf("P2: Has changed its zones %s", c.apexes)
		}
	}
}

func TestHasNoNames(t *testing.T) {
	zones := zonesOf(". ex.")
	for _, bad := range []string{"", "ex.", "\x02ex", "\x02ex\x00\x00", "\xc0\x0c", strings.Repeat("\x01b", 127) + "\x01\x00"} {
		for _, typ := range []int{api.A, api.DS, 0, -1 << 63} {
			if auth.Has(zones, bad, typ) != nil || auth.Has(nil, bad, typ) != nil {
				t.Errorf("P9.1: a zone has %q, which is no name", bad)
			}
		}
	}
}
