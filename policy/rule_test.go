package policy_test

import (
	"math"
	"slices"
	"strings"
	"testing"

	"gazetteer/api"
	"gazetteer/data"
	"gazetteer/name"
	"gazetteer/policy"
)

// rules gives one for each text, "WORD NAME": the word of its kind (with a "*"
// ahead of it: Below), and for "say" a line's type and data behind the name.
func rules(texts ...string) []api.Rule {
	var list []api.Rule
	for _, text := range texts {
		words := strings.SplitN(text, " ", 3)
		word, below := strings.CutPrefix(words[0], "*")
		r := api.Rule{Name: n(words[1]), Below: below, Kind: slices.Index(kinds(), word)}
		if len(words) == 3 {
			one := oneRecord(words[2])
			r.Type, r.TTL, r.Data = one.Type, one.TTL, one.Data
		}
		list = append(list, r)
	}
	return list
}

func kinds() []string { return []string{"pass", "drop", "noname", "nodata", "say"} }

// oneRecord gives the record of a line without an owner.
func oneRecord(line string) api.Record { return list("@ " + line)[0] }

func TestRule(t *testing.T) {
	ads := rules("*noname ads", "pass good.ads")
	nested := rules("*noname .", "*pass b.ex.", "*nodata ex.", "*drop a.b.ex.", "nodata x.ex.", "say b.ex. A 10.0.0.1")
	for _, c := range []struct {
		rules []api.Rule
		n     string
		want  int
	}{
		{ads, "x.ads", 0},
		{ads, "y.x.ads", 0},
		{ads, "ads", -1}, // Below: not of its own name
		{ads, "good.ads", 1},
		{ads, "x.good.ads", 0}, // not Below: of its own name alone
		{ads, "ex.", -1},
		{ads, "xads", -1},
		{ads, ".", -1},
		{ads, "X.ADS.EX.", 0},
		{ads, "gOOd.aDs.eX.", 1},
		{nil, "x.ads", -1},
		{nested, ".", -1},
		{nested, "org.", 0},
		{nested, "ex.", 0},
		{nested, "b.ex.", 5},
		{nested, "c.ex.", 2},
		{nested, "x.ex.", 4}, // not Below, ahead of one with as many labels
		{nested, "y.x.ex.", 2},
		{nested, "c.b.ex.", 1},
		{nested, "a.b.ex.", 1},
		{nested, "c.a.b.ex.", 3},
		{nested, "C.A.B.EX.", 3},
		{rules("pass .", "*drop ."), ".", 0},
		{rules("*drop .", "*drop .", "pass ex."), "ex.", 2},
		{rules("*drop ex.", "*pass EX.", "*nodata ex."), "a", 0}, // of several the first
		{rules("*drop .", "pass a", "drop A", "noname a"), "a", 1},
		{rules("*drop a", "*pass b"), "*.a", 0}, // a star is a label like others
		{rules("*drop *.a"), "x.a", -1},
		{rules("drop *.a"), "x.a", -1},
	} {
		if got := policy.Rule(c.rules, n(c.n)); got != c.want {
			t.Errorf("P15.3 Rule(%+v, %s) = %d; wanted %d", c.rules, c.n, got, c.want)
		}
	}
}

// TestRuleLong: names of as many labels, and as many bytes, as there may be.
func TestRuleLong(t *testing.T) {
	deep := strings.Repeat("\x01a", 127) + "\x00"
	chain := make([]api.Rule, 0, 128)
	for k := range 128 {
		chain = append(chain, api.Rule{Name: name.Tail(deep, k), Below: true, Kind: api.RuleDrop})
	}
	if got := policy.Rule(chain, strings.ToUpper(deep)); got != 126 {
		t.Errorf("P15.3: of 128 rules Below the number %d counts", got)
	}
	own := append(chain, api.Rule{Name: strings.ToUpper(deep), Kind: api.RulePass})
	if got := policy.Rule(own, deep); got != 128 {
		t.Errorf("P15.3: Below, number %d, goes ahead of the name's own", got)
	}
}

// TestRuleNoName: what is no name has no rule.
func TestRuleNoName(t *testing.T) {
	long := strings.Repeat("\x01a", 127) + "\x01a\x00"
	for _, text := range []string{"", "\x01", "\x01a", "a", "ex.", "\x01a\x00\x00", "\xc0\x0c", "\x40" + strings.Repeat("a", 64) + "\x00", long} {
		list := []api.Rule{{Name: text, Kind: api.RuleDrop}, {Name: text, Below: true, Kind: api.RuleDrop}, {Name: api.Root, Below: true, Kind: api.RuleDrop}}
		if got := policy.Rule(list, text); got != -1 {
			t.Errorf("P15.3 Rule(.., %q) = %d", text, got)
		}
		for _, own := range []string{"\x01a\x00", api.Root} {
			if got := policy.Rule(list[:2], own); got != -1 {
				t.Errorf("P15.3: a rule of %q speaks of %q", text, own)
			}
		}
	}
}

// TestRuleRight: a rule that isn't right doesn't count.
func TestRuleRight(t *testing.T) {
	long := strings.Repeat("x", 65535)
	for _, c := range []struct {
		kind, typ, ttl int
		data           string
		want           bool
	}{
		{-1, 1, 60, "\x0a\x00\x00\x01", false},
		{0, 1, 60, "\x0a\x00\x00\x01", true},
		{1, 1, 60, "\x0a\x00\x00\x01", true},
		{2, 1, 60, "\x0a\x00\x00\x01", true},
		{3, 1, 60, "\x0a\x00\x00\x01", true},
		{4, 1, 60, "\x0a\x00\x00\x01", true},
		{5, 1, 60, "\x0a\x00\x00\x01", false},
		{math.MinInt, 1, 60, "\x0a\x00\x00\x01", false},
		{math.MaxInt, 1, 60, "\x0a\x00\x00\x01", false},
		{0, 0, -1, "", true}, // others than RuleSay say nothing by type, age and data
		{1, 41, -1, "x", true},
		{2, -1, api.MaxTTL + 1, long + "x", true},
		{3, 1, math.MinInt, "x", true},
		{4, 0, 60, "", false},
		{4, -1, 60, "", false},
		{4, 41, 60, "", false},
		{4, 127, 60, "", true},
		{4, 128, 60, "", false},
		{4, 255, 60, "", false},
		{4, 256, 60, "", true},
		{4, 65535, 60, "", true},
		{4, 65536, 60, "", false},
		{4, 65537, 60, "\x0a\x00\x00\x01", false},
		{4, 1, 60, "", false},
		{4, 1, 60, "\x0a\x00\x00", false},
		{4, 1, 60, "\x0a\x00\x00\x01\x02", false},
		{4, 5, 60, "\x01a", false},
		{4, 5, 60, "\x01a\x00", true},
		{4, 5, 60, "\x01a\x00\x00", false},
		{4, 46, 60, "\x00\x01\xfd\x00" + strings.Repeat("\x00", 14) + "\x00s", true}, // an RRSIG
		{4, 731, 60, long, true},
		{4, 731, 60, long + "x", false},
		{4, 1, 0, "\x0a\x00\x00\x01", true},
		{4, 1, -1, "\x0a\x00\x00\x01", false},
		{4, 1, api.MaxTTL, "\x0a\x00\x00\x01", true},
		{4, 1, api.MaxTTL + 1, "\x0a\x00\x00\x01", false},
	} {
		for _, below := range []bool{false, true} {
			r := api.Rule{Name: n("ex."), Below: below, Kind: c.kind, Type: c.typ, TTL: c.ttl, Data: c.data}
			fallback := api.Rule{Name: n("."), Below: true}
			asked := n("ex.")
			if below {
				asked = n("a.ex.")
			}
			want := 1
			if c.want {
				want = 0
			}
			if got := policy.Rule([]api.Rule{r, fallback}, asked); got != want {
				t.Errorf("P15.3: kind %d, type %d, age %d, %d bytes: %d; wanted %d", c.kind, c.typ, c.ttl, len(c.data), got, want)
			}
		}
	}
}

// rule gives one of chance, at times one that isn't right.
func (d dice) rule() api.Rule {
	r := api.Rule{Name: d.name(), Below: d.Intn(2) == 0, Kind: d.Intn(7) - 1, TTL: d.number(0, 60, 300, -1)}
	said := oneRecord(d.oneOf("A 10.0.0.1", "TXT hi", "CNAME a.ex.", "MX 10 b"))
	r.Type, r.Data = said.Type, said.Data
	switch d.Intn(8) {
	case 0:
		r.Name = r.Name[1:]
	case 1:
		r.Data += "x"
	case 2:
		r.Type = d.number(0, 1, 41, 255, 731)
	}
	return r
}

func (d dice) rules() []api.Rule {
	list := make([]api.Rule, d.Intn(8))
	for i := range list {
		list[i] = d.rule()
	}
	return list
}

// isModelRight: as the chapter tells it.
func isModelRight(r api.Rule) bool {
	if name.Check(r.Name) != api.OK || !slices.Contains([]int{0, 1, 2, 3, 4}, r.Kind) {
		return false
	}
	return r.Kind != 4 || data.Check(r.Type, r.Data) == api.OK && r.TTL >= 0 && r.TTL <= 2147483647
}

// labelsOf gives a name's labels as they are written, in small letters.
func labelsOf(wire string) []string {
	return strings.FieldsFunc(strings.ToLower(name.Show(wire)), func(r rune) bool { return r == '.' })
}

// modelRule sorts those that speak of a name.
func modelRule(list []api.Rule, wire string) int {
	if name.Check(wire) != api.OK {
		return -1
	}
	labels := labelsOf(wire)
	var speak []int
	for i, r := range list {
		if !isModelRight(r) {
			continue
		}
		own := labelsOf(r.Name)
		ahead := len(labels) - len(own)
		if ahead < 0 || !slices.Equal(labels[ahead:], own) || r.Below != (ahead > 0) {
			continue
		}
		speak = append(speak, i)
	}
	slices.SortStableFunc(speak, func(i, k int) int {
		if list[i].Below != list[k].Below {
			if list[k].Below {
				return -1
			}
			return 1
		}
		return len(labelsOf(list[k].Name)) - len(labelsOf(list[i].Name))
	})
	return append(speak, -1)[0]
}

func TestRuleAgain(t *testing.T) {
	d := newDice(153)
	none, found := 0, 0
	for range 20000 {
		list, wire := d.rules(), d.name()
		if d.Intn(50) == 0 {
			wire += "\x00"
		}
		want := modelRule(list, wire)
		if got := policy.Rule(list, wire); got != want {
			t.Fatalf("P15.3 Rule(%+v, %q) = %d; wanted %d", list, wire, got, want)
		}
		if want < 0 {
			none++
		} else {
			found++
		}
	}
	if none < 2000 || found < 2000 {
		t.Errorf("too few: %d none, %d found", none, found)
	}
}
