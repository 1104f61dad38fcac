package policy_test

import (
	"slices"
	"strconv"
	"strings"
	"testing"

	"gazetteer/api"
	"gazetteer/data"
	"gazetteer/policy"
)

// rewritings gives the NAPTR that texts of an order, a preference and a service
// tell, such as "10 5 sip".
func rewritings(texts ...string) []api.Record {
	var lines []string
	for i, text := range texts {
		words := strings.SplitN(text, " ", 3)
		service := `"` + words[2] + `"`
		lines = append(lines, strings.Join([]string{"n", strconv.Itoa(60 + i), "NAPTR", words[0], words[1], "flags", service, "sip", "t" + strconv.Itoa(i)}, " "))
	}
	return list(lines...)
}

func TestRewrites(t *testing.T) {
	mixed := rewritings("20 1 sip", "10 9 SIP", "10 9 http", "10 1 http", "10 2 Sip", "5 0 mail", "10 9 sIp")
	odd := rewritings("1 1 ", "1 1 sip ", "1 1 si", "1 1 sip+d2u", "1 1 @[`{", `1 1 \195\132`)
	for _, c := range []struct {
		set     []api.Record
		service string
		want    string
	}{
		{mixed, "sip", "4 1 6"}, // of order 10; the one of 20 isn't told
		{mixed, "SIP", "4 1 6"},
		{mixed, "http", "3 2"},
		{mixed, "mail", "5"},
		{mixed, "", "5"}, // any: the lowest order of all
		{mixed, "s", ""},
		{mixed, "sips", ""},
		{mixed, "flags", ""}, // the first text, and the third, say nothing
		{rewritings("10 5 http"), "sip", ""},
		{odd, "", "0 1 2 3 4 5"},
		{odd, "sip", ""},
		{odd, "sip ", "1"},
		{odd, " ", ""},
		{odd, "SI", "2"},
		{odd, "sip+D2U", "3"},
		{odd, "@[`{", "4"}, // bytes beside the letters
		{odd, "`{@[", ""},
		{odd, "`[@{", ""},
		{odd, "\xc3\x84", "5"},
		{odd, "\xc3\xa4", ""}, // no letters but A to Z
		{rewritings("65535 0 a", "0 65535 A", "256 0 a", "255 0 a"), "a", "1"},
		{rewritings("256 0 a", "255 0 a"), "A", "1"},
		{rewritings("7 65535 a", "7 0 a", "7 256 a", "7 255 a", "7 0 A"), "a", "1 4 3 2 0"},
		{rewritings("7 3 a", "7 3 b", "7 3 a", "7 3 c"), "", "0 1 2 3"}, // the same: in the set's order
		{rewritings("7 3 a", "7 3 b", "7 3 a", "7 3 c"), "a", "0 2"},
	} {
		got, e := policy.Rewrites(c.set, c.service)
		if places(c.set, got) != c.want || e != api.OK {
			t.Errorf("P15.7 Rewrites(%s, %q) = %s, %d; wanted %s", tell(c.set), c.service, places(c.set, got), e, c.want)
		}
	}
}

// TestRewritesTexts: services of as few and as many bytes as there may be,
// behind flags of such.
func TestRewritesTexts(t *testing.T) {
	most := strings.Repeat("Ab", 127) + "c"
	text := func(b string) string { return string([]byte{byte(len(b))}) + b }
	var set []api.Record
	for i, service := range []string{"", "x", most, "\x00"} {
		for k, flags := range []string{"", "x", most} {
			d := "\x00\x01\x00" + string([]byte{byte(4*i + k)}) + text(flags) + text(service) + text("x") + "\x00"
			set = append(set, api.Record{Owner: n("s"), Type: api.NAPTR, Class: api.IN, TTL: 60, Data: d})
		}
	}
	for _, c := range []struct{ service, want string }{
		{"", "0 1 2 3 4 5 6 7 8 9 10 11"},
		{"X", "3 4 5"},
		{strings.ToUpper(most), "6 7 8"},
		{most + "c", ""},
		{most[1:], ""},
		{"\x00", "9 10 11"},
		{strings.Repeat("x", 256), ""},
		{strings.Repeat("x", 100000), ""},
	} {
		if got, e := policy.Rewrites(set, c.service); places(set, got) != c.want || e != api.OK {
			t.Errorf("P15.7 Rewrites(.., %.20q) = %s, %d; wanted %s", c.service, places(set, got), e, c.want)
		}
	}
}

func TestRewritesWrong(t *testing.T) {
	sets := append(noSets(`NAPTR 10 5 s sip "" name`), list("s SRV 10 5 80 a"), list("s TYPE36 \\# 0"), list("s MX 10 ."))
	for _, set := range sets {
		for _, service := range []string{"", "sip"} {
			if got, e := policy.Rewrites(set, service); got != nil || e != api.ErrForm {
				t.Errorf("P15.7 Rewrites(%+v, %q) = %+v, %d", set, service, got, e)
			}
		}
	}
}

// modelRewrites takes those that fit one behind the other: each time the least
// of those that are left.
func modelRewrites(set []api.Record, service string) []api.Record {
	words := func(r api.Record) (order, preference int, service string) {
		text, _ := data.Show(r.Type, r.Data)
		w := strings.Fields(text)
		order, _ = strconv.Atoi(w[0])
		preference, _ = strconv.Atoi(w[1])
		return order, preference, w[3]
	}
	var out []api.Record
	for order := range 12 {
		for preference := range 12 {
			for _, r := range set {
				o, p, s := words(r)
				if o == order && p == preference && (service == "" || strings.EqualFold(s, `"`+service+`"`)) {
					out = append(out, r)
				}
			}
		}
		if len(out) > 0 {
			return out
		}
	}
	return nil
}

func TestRewritesAgain(t *testing.T) {
	d := newDice(158)
	none, some := 0, 0
	for range 3000 {
		var texts []string
		for range 1 + d.Intn(8) {
			texts = append(texts, strconv.Itoa(d.number(0, 1, 2, 11))+" "+strconv.Itoa(d.number(0, 1, 2, 11))+" "+d.oneOf("", "sip", "SIP", "http", "x"))
		}
		set, service := rewritings(texts...), d.oneOf("", "sip", "Sip", "X", "mail")
		got, e := policy.Rewrites(set, service)
		if want := modelRewrites(set, service); !slices.Equal(got, want) || e != api.OK {
			t.Fatalf("P15.7 Rewrites(%s, %q) = %s, %d; wanted %s", tell(set), service, places(set, got), e, places(set, want))
		}
		if len(got) == 0 {
			none++
		} else {
			some++
		}
	}
	if none < 300 || some < 1000 {
		t.Errorf("too few: %d none, %d some", none, some)
	}
}
