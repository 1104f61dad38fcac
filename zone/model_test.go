package zone_test

import (
	"math/rand"
	"reflect"
	"slices"
	"strings"
	"testing"

	"gazetteer/api"
	"gazetteer/data"
	"gazetteer/name"
	"gazetteer/zone"
)

// A second reckoning of the chapter, by going through the list for each thing
// that is asked, held against the package by zones of chance.

type model struct {
	apex string
	list []api.Record
}

func (m model) any(holds func(i int, r api.Record) bool) bool {
	for i, r := range m.list {
		if holds(i, r) {
			return true
		}
	}
	return false
}

func alike(a, b api.Record) bool {
	return name.Equal(a.Owner, b.Owner) && a.Type == b.Type && data.Fold(a.Type, a.Data) == data.Fold(b.Type, b.Data)
}

// below: within, and not equal.
func below(a, b string) bool { return name.Within(a, b) && !name.Equal(a, b) }

// modelRule: whether record i breaks it; or, where that is nil, the type that
// must stand at the apex.
type modelRule struct {
	code   api.Errno
	breaks func(i int, r api.Record) bool
	lacks  int
}

func (m model) rules() []modelRule {
	others := func(i int, holds func(o api.Record) bool) bool {
		return m.any(func(j int, o api.Record) bool { return j != i && holds(o) })
	}
	return []modelRule{
		{code: api.ErrForm, breaks: func(i int, r api.Record) bool {
			return name.Check(r.Owner) != api.OK || r.Class != 1 || r.TTL < 0 || r.TTL > 2147483647 || data.Check(r.Type, r.Data) != api.OK
		}},
		{code: api.ErrOutside, breaks: func(i int, r api.Record) bool { return !name.Within(r.Owner, m.apex) }},
		{code: api.ErrTwice, breaks: func(i int, r api.Record) bool {
			return m.any(func(j int, o api.Record) bool { return j < i && alike(o, r) })
		}},
		{code: api.ErrSoa, breaks: func(i int, r api.Record) bool {
			earlier := m.any(func(j int, o api.Record) bool { return j < i && o.Type == api.SOA })
			return r.Type == api.SOA && (earlier || !name.Equal(r.Owner, m.apex))
		}},
		{code: api.ErrSoa, lacks: api.SOA},
		{code: api.ErrNs, lacks: api.NS},
		{code: api.ErrWild, breaks: func(i int, r api.Record) bool {
			return (r.Type == api.NS || r.Type == api.DNAME) && slices.Index(name.Labels(r.Owner), "*") == 0
		}},
		{code: api.ErrCname, breaks: func(i int, r api.Record) bool {
			return r.Type == api.CNAME && others(i, func(o api.Record) bool {
				return name.Equal(o.Owner, r.Owner) && o.Type != api.RRSIG && o.Type != api.NSEC
			})
		}},
		{code: api.ErrDname, breaks: func(i int, r api.Record) bool {
			return r.Type == api.DNAME && (name.Equal(r.Owner, m.apex) || others(i, func(o api.Record) bool {
				return name.Equal(o.Owner, r.Owner) && o.Type == api.DNAME || below(o.Owner, r.Owner)
			}))
		}},
		{code: api.ErrTtl, breaks: func(i int, r api.Record) bool {
			first := slices.IndexFunc(m.list, func(o api.Record) bool { return o.Type == r.Type && name.Equal(o.Owner, r.Owner) })
			return r.Type != api.RRSIG && m.list[first].TTL != r.TTL
		}},
	}
}

func (m model) fault() (int, api.Errno) {
	if name.Check(m.apex) != api.OK {
		return -1, api.ErrName
	}
	for _, rule := range m.rules() {
		for i, r := range m.list {
			if rule.breaks != nil && rule.breaks(i, r) {
				return i, rule.code
			}
		}
		if rule.lacks != 0 && len(m.set(m.apex, rule.lacks)) == 0 {
			return -1, rule.code
		}
	}
	return 0, api.OK
}

func (m model) records() []api.Record {
	sorted := slices.Clone(m.list)
	slices.SortFunc(sorted, func(a, b api.Record) int {
		if c := name.Compare(a.Owner, b.Owner); c != 0 {
			return c
		}
		if a.Type != b.Type {
			return a.Type - b.Type
		}
		return strings.Compare(data.Fold(a.Type, a.Data), data.Fold(b.Type, b.Data))
	})
	return sorted
}

// where: the records in their order for which something holds.
func (m model) where(holds func(r api.Record) bool) []api.Record {
	var out []api.Record
	for _, r := range m.records() {
		if holds(r) {
			out = append(out, r)
		}
	}
	return out
}

func (m model) set(owner string, t int) []api.Record {
	return m.where(func(r api.Record) bool { return name.Equal(r.Owner, owner) && r.Type == t })
}

func countsPlainly(r api.Record) bool {
	return !(r.Type == 50 || r.Type == 46 && r.Data[0] == 0 && r.Data[1] == 50)
}

func (m model) there(x string) bool {
	return m.any(func(i int, r api.Record) bool { return countsPlainly(r) && name.Within(r.Owner, x) })
}

func (m model) names() []string {
	var out []string
	for _, r := range m.list {
		for k := name.Count(m.apex); k <= name.Count(r.Owner); k++ {
			if x := name.Fold(name.Tail(r.Owner, k)); m.there(x) {
				out = append(out, x)
			}
		}
	}
	slices.SortFunc(out, name.Compare)
	return slices.Compact(out)
}

func (m model) find(q string, t int) api.Found {
	if !name.Within(q, m.apex) || t < 1 || t > 65535 {
		return api.Found{}
	}
	for k := name.Count(m.apex) + 1; k <= name.Count(q); k++ {
		x := name.Tail(q, k)
		if ns := m.set(x, api.NS); len(ns) > 0 && (x != q || t != api.DS) {
			return api.Found{Kind: api.FoundReferral, Owner: x, Records: ns}
		}
		if graft := m.set(x, api.DNAME); len(graft) > 0 && x != q {
			return api.Found{Kind: api.FoundGraft, Owner: x, Records: graft}
		}
	}
	f := api.Found{Owner: q, Encloser: q}
	if !m.there(q) {
		for k := 0; k < name.Count(q); k++ {
			if x := name.Tail(q, k); m.there(x) {
				f.Encloser = x
			}
		}
		if f.Owner, f.Wild = "\x01*"+f.Encloser, true; !m.there(f.Owner) {
			return api.Found{Kind: api.FoundNoName, Owner: q, Encloser: f.Encloser}
		}
	}
	if alias := m.set(f.Owner, api.CNAME); len(alias) > 0 && t != api.CNAME && t != api.ANY {
		f.Kind, f.Records = api.FoundAlias, alias
	} else {
		f.Kind = api.FoundNoData
		f.Records = m.where(func(r api.Record) bool {
			return name.Equal(r.Owner, f.Owner) && (r.Type == t || t == api.ANY && countsPlainly(r))
		})
		if len(f.Records) > 0 {
			f.Kind = api.FoundAnswer
		}
	}
	for i := range f.Records {
		if f.Wild {
			f.Records[i].Owner = q
		}
	}
	return f
}

func (m model) hidden(r api.Record) bool {
	for k := name.Count(m.apex) + 1; k <= name.Count(r.Owner); k++ {
		if cut := name.Tail(r.Owner, k); len(m.set(cut, api.NS)) > 0 {
			may := []int{api.A, api.AAAA}
			if name.Equal(cut, r.Owner) {
				may = []int{api.A, api.AAAA, api.NS, api.DS, api.NSEC, api.RRSIG}
			}
			return countsPlainly(r) && !slices.Contains(may, r.Type)
		}
	}
	return false
}

// unwise: the code for a target, 0 for none.
func (m model) unwise(r api.Record, target string) int {
	if !name.Within(target, m.apex) || len(m.set(target, api.A))+len(m.set(target, api.AAAA)) > 0 {
		return 0
	}
	a, aaaa := m.find(target, api.A).Kind, m.find(target, api.AAAA).Kind
	if a == api.FoundAnswer || aaaa == api.FoundAnswer {
		return 0
	}
	if a == api.FoundAlias {
		return api.LintAlias
	}
	if a == api.FoundReferral && r.Type != api.NS || r.Type != api.NS && target == "\x00" {
		return 0
	}
	return api.LintBare
}

func (m model) lint() []api.Finding {
	var out []api.Finding
	if len(m.set(m.apex, api.NS)) == 1 {
		out = append(out, api.Finding{Code: api.LintLone, Owner: m.apex, Type: api.NS})
	}
	for _, r := range m.records() {
		if m.hidden(r) {
			out = append(out, api.Finding{Code: api.LintHidden, Owner: r.Owner, Type: r.Type})
			continue
		}
		if r.Type != api.NS && r.Type != api.MX && r.Type != api.SRV {
			continue
		}
		names := data.Names(r.Type, r.Data)
		target := names[len(names)-1]
		if code := m.unwise(r, target); code != 0 {
			out = append(out, api.Finding{Code: code, Owner: r.Owner, Type: r.Type, Target: target})
		}
	}
	return out
}

// chance: names and records of chance, below an apex.
type chance struct {
	*rand.Rand
	apex string
}

func (c chance) of(texts ...string) string { return texts[c.Intn(len(texts))] }

// spelled: a name with some letters large.
func (c chance) spelled(x string) string {
	b := []byte(x)
	for i := range b {
		if 'a' <= b[i] && b[i] <= 'z' && c.Intn(5) == 0 {
			b[i] -= 32
		}
	}
	return string(b)
}

func (c chance) name() string {
	x := c.apex
	if c.Intn(60) == 0 {
		x = c.of("\x00", "\x02ex\x00", "\x01q\x00")
	}
	for range c.Intn(4) {
		x = c.of("\x01a", "\x01a", "\x01b", "\x02ns", "\x01*", "\x01\x00") + x
	}
	return c.spelled(x)
}

func (c chance) record() api.Record {
	sig := func() string {
		return c.of("\x00\x32", "\x00\x01", "\x32\x00") + strings.Repeat("\x00", 16) + c.spelled(c.apex) + "s"
	}
	kinds := []struct {
		t int
		d func() string
	}{
		{api.A, func() string { return "\x0a\x00\x00" + c.of("\x01", "\x02") }},
		{api.A, func() string { return "\x0a\x00\x00" + c.of("\x01", "\x02") }},
		{api.AAAA, func() string { return strings.Repeat("\x00", 15) + c.of("\x01", "\x02") }},
		{api.NS, c.name},
		{api.NS, c.name},
		{api.CNAME, c.name},
		{api.DNAME, c.name},
		{api.MX, func() string { return "\x00\x01" + c.name() }},
		{api.SRV, func() string { return "\x00\x01\x00\x01\x00\x01" + c.name() }},
		{api.TXT, func() string { return "\x01" + c.of("x", "X") }},
		{api.DS, func() string { return "\x00\x01\x02\x03\x04" }},
		{api.NSEC, c.name},
		{api.RRSIG, sig},
		{api.NSEC3, func() string { return "\x01\x00\x00\x00\x00\x01" + c.of("a", "b") }},
		{700, func() string { return c.of("", "\x00\x32", "x") }},
	}
	k := kinds[c.Intn(len(kinds))]
	r := api.Record{Owner: c.name(), Type: k.t, Class: api.IN, TTL: 60, Data: k.d()}
	if c.Intn(150) == 0 {
		r.TTL = []int{5, 0, -1, 2147483647, 2147483648}[c.Intn(5)]
	}
	if c.Intn(400) == 0 {
		r.Class, r.Type, r.Data = c.Intn(2), c.Intn(66000), c.of("", "x", r.Data)
	}
	return r
}

func (c chance) records() []api.Record {
	numbers := strings.Repeat("\x00\x00\x00\x02", 5)
	var l []api.Record
	for range 1 + c.Intn(9)/8 - c.Intn(40)/39 {
		l = append(l, api.Record{Owner: c.spelled(c.apex), Type: api.SOA, Class: api.IN, TTL: 60, Data: c.name() + c.name() + numbers})
	}
	for range 1 + c.Intn(2) - c.Intn(20)/19 {
		l = append(l, api.Record{Owner: c.spelled(c.apex), Type: api.NS, Class: api.IN, TTL: 60, Data: c.name()})
	}
	for range c.Intn(9) {
		l = append(l, c.record())
	}
	if c.Intn(15) == 0 && len(l) > 0 {
		r := l[c.Intn(len(l))]
		r.Owner, r.TTL = c.spelled(r.Owner), 70
		if r.Type == api.A {
			r.Data = "\x0a\x00\x00\x03"
		}
		l = append(l, r)
	}
	c.Shuffle(len(l), func(i, j int) { l[i], l[j] = l[j], l[i] })
	return l
}

func sameFound(a, b api.Found) bool {
	same := slices.Equal(a.Records, b.Records)
	a.Records, b.Records = nil, nil
	return same && reflect.DeepEqual(a, b)
}

// tally counts how often what came, so that chance leaves nothing out.
type tally struct {
	codes, kinds, wilds, findings map[int]int
}

func (s tally) enough(t *testing.T) {
	for _, code := range []api.Errno{api.OK, api.ErrForm, api.ErrOutside, api.ErrTwice, api.ErrSoa, api.ErrNs, api.ErrWild, api.ErrCname, api.ErrDname, api.ErrTtl} {
		if s.codes[int(code)] < 50 {
			t.Errorf("the zones of chance told the error %d only %d times", code, s.codes[int(code)])
		}
	}
	for kind := api.FoundNone; kind <= api.FoundNoName; kind++ {
		if s.kinds[kind] < 50 {
			t.Errorf("the zones of chance told the kind %d only %d times", kind, s.kinds[kind])
		}
	}
	for _, kind := range []int{api.FoundAnswer, api.FoundAlias, api.FoundNoData} {
		if s.wilds[kind] < 50 {
			t.Errorf("the zones of chance told the kind %d by a star only %d times", kind, s.wilds[kind])
		}
	}
	for code := api.LintLone; code <= api.LintHidden; code++ {
		if s.findings[code] < 50 {
			t.Errorf("the zones of chance told the finding %d only %d times", code, s.findings[code])
		}
	}
}

func TestModel(t *testing.T) {
	random := rand.New(rand.NewSource(52))
	count := tally{map[int]int{}, map[int]int{}, map[int]int{}, map[int]int{}}
	for range 15000 {
		c := chance{Rand: random}
		c.apex = c.of("\x00", "\x02ex\x00", "\x02ex\x00", "\x01a\x02eX\x00", "\x01a\x01a\x00")
		m := model{c.apex, c.records()}
		at, code := m.fault()
		z, gotAt, got := zone.New(m.apex, m.list)
		if gotAt != at || got != code || (z == nil) != (code != api.OK) {
			t.Fatalf("P5.1 New(%q, %s) = %d, %d; wanted %d, %d", m.apex, toldAll(m.list), gotAt, got, at, code)
		}
		count.codes[int(code)]++
		if z != nil {
			asks(t, c, m, z, count)
		}
	}
	count.enough(t)
}

// asks holds a zone against the model.
func asks(t *testing.T, c chance, m model, z *zone.Zone, count tally) {
	t.Helper()
	about := name.Show(m.apex) + ": " + toldAll(m.list)
	if got := z.Records(); !slices.Equal(got, m.records()) {
		t.Fatalf("P5.2 %s: Records() = %s", about, toldAll(got))
	}
	if got := z.Names(); !slices.Equal(got, m.names()) {
		t.Fatalf("P5.2 %s: Names() = %q; wanted %q", about, got, m.names())
	}
	if z.Apex() != m.apex || z.Serial() != 2 {
		t.Fatalf("P5.2 %s: Apex() = %q, Serial() = %d", about, z.Apex(), z.Serial())
	}
	types := []int{api.A, api.AAAA, api.NS, api.DS, api.CNAME, api.DNAME, api.TXT, api.NSEC3, api.RRSIG, api.ANY, api.MX, 0, 700}
	for range 12 {
		q, typ := c.name(), types[c.Intn(len(types))]
		if got := z.Set(q, typ); !slices.Equal(got, m.set(q, typ)) {
			t.Fatalf("P5.2 %s: Set(%q, %d) = %s", about, q, typ, toldAll(got))
		}
		want := m.find(q, typ)
		if got := z.Find(q, typ); !sameFound(got, want) {
			t.Fatalf("P5.3 %s: Find(%q, %d) = %+v; wanted %+v", about, q, typ, got, want)
		}
		count.kinds[want.Kind]++
		if want.Wild {
			count.wilds[want.Kind]++
		}
	}
	findings := m.lint()
	if got := z.Lint(); !slices.Equal(got, findings) {
		t.Fatalf("P5.4 %s: Lint() = %+v; wanted %+v", about, got, findings)
	}
	for _, f := range findings {
		count.findings[f.Code]++
	}
}
