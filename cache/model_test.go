package cache_test

import (
	"math/rand"
	"slices"
	"strconv"
	"strings"
	"testing"

	"gazetteer/api"
	"gazetteer/cache"
	"gazetteer/data"
	"gazetteer/name"
	"gazetteer/proof"
)

// A second reckoning of a cache, held against the package by calls of chance.
// It has one list, in the order in which entries came, and goes through it.

type remembered struct {
	what    string // "set", "lack", "void", "proof"
	name    string // as it is written, in small letters
	typ     int
	apex    string
	end     int
	age     int
	rank    int
	records []api.Record
}

type model struct {
	most int
	list []remembered
}

func small(wire string) string { return strings.ToLower(name.Show(wire)) }

// isUnder: is one written name another, or below it? (No label here has a dot.)
func isUnder(a, b string) bool { return b == "." || a == b || strings.HasSuffix(a, "."+b) }

func (m *model) drop(goes func(e remembered) bool) { m.list = slices.DeleteFunc(m.list, goes) }

// come: an entry comes, and all that it takes away goes.
func (m *model) come(e remembered, now int, goes func(e remembered) bool) {
	m.drop(goes)
	if e.age == 0 {
		return
	}
	e.end = now + e.age
	m.list = append(m.list, e)
	if len(m.list) > m.most {
		m.drop(func(e remembered) bool { return e.end <= now })
	}
	for len(m.list) > m.most {
		least := 0
		for i := range m.list {
			if m.list[i].end < m.list[least].end {
				least = i
			}
		}
		m.list = slices.Delete(m.list, least, least+1)
	}
}

// isModelSet: of the sets that chance makes, which is none?
func isModelSet(set []api.Record) bool {
	for i, r := range set {
		if name.Check(r.Owner) != api.OK || r.Class != 1 || r.TTL < 0 || r.TTL > 2147483647 || data.Check(r.Type, r.Data) != api.OK {
			return false
		}
		if r.Type != set[0].Type || small(r.Owner) != small(set[0].Owner) {
			return false
		}
		for _, other := range set[:i] {
			if data.Fold(r.Type, r.Data) == data.Fold(r.Type, other.Data) {
				return false
			}
		}
	}
	return len(set) > 0
}

func (m *model) put(set []api.Record, rank, now int) api.Errno {
	if rank < 1 || rank > 4 || now < 0 || now > 4294967295 {
		return api.ErrArg
	}
	if !isModelSet(set) {
		return api.ErrForm
	}
	owner, t, age := small(set[0].Owner), set[0].Type, 604800
	for _, r := range set {
		age = min(age, r.TTL)
	}
	for _, e := range m.list {
		if e.what == "set" && e.name == owner && e.typ == t && e.end > now && e.rank > rank {
			return api.ErrOld
		}
	}
	m.come(remembered{what: "set", name: owner, typ: t, age: age, rank: rank, records: slices.Clone(set)}, now, func(e remembered) bool {
		here := (e.what == "set" || e.what == "lack") && e.name == owner && e.typ == t
		return here || e.what == "void" && isUnder(owner, e.name)
	})
	return api.OK
}

func (m *model) deny(wire string, t int, soa api.Record, now int) api.Errno {
	switch {
	case now < 0 || now > 4294967295:
		return api.ErrArg
	case name.Check(wire) != api.OK:
		return api.ErrName
	case t < 0 || t > 65535:
		return api.ErrType
	case soa.Type != 6 || !isModelSet([]api.Record{soa}) || !isUnder(small(wire), small(soa.Owner)):
		return api.ErrSoa
	}
	words, _ := data.Show(soa.Type, soa.Data)
	minimum, _ := strconv.Atoi(strings.Fields(words)[6])
	age, owner := min(soa.TTL, minimum, 10800), small(wire)
	if age == 0 {
		return api.OK
	}
	if t > 0 {
		m.come(remembered{what: "lack", name: owner, typ: t, age: age}, now, func(e remembered) bool {
			return (e.what == "set" || e.what == "lack") && e.name == owner && e.typ == t
		})
		return api.OK
	}
	m.come(remembered{what: "void", name: owner, age: age}, now, func(e remembered) bool {
		return (e.what == "set" || e.what == "lack") && isUnder(e.name, owner) || e.what == "void" && e.name == owner
	})
	return api.OK
}

func (m *model) prove(apex string, proofs []api.Record, now int) api.Errno {
	if now < 0 || now > 4294967295 {
		return api.ErrArg
	}
	if name.Check(apex) != api.OK {
		return api.ErrName
	}
	for _, r := range proofs {
		if r.Type != 47 || !isModelSet([]api.Record{r}) || !isUnder(small(r.Owner), small(apex)) {
			continue
		}
		words, _ := data.Show(r.Type, r.Data)
		if !isUnder(strings.ToLower(strings.Fields(words)[0]), small(apex)) {
			continue
		}
		one := remembered{what: "proof", name: small(r.Owner), apex: small(apex), age: min(r.TTL, 10800), records: []api.Record{r}}
		m.come(one, now, func(e remembered) bool { return e.what == "proof" && e.name == one.name && e.apex == one.apex })
	}
	return api.OK
}

func (m *model) look(wire string, t, now int) api.Known {
	if name.Check(wire) != api.OK || t < 1 || t > 65535 || now < 0 || now > 4294967295 {
		return api.Known{}
	}
	owner := small(wire)
	find := func(is func(e remembered) bool) (remembered, bool) {
		at := slices.IndexFunc(m.list, func(e remembered) bool { return e.end > now && is(e) })
		if at < 0 {
			return remembered{}, false
		}
		return m.list[at], true
	}
	for i, typ := range []int{t, 5} {
		e, ok := find(func(e remembered) bool { return e.what == "set" && e.name == owner && e.typ == typ })
		if !ok {
			continue
		}
		known := api.Known{Kind: api.KnowSet + i, Rank: e.rank}
		for _, r := range e.records {
			r.TTL = min(e.age, e.end-now)
			known.Records = append(known.Records, r)
		}
		return known
	}
	if _, ok := find(func(e remembered) bool { return e.what == "lack" && e.name == owner && e.typ == t }); ok {
		return api.Known{Kind: api.KnowNoData}
	}
	if _, ok := find(func(e remembered) bool { return e.what == "void" && isUnder(owner, e.name) }); ok {
		return api.Known{Kind: api.KnowNoName}
	}
	apex := ""
	for _, e := range m.list {
		if e.what == "proof" && e.end > now && isUnder(owner, e.apex) && len(e.apex) > len(apex) {
			apex = e.apex
		}
	}
	var proofs []api.Record
	for _, e := range m.list {
		if e.what == "proof" && e.end > now && e.apex == apex {
			proofs = append(proofs, e.records...)
		}
	}
	if len(proofs) == 0 {
		return api.Known{}
	}
	return api.Known{Kind: []int{api.KnowNothing, api.KnowNoName, api.KnowNoData}[proof.Judge(n(apex), proofs, wire, t)]}
}

func (m *model) size(now int) int {
	count := 0
	for _, e := range m.list {
		if e.end > now {
			count++
		}
	}
	return count
}

type dice struct{ *rand.Rand }

func (d dice) oneOf(words ...string) string { return words[d.Intn(len(words))] }

func (d dice) number(numbers ...int) int { return numbers[d.Intn(len(numbers))] }

// letters writes a name with some great letters.
func (d dice) letters(text string) string {
	b := []byte(text)
	for i, c := range b {
		if 'a' <= c && c <= 'z' && d.Intn(4) == 0 {
			b[i] = c - 32
		}
	}
	return string(b)
}

func names() []string {
	return []string{".", "ex.", "a.ex.", "b.ex.", "b.a.ex.", "c.a.ex.", "c.b.a.ex.", "*.ex.", "ba.ex.", "org.", "a.org."}
}

func (d dice) name() string { return n(d.letters(d.oneOf(names()...))) }

func (d dice) age() int {
	if d.Intn(12) == 0 {
		return d.number(0, 0, 10799, 10800, 10801, 604799, 604800, 604801, 700000, api.MaxTTL)
	}
	return 1 + d.Intn(40)
}

// set makes one of a name and a type, that is right but for one of many.
func (d dice) set() []api.Record {
	owner, line := d.name(), d.oneOf("A 10.0.0.", "A 10.0.0.", "MX 1 h", "CNAME h", "NS h", "TXT x")
	var set []api.Record
	for i := range 1 + d.Intn(3) {
		r := list("x " + strconv.Itoa(d.age()) + " " + line + strconv.Itoa(i))[0]
		r.Owner = n(d.letters(name.Show(owner)))
		set = append(set, r)
	}
	if d.Intn(20) == 0 {
		d.spoil(&set[d.Intn(len(set))])
	}
	return set
}

func (d dice) spoil(r *api.Record) {
	switch d.Intn(6) {
	case 0:
		r.Owner = d.oneOf("", "ex.", n("org."))
	case 1:
		r.Class = d.number(0, 3, 255)
	case 2:
		r.TTL = d.number(-1, api.MaxTTL+1)
	case 3:
		r.Data += "\x00"
	case 4:
		r.Type = d.number(0, 1, 700)
	default:
		r.Data = ""
	}
}

func (d dice) nsec() api.Record {
	line := d.letters(d.oneOf(names()...)) + " " + strconv.Itoa(d.age()) + " NSEC " + d.letters(d.oneOf(names()...)) + " " + d.oneOf("", "A", "A MX", "NS", "NS SOA", "CNAME", "DNAME")
	r := list(line)[0]
	if d.Intn(20) == 0 {
		d.spoil(&r)
	}
	return r
}

// step makes one call of both, and tells whether they said the same.
func (d dice) step(t *testing.T, c *cache.Cache, m *model, now int, counts map[string]int) {
	t.Helper()
	if d.Intn(40) == 0 {
		now = d.number(-1, api.MaxTime+1)
	}
	var got, want api.Errno
	what := d.oneOf("put", "put", "put", "deny", "void", "prove")
	switch what {
	case "put":
		set, rank := d.set(), 1+d.Intn(4)
		if d.Intn(30) == 0 {
			rank = d.number(0, 5)
		}
		got, want = c.Put(set, rank, now), m.put(set, rank, now)
	case "prove":
		apex := n(d.letters(d.oneOf("ex.", "ex.", "a.ex.", ".", "org.")))
		if d.Intn(30) == 0 {
			apex = ""
		}
		var proofs []api.Record
		for range d.Intn(4) {
			proofs = append(proofs, d.nsec())
		}
		got, want = c.Prove(apex, proofs, now), m.prove(apex, proofs, now)
	default:
		owner, typ, soa := d.name(), 0, soaOf(d.letters(d.oneOf(".", ".", "ex.", "a.ex.")), d.age(), d.age())
		if what == "deny" {
			typ = d.number(1, 1, 2, 5, 15, 16, 65535)
		}
		switch d.Intn(60) {
		case 0:
			owner = "ex."
		case 1:
			typ = d.number(-1, 65536)
		case 2, 3:
			d.spoil(&soa)
		}
		got, want = c.Deny(owner, typ, soa, now), m.deny(owner, typ, soa, now)
	}
	counts[what+" "+said(want)]++
	if got != want {
		t.Fatalf("%s at %d: %s; wanted %s", what, now, said(got), said(want))
	}
}

// compare holds all that is known at a time against the model.
func (d dice) compare(t *testing.T, c *cache.Cache, m *model, now int, counts map[string]int) {
	t.Helper()
	if got, want := c.Size(now), m.size(now); got != want {
		t.Fatalf("P12.6: size at %d: %d; wanted %d", now, got, want)
	}
	for _, text := range append(names(), "x.ex.", "x.a.ex.") {
		owner := n(d.letters(text))
		typ := d.number(1, 1, 2, 5, 15, 16, 255, 65535)
		got, want := c.Look(owner, typ, now), m.look(owner, typ, now)
		if got.Kind != want.Kind || got.Rank != want.Rank || !slices.Equal(got.Records, want.Records) {
			t.Fatalf("P12.5: %s %d at %d: %s; wanted %s", text, typ, now, tellKnown(got), tellKnown(want))
		}
		counts[strings.TrimRight(strings.SplitN(tellKnown(want), ":", 2)[0], " 1234")]++
	}
}

func TestModel(t *testing.T) {
	t.Parallel()
	d := dice{rand.New(rand.NewSource(12))}
	counts := map[string]int{}
	for range 300 {
		most := d.number(1, 2, 3, 5, 8, 13, 40, 5000)
		c, m := newCache(most), &model{most: most}
		now := d.number(0, 100, 100000, api.MaxTime-50)
		for range 60 {
			if d.Intn(3) > 0 {
				now = min(max(now+d.Intn(12)-2, 0), api.MaxTime)
			}
			full := len(m.list) == most
			ended := len(m.list) > m.size(now)
			d.step(t, c, m, now, counts)
			d.compare(t, c, m, now, counts)
			d.compare(t, c, m, max(0, min(now+d.Intn(50)-25, api.MaxTime)), counts)
			if full {
				counts["full"]++
			}
			if ended {
				counts["ended"]++
			}
		}
	}
	for _, what := range []string{"put ok", "put ErrOld", "put ErrForm", "put ErrArg", "deny ok", "deny ErrSoa", "deny ErrArg", "deny ErrName", "deny ErrType",
		"void ok", "void ErrSoa", "void ErrArg", "void ErrName", "prove ok", "prove ErrArg", "prove ErrName", "nothing", "set", "alias", "no data", "no name", "full", "ended"} {
		if counts[what] < 10 {
			t.Errorf("too few: %s came up %d times", what, counts[what])
		}
	}
}
