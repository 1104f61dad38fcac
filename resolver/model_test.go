package resolver_test

import (
	"fmt"
	"math/rand"
	"slices"
	"strings"
	"testing"

	"gazetteer/api"
	"gazetteer/auth"
	"gazetteer/data"
	"gazetteer/name"
	"gazetteer/resolver"
	"gazetteer/zone"
)

// What Resolve answers, held against what a server that had all zones would say.

// truth gives what that server says; false if P14.3 doesn't speak of it.
func truth(w *world, q string, t int) (api.Message, bool) {
	m := api.Message{Questions: []api.Question{{Name: q, Type: t, Class: api.IN}}}
	a, ok := auth.Answer(w.zones, m)
	isNs := func(r api.Record) bool { return r.Type == api.NS }
	return a, ok && len(packed(a)) <= 65535-11 && !slices.ContainsFunc(a.Authority, isNs)
}

// gone gives the zones that are gone through for a question, for each name
// again from the root on.
func gone(w *world, q string, t int) []*zone.Zone {
	var list []*zone.Zone
	var before []string
	for len(before) < 9 && !slices.Contains(before, name.Fold(q)) {
		before = append(before, name.Fold(q))
		z := auth.Has(w.zones, q, t)
		for _, o := range w.zones {
			if name.Within(z.Apex(), o.Apex()) {
				list = append(list, o)
			}
		}
		f := z.Find(q, t)
		switch f.Kind {
		case api.FoundAlias:
			q = f.Records[0].Data
		case api.FoundGraft:
			to, e := name.Graft(q, f.Owner, f.Records[0].Data)
			if e != api.OK {
				return list
			}
			q = to
		default:
			return list
		}
	}
	return list
}

// isHonest holds a world against the words of P14.3.
func isHonest(w *world, roots []string) bool {
	if !slices.ContainsFunc(w.zones, func(z *zone.Zone) bool { return z.Apex() == api.Root }) {
		return false
	}
	has := func(address string, z *zone.Zone) bool { return slices.Contains(w.servers[address], z) }
	for i, z := range w.zones {
		if slices.ContainsFunc(w.zones[:i], func(o *zone.Zone) bool { return name.Equal(o.Apex(), z.Apex()) }) {
			return false
		}
		if z.Apex() == api.Root {
			if slices.ContainsFunc(roots, func(root string) bool { return !has(root, z) }) {
				return false
			}
			continue
		}
		parent := auth.Has(w.zones, name.Parent(z.Apex()), api.A)
		if !isDelegated(w, parent, z) {
			return false
		}
		for _, ns := range z.Set(z.Apex(), api.NS) {
			addresses := parent.Set(ns.Data, api.A)
			own := auth.Has(w.zones, ns.Data, api.A).Set(ns.Data, api.A)
			same := func(a, b api.Record) bool { return a.Data == b.Data }
			if !name.Within(ns.Data, parent.Apex()) || len(addresses) == 0 || !slices.EqualFunc(addresses, own, same) {
				return false
			}
			if slices.ContainsFunc(addresses, func(a api.Record) bool { return !has(a.Data, z) }) {
				return false
			}
		}
	}
	return true
}

// isDelegated: does the zone above name the zone's servers, and none at another
// name above the zone, but at those of zones?
func isDelegated(w *world, parent, z *zone.Zone) bool {
	same := func(a, b api.Record) bool { return name.Equal(a.Data, b.Data) }
	if !slices.EqualFunc(parent.Set(z.Apex(), api.NS), z.Set(z.Apex(), api.NS), same) {
		return false
	}
	for n := name.Parent(z.Apex()); name.Count(n) > name.Count(parent.Apex()); n = name.Parent(n) {
		if len(parent.Set(n, api.NS)) > 0 {
			return false
		}
	}
	return true
}

// watch: when a record was last told by a server.
type watch map[data.Sense]int

// note takes down what a server tells at a time.
func (w watch) note(records []api.Record, now int) {
	for _, r := range records {
		w[data.SenseOf(r)] = now
	}
}

// learned gives the time at which a record of a reply was told at last: of an
// alias that a graft made, that of the graft.
func (w watch) learned(r api.Record, reply []api.Record) (int, bool) {
	for _, d := range reply {
		if to, e := name.Graft(r.Owner, d.Owner, d.Data); d.Type == api.DNAME && r.Type == api.CNAME && e == api.OK && to == r.Data && !name.Equal(r.Owner, d.Owner) {
			r = d
			break
		}
	}
	now, ok := w[data.SenseOf(r)]
	return now, ok
}

// observe lets a net tell a watch what its servers say.
func observe(w *net, seen watch, now *int) {
	w.instead = func(to string, m api.Message) ([]api.Datagram, bool) {
		zones, ok := w.servers[to]
		if !ok {
			return nil, true
		}
		a, _ := auth.Answer(zones, m)
		seen.note(a.Answers, *now)
		return nil, false
	}
}

// isFresh: is no record of a reply older than was said?
func isFresh(seen watch, reply, want api.Reply, now int) bool {
	for i, r := range reply.Records {
		at, ok := seen.learned(r, reply.Records)
		if !ok || r.TTL > want.Records[i].TTL-(now-at) {
			return false
		}
	}
	return true
}

// lasts: may all that an answer tells be remembered for some time?
func lasts(a api.Message) bool {
	return !slices.ContainsFunc(slices.Concat(a.Answers, a.Authority), func(r api.Record) bool { return r.TTL == 0 })
}

func showWorld(w *world) string {
	var lines []string
	for _, z := range w.zones {
		lines = append(lines, "zone "+name.Show(z.Apex()))
		for _, r := range z.Records() {
			lines = append(lines, "  "+told(r))
		}
	}
	for address, zones := range w.servers {
		line := fmt.Sprintf("server %v:", []byte(address))
		for _, z := range zones {
			line += " " + name.Show(z.Apex())
		}
		lines = append(lines, line)
	}
	return strings.Join(lines, "\n")
}

// TestHonest: over honest worlds each question is answered right.
func TestHonest(t *testing.T) {
	t.Parallel()
	d := dice{rand.New(rand.NewSource(141))}
	kinds := map[string]int{}
	for range 250 {
		w, roots := d.world()
		if !isHonest(w, roots) {
			t.Fatalf("a world that isn't honest:\n%s", showWorld(w))
		}
		most := pick(d, 1, 2, 3, 10, 100, 5000)
		r, _ := resolver.New(roots, most)
		by, now, seen := netOf(w), 1000, watch{}
		observe(by, seen, &now)
		asked := make([]api.Question, 20)
		for i := range asked {
			asked[i].Name, asked[i].Type = d.question(w)
		}
		for range 80 {
			now += pick(d, 0, 0, 0, 1, 1, 5, 30, 61, 4000)
			question := pick(d, asked...)
			q, typ := d.letters(question.Name), question.Type
			line := fmt.Sprintf("%d %s %s", now, name.Show(q), data.TypeName(typ))
			a, ok := truth(w, q, typ)
			reply := ask(t, r, by, line)
			if !ok {
				kinds["of which nothing is promised"]++
				continue
			}
			want := api.Reply{Rcode: a.Rcode, Records: a.Answers}
			if !isSame(reply, want) || !isFresh(seen, reply, want, now) {
				t.Fatalf("P14.3 %s, %d things: %s\nwanted %s\n%s", line, most, tell(reply), tell(want), showWorld(w))
			}
			if need := len(gone(w, q, typ)); reply.Work > need {
				t.Fatalf("P14.3 %s: Work %d, and %d would do\n%s", line, reply.Work, need, showWorld(w))
			}
			again := ask(t, r, by, line)
			if !isSame(again, want) || most == 5000 && lasts(a) && again.Work > 0 {
				t.Fatalf("P14.2 %s, again: %s by %d\nwanted %s\n%s", line, tell(again), again.Work, tell(want), showWorld(w))
			}
			kinds[fmt.Sprint("code ", a.Rcode, ", some ", len(a.Answers) > 0)]++
			if typ != api.DNAME && slices.ContainsFunc(a.Answers, func(r api.Record) bool { return r.Type == api.DNAME }) {
				kinds["grafts"]++
			}
			if reply.Work == 0 {
				kinds["remembered"]++
			}
		}
	}
	for _, kind := range []string{"code 0, some true", "code 0, some false", "code 3, some true", "code 3, some false", "grafts", "remembered", "of which nothing is promised"} {
		if kinds[kind] < 200 {
			t.Errorf("too few: %s: %d of %v", kind, kinds[kind], kinds)
		}
	}
}

// TestForgers: what doesn't fit changes neither what is told nor what is sent.
func TestForgers(t *testing.T) {
	t.Parallel()
	d := dice{rand.New(rand.NewSource(144))}
	var forgeries []func(string, api.Message) api.Datagram
	for _, make := range misfits() {
		forgeries = append(forgeries, make)
	}
	for range 40 {
		w, roots := d.world()
		silent := pick(d, "", at(2), at(11), at(12))
		delete(w.servers, silent)
		plain, forged := netOf(w), netOf(w)
		forged.ahead = func(to string, m api.Message) []api.Datagram {
			var list []api.Datagram
			if t := m.Questions[0].Type; t != api.A && t != api.TXT && t != api.CNAME && t != api.NS {
				m.Questions[0].Type = api.A // of which a lie can be told, and doesn't fit either
				return []api.Datagram{{From: to, Data: packed(lie(m))}}
			}
			for range d.Intn(4) {
				list = append(list, pick(d, forgeries...)(to, m))
			}
			return list
		}
		r, _ := resolver.New(roots, 50)
		s, _ := resolver.New(roots, 50)
		for now := range 40 {
			q, typ := d.question(w)
			line := fmt.Sprintf("%d %s %s", now*7, name.Show(q), data.TypeName(typ))
			if a, b := ask(t, r, plain, line), ask(t, s, forged, line); tell(a) != tell(b) || a.Work != b.Work {
				t.Fatalf("P14.4 %s: %s, forged %s\n%s", line, tell(a), tell(b), showWorld(w))
			}
		}
		if !slices.Equal(plain.sent, forged.sent) {
			t.Fatalf("P14.4: something else is sent:\n%s", showWorld(w))
		}
	}
}

// lieOf gives whatever the servers of a zone may like to say.
func (d dice) lieOf(w *world, bad *zone.Zone, evil []string, m api.Message) api.Message {
	q := m.Questions[0]
	anyName := func() string {
		z := pick(d, w.zones...)
		n := pick(d, q.Name, q.Name, bad.Apex(), z.Apex(), pick(d, z.Names()...), api.Root, name.Parent(bad.Apex()))
		if d.Intn(4) == 0 && len(n) < 200 {
			n = pick(d, "\x01a", "\x01q", "\x02n1", "\x03www") + n
		}
		return n
	}
	anyRecord := func(types ...int) api.Record {
		r := api.Record{Owner: anyName(), Type: pick(d, types...), Class: api.IN, TTL: pick(d, 0, 60, 1000000, 1<<31)}
		switch r.Type {
		case api.A:
			r.Data = pick(d, evil...)
		case api.NS, api.CNAME, api.DNAME:
			r.Data = anyName()
		case api.SOA:
			r.Data = n("ns.") + n("h.") + strings.Repeat("\x00\x00\x0f\x0f", 5)
		default:
			r.Type, r.Data = api.TXT, "\x03lie"
		}
		return r
	}
	a := api.Message{ID: m.ID, Response: true, AA: d.Intn(2) == 0, TC: d.Intn(20) == 0, Questions: m.Questions, Rcode: pick(d, 0, 0, 0, 3, 3, 6, 2)}
	for range max(0, d.Intn(5)-1) {
		a.Answers = append(a.Answers, anyRecord(q.Type, q.Type, api.A, api.CNAME, api.DNAME, api.TXT, api.NS))
	}
	for range d.Intn(4) {
		a.Authority = append(a.Authority, anyRecord(api.NS, api.NS, api.SOA))
	}
	for _, r := range a.Authority {
		if r.Type == api.NS {
			a.Additional = append(a.Additional, api.Record{Owner: r.Data, Type: api.A, Class: api.IN, TTL: 600, Data: pick(d, evil...)})
		}
	}
	for range d.Intn(3) {
		a.Additional = append(a.Additional, anyRecord(api.A))
	}
	// Addresses of others' servers.
	for _, r := range pick(d, w.zones...).Records() {
		if r.Type == api.NS && d.Intn(2) == 0 {
			a.Additional = append(a.Additional, api.Record{Owner: r.Data, Type: api.A, Class: api.IN, TTL: 600, Data: pick(d, evil...)})
		}
	}
	return a
}

// liarsOf gives the addresses that have a zone; none, if one of them has another
// that isn't within it.
func liarsOf(w *world, bad *zone.Zone) []string {
	var list []string
	for address, zones := range w.servers {
		if !slices.Contains(zones, bad) {
			continue
		}
		if slices.ContainsFunc(zones, func(z *zone.Zone) bool { return !name.Within(z.Apex(), bad.Apex()) }) {
			return nil
		}
		list = append(list, address)
	}
	slices.Sort(list)
	return list
}

// isBeyond: has a question nothing to do with a zone?
func isBeyond(w *world, bad *zone.Zone, q string, t int, a api.Message) bool {
	names := []string{q}
	for _, r := range a.Answers {
		names = append(append(names, r.Owner), data.Names(r.Type, r.Data)...)
	}
	for _, z := range gone(w, q, t) {
		if z.Apex() == api.Root {
			continue // its servers are given
		}
		for _, ns := range z.Set(z.Apex(), api.NS) {
			names = append(names, ns.Data)
		}
	}
	return !slices.ContainsFunc(names, func(n string) bool { return name.Within(n, bad.Apex()) })
}

// TestLiars: the servers of one zone turn nothing that has nothing to do with it.
func TestLiars(t *testing.T) {
	t.Parallel()
	d := dice{rand.New(rand.NewSource(145))}
	worlds, beyond, lied := 0, 0, 0
	for worlds < 200 {
		w, roots := d.world()
		bad := pick(d, w.zones...)
		liars := liarsOf(w, bad)
		if bad.Apex() == api.Root || len(liars) == 0 {
			continue
		}
		worlds++
		by := netOf(w)
		by.instead = func(to string, m api.Message) ([]api.Datagram, bool) {
			if !slices.Contains(liars, to) || d.Intn(10) == 0 {
				return nil, false
			}
			lied++
			return []api.Datagram{{From: to, Data: packed(d.lieOf(w, bad, liars, m))}}, true
		}
		most := pick(d, 1, 3, 20, 5000)
		r, _ := resolver.New(roots, most)
		now := 1000
		for range 80 {
			now += pick(d, 0, 0, 1, 10)
			q, typ := d.question(w)
			if d.Intn(2) == 0 {
				q = pick(d, "\x01a", "\x03www", "\x01q", "") + bad.Apex()
			}
			line := fmt.Sprintf("%d %s %s", now, name.Show(q), data.TypeName(typ))
			a, ok := truth(w, q, typ)
			reply := ask(t, r, by, line)
			if !ok || !isBeyond(w, bad, q, typ, a) {
				continue
			}
			beyond++
			if want := (api.Reply{Rcode: a.Rcode, Records: a.Answers}); !isSame(reply, want) {
				t.Fatalf("P14.5 %s, where %s lies: %s\nwanted %s\n%s", line, name.Show(bad.Apex()), tell(reply), tell(want), showWorld(w))
			}
		}
	}
	if beyond < 2000 || lied < 2000 {
		t.Errorf("too few: %d beyond, %d lies", beyond, lied)
	}
}
