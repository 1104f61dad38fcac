package trust_test

import (
	"math/rand"
	"slices"
	"strconv"
	"strings"
	"testing"

	"gazetteer/api"
	"gazetteer/data"
	"gazetteer/name"
	"gazetteer/proof"
	"gazetteer/seal"
	"gazetteer/trust"
)

// A second reckoning of Walk, Judge and Absent, held against the package by
// bags of chance. It goes through the whole bag for each thing that is asked,
// and takes names and data as they are written.

type model struct {
	anchors []api.Anchor
	bag     []api.Record
	now     int
}

func small(wire string) string { return strings.ToLower(name.Show(wire)) }

// isUnder: is one written name another, or below it? (No label here has a dot.)
func isUnder(a, b string) bool { return b == "." || a == b || strings.HasSuffix(a, "."+b) }

func modelFold(r api.Record) string {
	text, _ := data.Show(r.Type, r.Data)
	if r.Type == api.DNSKEY || r.Type == api.RRSIG {
		return text // in base 64 letters count
	}
	return strings.ToLower(text)
}

func isModelSet(set []api.Record) bool {
	for i, r := range set {
		if name.Check(r.Owner) != api.OK || r.Class != 1 || r.TTL < 0 || r.TTL > 2147483647 || data.Check(r.Type, r.Data) != api.OK {
			return false
		}
		if r.Type == 46 || r.Type != set[0].Type || small(r.Owner) != small(set[0].Owner) {
			return false
		}
		for _, other := range set[:i] {
			if modelFold(r) == modelFold(other) {
				return false
			}
		}
	}
	return len(set) > 0
}

func (m model) set(n string, t int) ([]api.Record, bool) {
	var list []api.Record
	for _, r := range m.bag {
		if r.Type != t || small(r.Owner) != small(n) {
			continue
		}
		if !slices.ContainsFunc(list, func(other api.Record) bool { return modelFold(other) == modelFold(r) }) {
			list = append(list, r)
		}
	}
	return list, isModelSet(list)
}

func (m model) signed(set []api.Record, zone string, keys []string) bool {
	for _, r := range m.bag {
		if r.Type != 46 || len(r.Owner) != len(set[0].Owner) {
			continue // for speed: the owners have to be equal
		}
		for _, d := range keys {
			if seal.Verify(set, r, zone, d, m.now) == api.OK {
				return true
			}
		}
	}
	return false
}

// modelProof: what an NSEC or NSEC3 tells, if it may be used: whether it stands
// at a name, and its types.
func modelProof(zone string, r api.Record) (stands func(n string) bool, types []string) {
	if !isModelSet([]api.Record{r}) || !isUnder(small(r.Owner), small(zone)) {
		return nil, nil
	}
	text, _ := data.Show(r.Type, r.Data)
	words := strings.Fields(text)
	if r.Type == 47 {
		if !isUnder(strings.ToLower(words[0]), small(zone)) {
			return nil, nil
		}
		return func(n string) bool { return small(n) == small(r.Owner) }, words[1:]
	}
	rounds := number(words[2])
	label := name.Labels(r.Owner)[0]
	if r.Type != 50 || words[0] != "1" || words[1] != "0" || rounds > 50 || len(words[4]) != 16 || len(label) != 16 {
		return nil, nil
	}
	if _, ok := data.From32(label); !ok || name.Count(r.Owner) != name.Count(zone)+1 {
		return nil, nil
	}
	return func(n string) bool {
		hash, _ := seal.Hash(n, r.Data[5:5+int(r.Data[4])], rounds)
		return data.To32(hash) == strings.ToLower(label)
	}, words[5:]
}

func (m model) proved(zone string, keys []string) []api.Record {
	var list []api.Record
	for _, r := range m.bag {
		if r.Type != 47 && r.Type != 50 {
			continue
		}
		if stands, _ := modelProof(zone, r); stands != nil && m.signed([]api.Record{r}, zone, keys) {
			list = append(list, r)
		}
	}
	return list
}

// keysBy: the keys of a zone, if one of which a digest is known has signed them.
func (m model) keysBy(zone string, digests []string) []string {
	set, ok := m.set(zone, 48)
	if !ok {
		return nil
	}
	var keys []string
	found := false
	for _, r := range set {
		keys = append(keys, r.Data)
		for _, digest := range digests {
			ds, e := seal.Ds(zone, r.Data)
			found = found || e == api.OK && ds == digest && m.signed(set, zone, []string{r.Data})
		}
	}
	if !found {
		return nil
	}
	return keys
}

func (m model) walk(n string, t int) api.Trust {
	if name.Check(n) != api.OK || t < 1 || t > 65535 || m.now < 0 || m.now > 4294967295 {
		return api.Trust{Status: 3}
	}
	// The names from the root on down to n, and which of them is the last that
	// is asked.
	way := []string{n}
	for way[0] != api.Root {
		way = append([]string{name.Parent(way[0])}, way...)
	}
	if t == 43 {
		way = way[:len(way)-1]
	}
	at := -1
	var digests []string
	for i, c := range way {
		var list []string
		for _, a := range m.anchors {
			if name.Check(a.Zone) == api.OK && small(a.Zone) == small(c) {
				list = append(list, a.Ds)
			}
		}
		if list != nil {
			at, digests = i, list
		}
	}
	if at < 0 {
		return api.Trust{Status: 0}
	}
	zone := way[at]
	keys := m.keysBy(zone, digests)
	if keys == nil {
		return api.Trust{Status: 3}
	}
	for _, c := range way[at+1:] {
		if set, ok := m.set(c, 43); ok && m.signed(set, zone, keys) {
			var told []string
			for _, r := range set {
				told = append(told, r.Data)
			}
			if zone, keys = c, m.keysBy(c, told); keys == nil {
				return api.Trust{Status: 3}
			}
			continue
		}
		for _, r := range m.proved(zone, keys) {
			stands, types := modelProof(zone, r)
			if stands(c) && slices.Contains(types, "NS") && !slices.Contains(types, "SOA") && !slices.Contains(types, "DS") {
				return api.Trust{Status: 2}
			}
		}
	}
	return api.Trust{Status: 1, Zone: zone, Keys: keys}
}

// judge answers, too, by how many labels the signature fell short that held.
func (m model) judge(set []api.Record) (int, int) {
	if !isModelSet(set) {
		return 3, 0
	}
	owner := set[0].Owner
	w := m.walk(owner, set[0].Type)
	if w.Status != 1 {
		return w.Status, 0
	}
	labels := name.Labels(owner)
	has := len(labels)
	if has > 0 && labels[0] == "*" {
		has--
	}
	for _, r := range m.bag {
		if r.Type != 46 || len(r.Data) < 4 {
			continue
		}
		for _, d := range w.Keys {
			if seal.Verify(set, r, w.Zone, d, m.now) != api.OK {
				continue
			}
			told := int(r.Data[3])
			next, _ := name.Join(labels[len(labels)-min(len(labels), told+1):])
			if told == has || proof.Absent(w.Zone, m.proved(w.Zone, w.Keys), next) {
				return 1, has - told
			}
		}
	}
	return 3, 0
}

func (m model) absent(n string, t int) (int, int) {
	w := m.walk(n, t)
	if w.Status != 1 {
		return w.Status, 0
	}
	says := proof.Judge(w.Zone, m.proved(w.Zone, w.Keys), n, t)
	if says == 0 {
		return 3, 0
	}
	return 1, says
}

type dice struct{ *rand.Rand }

func (d dice) oneOf(texts ...string) string { return texts[d.Intn(len(texts))] }

func (d dice) rare(of int) bool { return d.Intn(of) == 0 }

// zones: those that may be signed, in bags of chance; the keys of each are two
// numbers from twice its place on.
func zones() []string { return []string{".", "ex.", "a.ex.", "c.b.a.ex.", "*.ex."} }

// name: one in or near the zones.
func (d dice) name() string {
	return d.oneOf(".", "ex.", "a.ex.", "b.a.ex.", "c.b.a.ex.", "d.c.b.a.ex.", "x.a.ex.", "y.x.a.ex.", "*.ex.", "*.a.ex.", "x.ex.", "b.*.ex.", "org.", "*.", "x.org.", "z.c.b.a.ex.", "*.x.a.ex.")
}

// sign: a signature of a set of an owner, most often by a key of the zone.
func (d dice) sign(zone int, owner string) string {
	at := zone
	if d.rare(25) {
		at = d.Intn(len(zones()))
	}
	if !isUnder(owner, zones()[at]) {
		return ""
	}
	k := 2*zone + 1 + d.Intn(2)
	if d.rare(25) {
		k = 1 + d.Intn(10)
	}
	text := " / " + zones()[at] + " " + strconv.Itoa(k)
	if d.rare(30) {
		text += d.oneOf(" @100-149", " @151-200", " @150-150")
	}
	count, least := name.Count(n(owner)), name.Count(n(zones()[at]))
	if d.rare(6) && count > least {
		text += " ~" + strconv.Itoa(least+d.Intn(count-least))
	}
	return text
}

func (d dice) types() string {
	var types []string
	for _, word := range []string{"NS", "NS", "SOA", "DS", "TXT", "A"} {
		if d.rare(3) {
			types = append(types, word)
		}
	}
	return strings.Join(types, " ")
}

// lines: what is right in most of them.
func (d dice) lines() []string {
	var lines []string
	for i, zone := range zones() {
		if i > 1 && d.rare(3) {
			continue
		}
		keys := strconv.Itoa(2*i+1) + " " + strconv.Itoa(2*i+2)
		entry := strconv.Itoa(2*i + 1)
		if !d.rare(20) {
			lines = append(lines, zone+" keys "+keys+" / "+zone+" "+entry)
		}
		if d.rare(20) {
			lines = append(lines, zone+" keys "+keys+d.sign(i, zone))
		}
		above := []int{0, 0, 1, 2, 1}[i]
		if i > 0 && !d.rare(5) {
			lines = append(lines, zone+" ds "+d.oneOf(entry, entry, entry, keys, "11")+d.sign(above, zone))
		}
		if i > 0 && d.rare(2) {
			up := zones()[above]
			lines = append(lines, d.oneOf(
				zone+" NSEC "+up+" "+d.oneOf("NS", d.types())+d.sign(above, zone),
				zone+" at "+up+" "+d.oneOf("NS", d.types())+d.sign(above, up)))
		}
		for range d.Intn(4) {
			lines = append(lines, d.more(i))
		}
		if d.rare(3) {
			lines = append(lines, d.star(i)...)
		}
	}
	return lines
}

// more: a line that a zone may have said.
func (d dice) more(zone int) string {
	owner := d.name()
	for range 3 {
		if !isUnder(owner, zones()[zone]) {
			owner = d.name()
		}
	}
	switch d.Intn(6) {
	case 0:
		return owner + " A 10.0.0." + d.oneOf("1", "2", "1,10.0.0.2") + d.sign(zone, owner)
	case 1:
		return owner + " NSEC " + d.oneOf(zones()[zone], d.name()) + " " + d.types() + d.sign(zone, owner)
	case 2:
		// A hash's owner is one label and the zone: it is no star's.
		sig := d.sign(zone, zones()[zone])
		return owner + d.oneOf(" at ", " over ") + zones()[zone] + " " + d.types() + sig
	}
	return owner + " TXT " + d.oneOf("a", "b") + d.sign(zone, owner)
}

// star: a zone's star stands for a name, as a proof shows, most often.
func (d dice) star(zone int) []string {
	apex := strings.TrimPrefix(zones()[zone], ".")
	owner := d.oneOf("x.", "y.x.", "z.y.x.", "*.x.", "b.x.") + apex
	labels := strconv.Itoa(name.Count(n(zones()[zone])) + d.Intn(2))
	lines := []string{owner + " TXT a" + " / " + zones()[zone] + " " + strconv.Itoa(2*zone+2) + " ~" + labels}
	switch d.Intn(4) {
	case 0:
		return append(lines, zones()[zone]+" NSEC "+zones()[zone]+" TXT"+d.sign(zone, zones()[zone]))
	case 1:
		return append(lines, "*."+apex+" NSEC "+d.oneOf("z.", "y.x.", "x.")+apex+" TXT"+d.sign(zone, "*."+apex))
	case 2:
		return append(lines, d.oneOf("x.", "y.x.")+apex+" over "+zones()[zone]+" TXT"+d.sign(zone, zones()[zone]))
	}
	return lines
}

// spoil changes a record a little.
func (d dice) spoil(r *api.Record) {
	switch d.Intn(6) {
	case 0:
		r.Class = d.Intn(3)
	case 1:
		r.TTL = []int{-1, 0, 7, api.MaxTTL, api.MaxTTL + 1}[d.Intn(5)]
	case 2:
		r.Owner = strings.ToUpper(r.Owner)
	case 3:
		r.Owner = d.oneOf(n(d.name()), r.Owner[:len(r.Owner)-1])
	default:
		b := []byte(r.Data)
		b[d.Intn(len(b))] ^= byte(1 << d.Intn(8))
		r.Data = string(b)
	}
}

func (d dice) bag() []api.Record {
	list := bag(d.lines()...)
	if d.rare(3) {
		again := list[d.Intn(len(list))]
		d.spoil(&again)
		list = slices.Insert(list, d.Intn(len(list)+1), again)
	}
	if d.rare(3) {
		at := d.Intn(len(list))
		list = append(list, list[at])
		if d.rare(2) {
			d.spoil(&list[at])
		}
	}
	if d.rare(3) {
		d.Shuffle(len(list), func(i, j int) { list[i], list[j] = list[j], list[i] })
	}
	return list
}

func (d dice) anchors() []api.Anchor {
	list := anchors(d.oneOf(". 1", ". 1", ". 1", "ex. 3", ". 1 a.ex. 5", "ex. 3 . 2", ". 9 . 1", "org. 1", ""))
	if d.rare(10) {
		list = append(list, api.Anchor{Zone: n(d.oneOf(zones()...)), Ds: ds(".", 1)})
	}
	if d.rare(10) && len(list) > 0 {
		list[0].Zone = strings.ToUpper(list[0].Zone)
	}
	return list
}

func TestModel(t *testing.T) {
	t.Parallel()
	d := dice{rand.New(rand.NewSource(13))}
	tally := map[string]int{}
	for range 1500 {
		m := model{d.anchors(), d.bag(), 150}
		if d.rare(40) {
			m.now = []int{-1, 99, 100, 149, 151, 200, 201, api.MaxTime + 1}[d.Intn(8)]
		}
		for range 4 {
			q, typ := n(d.name()), []int{api.A, api.TXT, api.DS, api.DNSKEY, api.NS, api.ANY, 0}[d.Intn(7)]
			if d.rare(8) {
				q = strings.ToUpper(q)
			}
			got, want := trust.Walk(m.anchors, m.bag, q, typ, m.now), m.walk(q, typ)
			if got.Status != want.Status || got.Zone != want.Zone || !slices.Equal(got.Keys, want.Keys) {
				t.Fatalf("P13.1 Walk(%q, %d) at %d = %s; wanted %s\nanchors %+v\nof %s", q, typ, m.now, tellTrust(got), tellTrust(want), m.anchors, tell(m.bag))
			}
			tally["walk "+tellStatus(got.Status)+" "+small(got.Zone)]++
			status, says := trust.Absent(m.anchors, m.bag, q, typ, m.now)
			if s, p := m.absent(q, typ); s != status || p != says {
				t.Fatalf("P13.3 Absent(%q, %d) at %d = %d, %d; wanted %d, %d\nanchors %+v\nof %s", q, typ, m.now, status, says, s, p, m.anchors, tell(m.bag))
			}
			tally["absent "+tellStatus(status)+" "+tellProof(says)]++
			d.judgeOne(t, m, tally)
		}
	}
	for _, least := range []struct {
		what  string
		count int
	}{
		{"walk none ", 300}, {"walk bogus ", 500}, {"walk insecure ", 100},
		{"walk secure .", 300}, {"walk secure ex.", 300}, {"walk secure a.ex.", 200}, {"walk secure c.b.a.ex.", 30}, {"walk secure *.ex.", 50},
		{"absent none nothing", 300}, {"absent bogus nothing", 500}, {"absent insecure nothing", 100}, {"absent secure no name", 50}, {"absent secure no data", 100},
		{"judge none 0", 100}, {"judge bogus 0", 300}, {"judge insecure 0", 100}, {"judge secure 0", 1000}, {"judge secure 1", 20}, {"judge secure 2", 20},
	} {
		if tally[least.what] < least.count {
			t.Errorf("too few of %s: %d", least.what, tally[least.what])
		}
	}
	if t.Failed() {
		t.Log(tally)
	}
}

// judgeOne: of a set in the bag, or one that is nearly there.
func (d dice) judgeOne(t *testing.T, m model, tally map[string]int) {
	t.Helper()
	r := m.bag[d.Intn(len(m.bag))]
	for range 3 {
		if r.Type == api.RRSIG {
			r = m.bag[d.Intn(len(m.bag))]
		}
	}
	list, _ := m.set(r.Owner, r.Type)
	if d.rare(20) && len(list) > 0 {
		list = slices.Clone(list)
		d.spoil(&list[0])
	}
	want, short := m.judge(list)
	if got := trust.Judge(m.anchors, m.bag, list, m.now); got != want {
		t.Fatalf("P13.2 Judge(%s) at %d = %d; wanted %d\nanchors %+v\nof %s", tell(list), m.now, got, want, m.anchors, tell(m.bag))
	}
	tally["judge "+tellStatus(want)+" "+strconv.Itoa(short)]++
}
