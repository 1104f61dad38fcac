package proof_test

import (
	"math/rand"
	"slices"
	"strconv"
	"strings"
	"testing"

	"gazetteer/api"
	"gazetteer/data"
	"gazetteer/name"
	"gazetteer/proof"
	"gazetteer/seal"
	"gazetteer/zone"
)

// A second reckoning of Judge, Absent and Make, by the words in which data are
// written and by names as rows of labels from the top, held against the package
// by records of chance.

// row gives a name's labels from the top, folded.
func row(n string) []string {
	labels := name.Labels(name.Fold(n))
	slices.Reverse(labels)
	return labels
}

func isWithin(n, zone []string) bool { return len(n) >= len(zone) && slices.Equal(n[:len(zone)], zone) }

// ring: does x come between the two, in a ring?
func ring(low, high, x []string) bool {
	if slices.Compare(low, high) < 0 {
		return slices.Compare(low, x) < 0 && slices.Compare(x, high) < 0
	}
	return slices.Compare(low, x) < 0 || slices.Compare(x, high) < 0
}

// witness: a proof that may be used.
type witness struct {
	place     int
	own, next []string // rows of labels, or a hash alone
	types     []string
	salt      string
	rounds    int
}

func (w witness) cut() bool {
	return slices.Contains(w.types, "NS") && !slices.Contains(w.types, "SOA")
}

func (w witness) away() bool { return w.cut() || slices.Contains(w.types, "DNAME") }

// lacking: no t stands at its name, and it may say so.
func (w witness) lacking(t int) bool {
	if t == api.ANY {
		return len(w.types) == 0
	}
	if w.cut() && t != api.DS {
		return false
	}
	return !slices.Contains(w.types, data.TypeName(t)) && !slices.Contains(w.types, "CNAME")
}

// witnesses of a type that may be used.
func witnesses(typ int, apex string, records []api.Record) []witness {
	var some []witness
	for i, r := range records {
		if r.Type != typ || r.Class != 1 || r.TTL < 0 || r.TTL > 2147483647 || name.Check(r.Owner) != api.OK || !isWithin(row(r.Owner), row(apex)) {
			continue
		}
		text, e := data.Show(r.Type, r.Data)
		if e != api.OK {
			continue
		}
		words := strings.Fields(text)
		w := witness{place: i}
		ok := false
		if typ == api.NSEC {
			ok = w.readNames(apex, r, words)
		} else {
			ok = w.readHashes(apex, r, words)
		}
		if ok {
			some = append(some, w)
		}
	}
	return some
}

func (w *witness) readNames(apex string, r api.Record, words []string) bool {
	next, _, _ := name.Read(words[0], api.Root)
	w.own, w.next, w.types = row(r.Owner), row(next), words[1:]
	return isWithin(w.next, row(apex))
}

func (w *witness) readHashes(apex string, r api.Record, words []string) bool {
	labels := row(r.Owner)
	if len(labels) != len(row(apex))+1 {
		return false
	}
	own, ok := data.From32(labels[len(labels)-1])
	next, _ := data.From32(words[4])
	rounds, _ := strconv.Atoi(words[2])
	w.own, w.next, w.types, w.salt, w.rounds = []string{own}, []string{next}, words[5:], words[3], rounds
	return ok && words[0] == "1" && words[1] == "0" && rounds <= 50 && len(own) == 10 && len(next) == 10
}

// hashed gives a name's hash as they hash.
func (w witness) hashed(n []string) []string {
	labels := slices.Clone(n)
	slices.Reverse(labels)
	wire, e := name.Join(labels)
	if e != api.OK {
		panic("no name is hashed")
	}
	salt := ""
	for i := 0; i+1 < len(w.salt); i += 2 {
		b, _ := strconv.ParseUint(w.salt[i:i+2], 16, 8)
		salt += string([]byte{byte(b)})
	}
	h, _ := seal.Hash(wire, salt, w.rounds)
	return []string{h}
}

func star(n []string) []string { return append(slices.Clone(n), "*") }

func common(a, b []string) []string {
	size := 0
	for size < len(a) && size < len(b) && a[size] == b[size] {
		size++
	}
	return a[:size]
}

func modelJudge(apex string, records []api.Record, q string, t int) int {
	if plain := witnesses(api.NSEC, apex, records); len(plain) > 0 {
		return judgeNames(plain, row(q), t)
	}
	if hashes := likeFirst(witnesses(api.NSEC3, apex, records)); len(hashes) > 0 {
		return judgeHashes(hashes, row(q), len(row(apex)), t)
	}
	return nothing
}

func likeFirst(some []witness) []witness {
	var like []witness
	for _, w := range some {
		if w.salt == some[0].salt && w.rounds == some[0].rounds {
			like = append(like, w)
		}
	}
	return like
}

func denying(w witness, n []string) bool {
	return ring(w.own, w.next, n) && (!w.away() || !isWithin(n, w.own))
}

func judgeNames(all []witness, q []string, t int) int {
	showing := func(n []string) bool {
		return slices.ContainsFunc(all, func(w witness) bool { return slices.Equal(w.own, n) && w.lacking(t) })
	}
	if showing(q) {
		return noData
	}
	for _, w := range all {
		if !denying(w, q) {
			continue
		}
		if isWithin(w.next, q) {
			return noData
		}
		e := common(q, w.own)
		if other := common(q, w.next); len(other) > len(e) {
			e = other
		}
		if showing(star(e)) {
			return noData
		}
		for _, x := range all {
			if denying(x, star(e)) {
				if isWithin(x.next, star(e)) {
					return noData
				}
				return noName
			}
		}
	}
	return nothing
}

func judgeHashes(all []witness, q []string, least, t int) int {
	first := func(does func(witness) bool) int { return slices.IndexFunc(all, does) }
	matching := func(n []string) int {
		h := all[0].hashed(n)
		return first(func(w witness) bool { return slices.Equal(w.own, h) })
	}
	covering := func(n []string) int {
		h := all[0].hashed(n)
		return first(func(w witness) bool { return ring(w.own, w.next, h) })
	}
	size := len(q)
	for size >= least && matching(q[:size]) < 0 {
		size--
	}
	if size < least {
		return nothing
	}
	w := all[matching(q[:size])]
	switch {
	case size == len(q) && w.lacking(t):
		return noData
	case size == len(q), w.away(), covering(q[:size+1]) < 0:
		return nothing
	case covering(star(q[:size])) >= 0:
		return noName
	}
	if at := matching(star(q[:size])); at >= 0 && all[at].lacking(t) {
		return noData
	}
	return nothing
}

func modelAbsent(apex string, records []api.Record, q string) bool {
	if plain := witnesses(api.NSEC, apex, records); len(plain) > 0 {
		return slices.ContainsFunc(plain, func(w witness) bool { return denying(w, row(q)) && !isWithin(w.next, row(q)) })
	}
	for _, w := range likeFirst(witnesses(api.NSEC3, apex, records)) {
		if ring(w.own, w.next, w.hashed(row(q))) {
			return true
		}
	}
	return false
}

// modelMake: each thing that is to be shown is a kind of sign and a name.
func modelMake(z *zone.Zone, q string, t int) ([]api.Record, api.Errno) {
	f := z.Find(q, t)
	if f.Kind == api.FoundNone {
		return nil, api.ErrOutside
	}
	records := z.Records()
	at := func(t int) []api.Record { return z.Set(z.Apex(), t) }
	plain := len(at(api.NSEC)) > 0
	all := witnesses(api.NSEC, z.Apex(), records)
	if !plain {
		all = nil
		for _, p := range at(api.NSEC3PARAM) {
			text, _ := data.Show(p.Type, p.Data)
			words := strings.Fields(text)
			rounds, _ := strconv.Atoi(words[2])
			if rounds > 50 {
				continue
			}
			all = witnesses(api.NSEC3, z.Apex(), records)
			all = slices.DeleteFunc(all, func(w witness) bool { return w.rounds != rounds || w.salt != words[3] })
			break
		}
	}
	taken := map[int]bool{}
	ok := true
	take := func(does func(witness) bool) bool {
		i := slices.IndexFunc(all, does)
		if i >= 0 {
			taken[all[i].place] = true
		}
		return i >= 0
	}
	cover := func(n string) bool {
		return take(func(w witness) bool {
			if plain {
				return ring(w.own, w.next, row(n))
			}
			return ring(w.own, w.next, w.hashed(row(n)))
		})
	}
	match := func(n string) bool {
		return take(func(w witness) bool {
			if plain {
				return slices.Equal(w.own, row(n))
			}
			return slices.Equal(w.own, w.hashed(row(n)))
		})
	}
	stands := func(n string) { ok = ok && (match(n) || plain && cover(n)) }
	gone := func() {
		if plain {
			ok = ok && cover(q)
			return
		}
		ok = ok && cover(name.Tail(q, name.Count(f.Encloser)+1))
		if len(f.Records) == 0 {
			ok = ok && match(f.Encloser)
		}
	}
	switch f.Kind {
	case api.FoundNoName:
		gone()
		ok = ok && cover("\x01*"+f.Encloser)
	case api.FoundNoData:
		if f.Wild {
			gone()
			stands("\x01*" + f.Encloser)
		} else {
			stands(q)
		}
	case api.FoundAnswer, api.FoundAlias:
		if f.Wild {
			gone()
		}
	case api.FoundReferral:
		if len(z.Set(f.Owner, api.DS)) == 0 {
			stands(f.Owner)
		}
	}
	if !ok {
		return nil, api.ErrNone
	}
	var list []api.Record
	for i, r := range records {
		if taken[i] {
			list = append(list, r)
		}
	}
	return list, api.OK
}

// dice: things of chance.
type dice struct{ *rand.Rand }

func (d dice) oneOf(words ...string) string { return words[d.Intn(len(words))] }

// name gives one of few names within the apex.
func (d dice) name(apex string) string {
	n := apex
	for range d.Intn(4) {
		n = d.oneOf("\x01a", "\x01b", "\x01*", "\x01A", "\x02ab", "\x01!") + n
	}
	return n
}

func (d dice) types() string {
	var types []int
	for range d.Intn(4) {
		types = append(types, []int{1, 1, 2, 5, 6, 16, 39, 43, 255, 1000}[d.Intn(10)])
	}
	return data.Set(types)
}

func (d dice) nsec(apex string) api.Record {
	return api.Record{Owner: d.name(apex), Type: api.NSEC, Class: 1, TTL: 60, Data: d.name(apex) + d.types()}
}

// hash gives that of a name, or one right beside it.
func (d dice) hash(apex, salt string, rounds int) string {
	h := []byte(hashBy(d.name(apex), salt, rounds))
	h[9] += byte(d.Intn(3) - 1)
	return string(h)
}

func (d dice) nsec3(apex string) api.Record {
	salt, rounds := d.oneOf("", "\x01", "\x01", "\x01", "\x01"), []int{0, 2, 2, 2, 2}[d.Intn(5)]
	own, next := d.hash(apex, salt, rounds), d.hash(apex, salt, rounds)
	r := hashed(salt, rounds, own, next)
	r.Owner = r.Owner[:17] + apex
	r.Data += d.types()
	return r
}

// spoil makes a record, rarely, one that may not be used.
func (d dice) spoil(r api.Record) api.Record {
	switch d.Intn(60) {
	case 0:
		r.TTL = []int{-1, api.MaxTTL, api.MaxTTL + 1}[d.Intn(3)]
	case 1:
		r.Class = d.Intn(3)
	case 2:
		r.Owner = d.oneOf(api.Root, n("a."), n("a.ex."), n("a.a.ex."), "", "\x01")
	case 3:
		r.Data = d.oneOf(api.Root, n("a."), n("ex.")) + r.Data
	case 4:
		r.Data = r.Data[:d.Intn(len(r.Data))]
	case 5:
		r.Data = string([]byte{byte(d.Intn(3)), byte(d.Intn(2)), 0, byte(49 + d.Intn(3))}) + r.Data[min(4, len(r.Data)):]
	case 6:
		r.Owner = strings.ToUpper(r.Owner)
	case 7:
		r.Type = []int{api.NSEC, api.NSEC3, api.A, api.TXT}[d.Intn(4)]
	case 8:
		r.Owner = "\x01a" + r.Owner
	}
	return r
}

func (d dice) proofs(apex string) []api.Record {
	var list []api.Record
	kind := d.Intn(3) // 0: names, 1: hashes, 2: both
	for range d.Intn(9) {
		r := d.nsec3(apex)
		if kind == 0 || kind == 2 && d.Intn(12) == 0 {
			r = d.nsec(apex)
		}
		list = append(list, d.spoil(r))
	}
	return list
}

func TestModelJudge(t *testing.T) {
	d := dice{rand.New(rand.NewSource(8))}
	tally := map[[3]int]int{}
	for range 60000 {
		apex := d.oneOf(n("ex."), n("Ex."), api.Root, n("a.a."))
		records, q := d.proofs(apex), d.name(apex)
		typ := []int{1, 2, 5, 6, 16, 39, 43, 255, 1000}[d.Intn(9)]
		got, want := proof.Judge(apex, records, q, typ), modelJudge(apex, records, q, typ)
		absent, wanted := proof.Absent(apex, records, q), modelAbsent(apex, records, q)
		if got != want || absent != wanted {
			t.Fatalf("P8.4, P8.5 of %q, %q: Judge(%q, %d) = %d, Absent %v; wanted %d, %v", apex, toldAll(records), q, typ, got, absent, want, wanted)
		}
		kind := 0
		if len(witnesses(api.NSEC, apex, records)) == 0 {
			kind = 1
		}
		if absent {
			tally[[3]int{kind, got, 1}]++
		} else {
			tally[[3]int{kind, got, 0}]++
		}
	}
	for kind := range 2 {
		for _, key := range [][3]int{{kind, nothing, 0}, {kind, nothing, 1}, {kind, noName, 0}, {kind, noName, 1}, {kind, noData, 0}, {kind, noData, 1}} {
			if tally[key] < 30 && key != [3]int{0, noName, 0} { // an NSEC that leads to no name says that it is absent
				t.Errorf("the records of chance are too much alike: %v, %d", key, tally[key])
			}
		}
	}
}

// zone gives one with proofs of chance, or nil.
func (d dice) zone(apex string) *zone.Zone {
	records := []api.Record{
		{Owner: apex, Type: api.SOA, Class: 1, TTL: 60, Data: apex + apex + strings.Repeat("\x00", 20)},
		{Owner: apex, Type: api.NS, Class: 1, TTL: 60, Data: apex},
	}
	add := func(owner string, typ int, d string) {
		records = append(records, api.Record{Owner: owner, Type: typ, Class: 1, TTL: 60, Data: d})
	}
	for range d.Intn(5) {
		switch owner := d.name(apex); d.Intn(6) {
		case 0:
			add(owner, api.NS, apex)
			if d.Intn(3) == 0 {
				add(owner, api.DS, "\x00\x01\xfd\x01a")
			}
		case 1:
			add(owner, api.CNAME, apex)
		case 2:
			add(owner, api.DNAME, n("org."))
		default:
			add(owner, []int{1, 16}[d.Intn(2)], "\x03aaa")
		}
	}
	records = append(records, d.chain(apex)...)
	z, _, _ := zone.New(apex, records)
	return z
}

// chain gives proofs for a zone.
func (d dice) chain(apex string) []api.Record {
	var list []api.Record
	kind := d.Intn(9)
	for range d.Intn(5) {
		list = append(list, d.nsec3(apex), d.nsec3(apex))
		if kind < 4 || d.Intn(6) == 0 {
			list = append(list, d.nsec(apex))
		}
	}
	if kind < 4 {
		first := d.nsec(apex)
		first.Owner = apex
		list = append(list, first)
	}
	if kind > 0 && kind < 8 {
		for _, way := range []string{"\x00\x02\x01\x01", "\x00\x00\x00", "\x00\x33\x01\x01"} {
			if d.Intn(2) == 0 || way[1] == 2 {
				list = append(list, api.Record{Owner: apex, Type: api.NSEC3PARAM, Class: 1, TTL: 60, Data: string([]byte{byte(1 + d.Intn(4)/3), 0}) + way})
			}
		}
	}
	return list
}

func TestModelMake(t *testing.T) {
	d := dice{rand.New(rand.NewSource(9))}
	tally := map[[3]int]int{}
	for range 12000 {
		apex := d.oneOf(n("ex."), n("Ex."), api.Root)
		z := d.zone(apex)
		if z == nil {
			continue
		}
		for range 8 {
			q, typ := d.name(apex), []int{1, 2, 5, 16, 39, 43, 47, 255}[d.Intn(8)]
			got, e := proof.Make(z, q, typ)
			want, wanted := modelMake(z, q, typ)
			if e != wanted || !slices.Equal(got, want) {
				t.Fatalf("P8.2 Make(%q, %d) = %q, %d; wanted %q, %d; zone %q", q, typ, toldAll(got), e, toldAll(want), wanted, toldAll(z.Records()))
			}
			f := z.Find(q, typ)
			wild := 0
			if f.Wild {
				wild = 1
			}
			tally[[3]int{f.Kind, wild, min(len(got), 3)}]++
			if e == api.ErrNone {
				tally[[3]int{f.Kind, wild, -1}]++
			}
		}
	}
	for _, key := range [][3]int{
		{api.FoundNoName, 0, -1}, {api.FoundNoName, 0, 1}, {api.FoundNoName, 0, 2}, {api.FoundNoName, 0, 3},
		{api.FoundNoData, 0, -1}, {api.FoundNoData, 0, 1}, {api.FoundNoData, 1, -1}, {api.FoundNoData, 1, 1}, {api.FoundNoData, 1, 2},
		{api.FoundAnswer, 1, -1}, {api.FoundAnswer, 1, 1}, {api.FoundAlias, 1, -1}, {api.FoundAlias, 1, 1},
		{api.FoundReferral, 0, -1}, {api.FoundReferral, 0, 0}, {api.FoundReferral, 0, 1},
		{api.FoundAnswer, 0, 0}, {api.FoundAlias, 0, 0}, {api.FoundGraft, 0, 0},
	} {
		if tally[key] < 20 {
			t.Errorf("the zones of chance are too much alike: %v, %d", key, tally[key])
		}
	}
}
