package proof

import (
	"slices"
	"strings"

	"gazetteer/api"
	"gazetteer/data"
	"gazetteer/name"
	"gazetteer/seal"
	"gazetteer/spell"
)

// way: how names are hashed.
type way struct {
	rounds int
	salt   string
}

// readWay: the way that is told by the data of an NSEC3 or NSEC3PARAM, and
// what stands behind it.
func readWay(d string) (way, string) {
	// Two bytes stand ahead of the rounds.
	end := 5 + int(d[4])
	return way{spell.Value(d[2:4]), d[5:end]}, d[end:]
}

// hash: of a name. It is asked of names alone, and no way of more rounds than
// may be is looked at: there is no error.
func (w way) hash(n string) string {
	hash, _ := seal.Hash(n, w.salt, w.rounds)
	return hash
}

// hashSize: how many bytes a hash has.
const hashSize = 10

// nsec3: an NSEC3 that may be used.
type nsec3 struct {
	link
	way       way
	own, next string // hashes
}

// nsec3sOf: those of the records that are NSEC3 and may be used for a zone.
func nsec3sOf(apex string, records []api.Record) []nsec3 {
	var list []nsec3
	for i, r := range records {
		if r.Type != api.NSEC3 || !isRight(apex, r) {
			continue
		}
		if p, ok := readNsec3(apex, r); ok {
			p.place = i
			list = append(list, p)
		}
	}
	return list
}

// plainHash: how the data begin of an NSEC3 that says something.
const plainHash = "\x01\x00"

// readNsec3: what a right NSEC3 tells, if it may be used.
func readNsec3(apex string, r api.Record) (nsec3, bool) {
	w, rest := readWay(r.Data)
	size := int(rest[0])
	p := nsec3{way: w, own: ownHash(apex, r.Owner), next: rest[1 : 1+size]}
	p.types = rest[1+size:]
	ok := strings.HasPrefix(r.Data, plainHash) && w.rounds <= api.MaxRounds &&
		len(p.own) == hashSize && size == hashSize
	return p, ok
}

// ownHash: the bytes that an owner's one label ahead of the apex tells, none
// if it tells none.
func ownHash(apex, owner string) string {
	labels := name.Labels(owner)
	if len(labels) != name.Count(apex)+1 {
		return ""
	}
	own, _ := data.From32(labels[0])
	return own
}

func (p nsec3) covers(hash string) bool { return between(p.own, p.next, hash, strings.Compare) }

// nsec3s: a chain of hashes.
type nsec3s struct {
	apex string
	way  way
	list []nsec3
}

// hashing: those that hash that way.
func hashing(apex string, list []nsec3, w way) nsec3s {
	other := func(p nsec3) bool { return p.way != w }
	return nsec3s{apex, w, slices.DeleteFunc(slices.Clone(list), other)}
}

func (c nsec3s) judge(q string, t int) int {
	e, l := c.encloser(q)
	switch {
	case l == nil:
		return api.ProofNothing
	case e == q:
		return judgeAt(l, t)
	case l.leadsAway() || c.covering(below(q, e)) == nil:
		return api.ProofNothing
	}
	star := name.Star(e)
	if c.covering(star) != nil {
		return api.ProofNoName
	}
	return judgeAt(c.standing(star), t)
}

// judgeAt: what one proves of a type at the name that it matches.
func judgeAt(l *link, t int) int {
	if l != nil && l.deniesType(t) {
		return api.ProofNoData
	}
	return api.ProofNothing
}

// encloser: the longest name that q is within and that one of them matches,
// and the first that does; nil if there is none.
func (c nsec3s) encloser(q string) (string, *link) {
	for count := name.Count(q); count >= name.Count(c.apex); count-- {
		e := name.Tail(q, count)
		if l := c.standing(e); l != nil {
			return e, l
		}
	}
	return "", nil
}

// below: the name right below another, on the way down to q.
func below(q, encloser string) string { return name.Tail(q, name.Count(encloser)+1) }

func (c nsec3s) absent(n string) bool { return c.covering(n) != nil }

func (c nsec3s) gone(q string, f api.Found) []*link {
	next := c.covering(below(q, f.Encloser))
	if f.Wild && f.Kind != api.FoundNoData {
		// Who was told records knows by their signatures how many labels
		// the encloser has.
		return []*link{next}
	}
	return []*link{c.standing(f.Encloser), next}
}

func (c nsec3s) covering(n string) *link {
	hash := c.way.hash(n)
	return c.first(func(p nsec3) bool { return p.covers(hash) })
}

func (c nsec3s) standing(n string) *link {
	hash := c.way.hash(n)
	return c.first(func(p nsec3) bool { return p.own == hash })
}

// first: the first that does, or nil.
func (c nsec3s) first(does func(nsec3) bool) *link {
	at := slices.IndexFunc(c.list, does)
	if at < 0 {
		return nil
	}
	return &c.list[at].link
}
