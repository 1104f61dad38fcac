package proof

import (
	"slices"

	"gazetteer/api"
	"gazetteer/data"
	"gazetteer/name"
)

// nsec: an NSEC that may be used.
type nsec struct {
	link
	owner, next string
}

// nsecs: a chain of names.
type nsecs []nsec

// nsecsOf: those of the records that are NSEC and may be used for a zone.
func nsecsOf(apex string, records []api.Record) nsecs {
	var list nsecs
	for i, r := range records {
		if r.Type != api.NSEC || !isRight(apex, r) {
			continue
		}
		next := data.Names(r.Type, r.Data)[0]
		if name.Within(next, apex) {
			list = append(list, nsec{link{i, r.Data[len(next):]}, r.Owner, next})
		}
	}
	return list
}

func (p nsec) covers(n string) bool { return Covers(p.owner, p.next, n) }

// denies: does it show that nothing stands at a name?
func (p nsec) denies(n string) bool {
	return p.covers(n) && !(name.Within(n, p.owner) && p.leadsAway())
}

// shows: does it show that a name has no t?
func (p nsec) shows(n string, t int) bool { return name.Equal(p.owner, n) && p.deniesType(t) }

// hasBelow: does it show that there are names below n?
func (p nsec) hasBelow(n string) bool { return name.Within(p.next, n) }

// encloser: the longest name above q that is there, as it tells.
func (p nsec) encloser(q string) string {
	a, b := name.Common(q, p.owner), name.Common(q, p.next)
	if len(a) > len(b) {
		return a
	}
	return b
}

func (c nsecs) judge(q string, t int) int {
	if c.show(q, t) {
		return api.ProofNoData
	}
	// A star says the same whoever leads to it: it is asked once.
	var asked []string
	for _, p := range c {
		if !p.denies(q) {
			continue
		}
		if p.hasBelow(q) {
			return api.ProofNoData
		}
		star := name.Star(p.encloser(q))
		if slices.Contains(asked, star) {
			continue
		}
		if says := c.judgeStar(star, t); says != api.ProofNothing {
			return says
		}
		asked = append(asked, star)
	}
	return api.ProofNothing
}

// show: does one of them show that a name has no t?
func (c nsecs) show(n string, t int) bool {
	return slices.ContainsFunc(c, func(p nsec) bool { return p.shows(n, t) })
}

// judgeStar: what they prove of a name that isn't there and for which that
// star would stand.
func (c nsecs) judgeStar(star string, t int) int {
	if c.show(star, t) {
		return api.ProofNoData
	}
	at := slices.IndexFunc(c, func(p nsec) bool { return p.denies(star) })
	switch {
	case at < 0:
		return api.ProofNothing
	case c[at].hasBelow(star):
		return api.ProofNoData
	}
	return api.ProofNoName
}

func (c nsecs) absent(n string) bool {
	return slices.ContainsFunc(c, func(p nsec) bool { return p.denies(n) && !p.hasBelow(n) })
}

func (c nsecs) gone(q string, _ api.Found) []*link { return []*link{c.covering(q)} }

func (c nsecs) covering(n string) *link {
	return c.first(func(p nsec) bool { return p.covers(n) })
}

func (c nsecs) standing(n string) *link {
	if l := c.first(func(p nsec) bool { return name.Equal(p.owner, n) }); l != nil {
		return l
	}
	// Nothing stands at it: it is there by names below it alone.
	return c.covering(n)
}

// first: the first that does, or nil.
func (c nsecs) first(does func(nsec) bool) *link {
	at := slices.IndexFunc(c, does)
	if at < 0 {
		return nil
	}
	return &c[at].link
}
