package cache

import (
	"slices"

	"gazetteer/api"
	"gazetteer/name"
	"gazetteer/proof"
)

// Look: what is known.
func (c *Cache) Look(n string, t, now int) api.Known {
	if c.isNone() || name.Check(n) != api.OK || t < 1 || t > lastType || !isTime(now) {
		return api.Known{}
	}
	if e := c.entries[setKey(n, t)]; e.isAlive(now) {
		return e.known(api.KnowSet, now)
	}
	if e := c.entries[setKey(n, api.CNAME)]; e.isAlive(now) {
		return e.known(api.KnowAlias, now)
	}
	return api.Known{Kind: c.absence(n, t, now)}
}

// Noted: what is noted of a name by a number, with the age that is left.
func (c *Cache) Noted(n string, number, now int) []api.Record {
	if c.isNone() || !isTime(now) {
		return nil
	}
	// What is no name folds to "", of which nothing is noted.
	if e := c.entries[noteKey(n, number)]; e.isAlive(now) {
		return e.known(api.KnowSet, now).Records
	}
	return nil
}

// known: what a set that is alive tells.
func (e *entry) known(kind, now int) api.Known {
	records := slices.Clone(e.records)
	for i := range records {
		// If time has gone back, no more is left than it came with.
		records[i].TTL = min(e.end-now, e.age)
	}
	return api.Known{Kind: kind, Rank: e.rank, Records: records}
}

// absence: what is known to be absent, of a name and a type without a set.
func (c *Cache) absence(n string, t, now int) int {
	if c.entries[lackKey(n, t)].isAlive(now) {
		return api.KnowNoData
	}
	for above := range upward(n) {
		if c.entries[voidKey(above)].isAlive(now) {
			return api.KnowNoName
		}
	}
	return c.proved(n, t, now)
}

// proved: what is known by proofs. Those of the zone that is furthest down
// tell, and those above it are not asked.
func (c *Cache) proved(n string, t, now int) int {
	for apex := range upward(n) {
		if proofs := c.proofsOf(apex, now); len(proofs) > 0 {
			return kindOf(proof.Judge(apex, proofs, n, t))
		}
	}
	return api.KnowNothing
}

// kindOf: what is known by what was proved.
func kindOf(proved int) int {
	switch proved {
	case api.ProofNoName:
		return api.KnowNoName
	case api.ProofNoData:
		return api.KnowNoData
	}
	return api.KnowNothing
}

// proofsOf: the proofs of an apex that are alive, in the order in which they
// came.
func (c *Cache) proofsOf(apex string, now int) []api.Record {
	var list []api.Record
	for _, e := range c.proofs[name.Fold(apex)] {
		if e.isAlive(now) {
			list = append(list, e.records...)
		}
	}
	return list
}
