package cache

import (
	"iter"
	"slices"
	"strings"

	"gazetteer/api"
	"gazetteer/name"
)

// kind: what an entry is.
type kind int

const (
	aSet   kind = iota // records of a name and a type
	aLack              // a name has no records of a type
	aVoid              // a name isn't there
	aProof             // an NSEC of a zone
	aNote              // what whoever has the cache notes of a name
)

// key: of what an entry tells. There is at most one entry of each. Names are
// folded, so that equal ones are the same.
type key struct {
	kind kind
	name string // of a proof, its owner
	typ  int    // of sets and lacks; of a note, its number
	apex string // of proofs
}

func setKey(n string, t int) key { return key{kind: aSet, name: name.Fold(n), typ: t} }

func lackKey(n string, t int) key { return key{kind: aLack, name: name.Fold(n), typ: t} }

func voidKey(n string) key { return key{kind: aVoid, name: name.Fold(n)} }

func proofKey(apex, owner string) key {
	return key{kind: aProof, name: name.Fold(owner), apex: name.Fold(apex)}
}

func noteKey(n string, number int) key { return key{kind: aNote, name: name.Fold(n), typ: number} }

// entry: what is remembered of a key.
type entry struct {
	key     key
	end     int
	came    int // how many have come, it included
	age     int // with which it came
	rank    int // of a set
	records []api.Record
}

// isAlive: does it count at a time? What isn't there doesn't.
func (e *entry) isAlive(now int) bool { return e != nil && e.end > now }

// isAhead: is it pushed out ahead of another?
func (e *entry) isAhead(other *entry) bool {
	if e.end != other.end {
		return e.end < other.end
	}
	return e.came < other.came
}

// upward: a name, and all names above it.
func upward(n string) iter.Seq[string] {
	return func(yield func(string) bool) {
		for above := n; above != ""; above = name.Parent(above) {
			if !yield(above) {
				return
			}
		}
	}
}

// replace: an entry comes, in the place of the one that has been there. One
// that would have no time doesn't come.
func (c *Cache) replace(e entry, now int) {
	c.forget(e.key)
	if e.age == 0 {
		return
	}
	c.came++
	e.came, e.end = c.came, now+e.age
	c.entries[e.key] = &e
	if e.key.kind == aProof {
		c.proofs[e.key.apex] = append(c.proofs[e.key.apex], &e)
	}
}

// forget: the entry of a key goes, if there is one.
func (c *Cache) forget(k key) {
	gone := c.entries[k]
	delete(c.entries, k)
	if k.kind != aProof {
		return
	}
	rest := slices.DeleteFunc(c.proofs[k.apex], func(e *entry) bool { return e == gone })
	if len(rest) == 0 {
		delete(c.proofs, k.apex)
	} else {
		c.proofs[k.apex] = rest
	}
}

// forgetBelow: all that is known to stand, or to be lacking, at a name and at
// the names below it goes.
func (c *Cache) forgetBelow(n string) {
	top := name.Fold(n)
	for k := range c.entries {
		// Most names end otherwise, which is told at once.
		if (k.kind == aSet || k.kind == aLack) && strings.HasSuffix(k.name, top) && name.Within(k.name, top) {
			c.forget(k)
		}
	}
}

// pushOut: entries go, if there are too many.
func (c *Cache) pushOut(now int) {
	if len(c.entries) <= c.most {
		return
	}
	// Times may go back: what isn't alive now is kept while there is room.
	for k, e := range c.entries {
		if !e.isAlive(now) {
			c.forget(k)
		}
	}
	for len(c.entries) > c.most {
		c.forget(c.first())
	}
}

// first: the key of the entry that is pushed out ahead of all others.
func (c *Cache) first() key {
	var first *entry
	for _, e := range c.entries {
		if first == nil || e.isAhead(first) {
			first = e
		}
	}
	return first.key
}
