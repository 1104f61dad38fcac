package update

import (
	"maps"
	"slices"

	"gazetteer/api"
	"gazetteer/data"
	"gazetteer/seal"
	"gazetteer/spell"
	"gazetteer/zone"
)

// A journal is blocks, one behind the other: the apex, all records of the zone
// as it was at first, and each change that was done to it. What isn't a whole
// block any more was being written when a crash came: it is left out, and all
// behind it.

// A block is a text with its length ahead of it; a digest stands behind each of
// the two. When one byte of what a digest is of is turned, the digest always
// is another: both of its numbers are reckoned modulo a prime.
const (
	lengthSize = 4
	digestSize = 10
)

func block(text string) string {
	length := spell.Bytes(len(text), lengthSize)
	return length + seal.Digest(length) + text + seal.Digest(text)
}

// unseal: the first bytes, so many, if their digest stands behind them; and
// what is left behind that.
func unseal(b []byte, size int) (text, rest []byte, ok bool) {
	end := size + digestSize
	if end > len(b) || seal.Digest(string(b[:size])) != string(b[size:end]) {
		return nil, nil, false
	}
	// Without room beyond its end nothing can be put behind the text in the
	// journal that was handed in.
	return b[:size:size], b[end:], true
}

// nextText: that of the block with which bytes begin, and what is left.
func nextText(b []byte) (text, rest []byte, ok bool) {
	length, rest, ok := unseal(b, lengthSize)
	if !ok {
		return nil, nil, false
	}
	return unseal(rest, spell.Value(string(length)))
}

// textsOf: the texts of the whole blocks with which a journal begins, and how
// many bytes these blocks are.
func textsOf(journal []byte) (texts [][]byte, whole int) {
	rest := journal
	for {
		text, next, ok := nextText(rest)
		if !ok {
			return texts, len(journal) - len(rest)
		}
		texts, rest = append(texts, text), next
	}
}

func journalOf(z *zone.Zone) []byte {
	all := step{comes: z.Records()}
	return []byte(block(z.Apex()) + block(all.text()))
}

// Open: the keeper of a journal; false: there is none.
func Open(journal []byte) (k *Keeper, ok bool) {
	// Blocks that are whole may still be none that a keeper has written.
	defer func() {
		if isFault(recover()) {
			k, ok = nil, false
		}
	}()
	texts, whole := textsOf(journal)
	if len(texts) == 0 {
		return nil, false
	}
	z, _, e := zone.New(string(texts[0]), replay(texts[1:]))
	if e != api.OK {
		return nil, false
	}
	return &Keeper{z, slices.Clone(journal[:whole])}, true
}

// replay: the records that stand when all steps are done.
func replay(steps [][]byte) []api.Record {
	stand := make(map[api.Record]struct{})
	for _, text := range steps {
		s := readStep(text)
		for _, r := range s.goes {
			delete(stand, r)
		}
		for _, r := range s.comes {
			stand[r] = struct{}{}
		}
	}
	// A zone puts them in order.
	return slices.Collect(maps.Keys(stand))
}

// step: from one zone to the next.
type step struct{ goes, comes []api.Record }

func stepOf(from, to *zone.Zone) step {
	before, now := from.Records(), to.Records()
	return step{data.Beyond(before, now), data.Beyond(now, before)}
}
