package seal

import (
	"slices"
	"strings"

	"gazetteer/api"
	"gazetteer/data"
	"gazetteer/name"
	"gazetteer/spell"
)

// IsSet: are the records a set that may be signed?
func IsSet(set []api.Record) bool { return data.IsSet(set) && set[0].Type != api.RRSIG }

// foldedData: the data of a set, folded, in their order.
func foldedData(set []api.Record) []string {
	list := make([]string, len(set))
	for i, r := range set {
		list[i] = data.Fold(r.Type, r.Data)
	}
	slices.Sort(list)
	return list
}

// labelsOf: how many labels a name has, without a star in front.
func labelsOf(n string) int {
	if name.IsStar(n) {
		return name.Count(n) - 1
	}
	return name.Count(n)
}

// Missing: the name that must not be there if a signature, which fits a set of
// n, was made for a star's set; "" if it was made for n's own.
func Missing(n string, sig api.Record) string {
	s, _ := stampOf(sig.Data)
	if s.labels == labelsOf(n) {
		return ""
	}
	return name.Tail(n, s.labels+1)
}

// stamp: what the data of an RRSIG tell, but for the signature.
type stamp struct {
	covered   int
	algorithm int
	labels    int
	age       int
	until     int
	from      int
	tag       int
	signer    string // folded
}

// stampHead: how many bytes stand ahead of the signer.
const stampHead = 18

// stampOf: the stamp and the signature of an RRSIG's data.
func stampOf(d string) (stamp, string) {
	signer := data.Names(api.RRSIG, d)[0]
	return stamp{
		covered:   spell.Value(d[:2]),
		algorithm: spell.Value(d[2:3]),
		labels:    spell.Value(d[3:4]),
		age:       spell.Value(d[4:8]),
		until:     spell.Value(d[8:12]),
		from:      spell.Value(d[12:16]),
		tag:       spell.Value(d[16:stampHead]),
		signer:    name.Fold(signer),
	}, d[stampHead+len(signer):]
}

func (s stamp) bytes() string {
	return spell.Bytes(s.covered, 2) + spell.Bytes(s.algorithm, 1) + spell.Bytes(s.labels, 1) +
		spell.Bytes(s.age, 4) + spell.Bytes(s.until, 4) + spell.Bytes(s.from, 4) + spell.Bytes(s.tag, 2) + s.signer
}

// text: what is signed of a set. The age is the stamp's, names are folded and
// data in order, so that it stays the same wherever the set goes.
func (s stamp) text(set []api.Record) string {
	ahead := s.owner(set[0].Owner) + spell.Bytes(set[0].Type, 2) + spell.Bytes(api.IN, 2) + spell.Bytes(s.age, 4)
	var text strings.Builder
	text.WriteString(s.bytes())
	for _, d := range foldedData(set) {
		text.WriteString(ahead)
		text.WriteString(spell.Bytes(len(d), 2))
		text.WriteString(d)
	}
	return text.String()
}

// owner: the owner as it is signed: the star's name that stands for n, if the
// stamp tells fewer labels than n has.
func (s stamp) owner(n string) string {
	if s.labels < labelsOf(n) {
		n = name.Star(name.Tail(n, s.labels))
	}
	return name.Fold(n)
}
