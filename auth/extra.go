package auth

import "gazetteer/api"

// extra: what a message tells beside its question, by its OPT.
type extra struct {
	there bool
	room  int // how many bytes whoever asks takes
	signs int
}

// extraOf: the extra of a message, if there is one; false if it can't be
// understood.
func extraOf(m api.Message) (extra, bool) {
	var x extra
	for _, r := range m.Additional {
		if r.Type != api.OPT {
			continue
		}
		if x.there || r.Owner != api.Root {
			return extra{}, false
		}
		x = extra{there: true, room: r.Class, signs: r.TTL}
	}
	return x, true
}

// Signs of an extra: that proofs are wanted; and, of an answer's, that the
// other was newer than what is understood.
const (
	proofsSign = 32768
	newerSign  = 16777216
)

// isNewer: is it of a version that isn't understood?
func (x extra) isNewer() bool { return x.signs>>16&255 != 0 }

func (x extra) wantsProofs() bool { return x.signs&proofsSign != 0 }

// ownRoom: how many bytes a server takes.
const ownRoom = 4096

// answer: the record that answers an extra.
func (x extra) answer() api.Record {
	r := api.Record{Owner: api.Root, Type: api.OPT, Class: ownRoom, TTL: x.signs & proofsSign}
	if x.isNewer() {
		r.TTL += newerSign
	}
	return r
}
