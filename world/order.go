package world

import (
	"strings"

	"gazetteer/api"
	"gazetteer/data"
	"gazetteer/name"
	"gazetteer/spell"
)

// order: a line that is read, and the world in which it is done.
type order struct {
	*World
	server  *server
	other   *server // the second one
	apex    string
	name    string
	numbers []int
	typ     int
	word    string // one that just stands there: a new server's name, +, - or =
	kind    int    // of a rule
	below   bool
	rest    []string
}

// read reads the words from the left on, up to the first that is wrong.
func (o *order) read(c command, words []string) api.Errno {
	for i, read := range c.words {
		if e := read(o, words[i]); e != api.OK {
			return e
		}
	}
	o.rest = words[len(c.words):]
	return api.OK
}

func (o *order) readServer(word string) api.Errno {
	o.server = o.find(word)
	return unless(o.server != nil, api.ErrNone)
}

func (o *order) readOther(word string) api.Errno {
	o.other = o.find(word)
	return unless(o.other != nil, api.ErrNone)
}

func (o *order) readApex(word string) (e api.Errno) {
	o.apex, _, e = name.Read(word, api.Root)
	return e
}

func (o *order) readName(word string) (e api.Errno) {
	o.name, _, e = name.Read(word, api.Root)
	return e
}

// maxDigits: the most that a number has.
const maxDigits = 10

func (o *order) readNumber(word string) api.Errno {
	number, ok := spell.Number(word, maxDigits, 64)
	o.numbers = append(o.numbers, number)
	return unless(ok, api.ErrArg)
}

func (o *order) readType(word string) api.Errno {
	o.typ = data.TypeOf(word)
	return unless(o.typ != 0, api.ErrType)
}

func (o *order) readWord(word string) api.Errno {
	o.word = word
	return api.OK
}

func (o *order) readSign(word string) api.Errno {
	o.word = word
	return unless(word == "+" || word == "-", api.ErrArg)
}

func (o *order) readOp(word string) api.Errno {
	o.word = word
	return unless(word == "+" || word == "-" || word == "=", api.ErrArg)
}

func (o *order) readKind(word string) api.Errno {
	kind, below := strings.CutPrefix(word, "*")
	o.below = below
	switch kind {
	case "pass":
		o.kind = api.RulePass
	case "drop":
		o.kind = api.RuleDrop
	case "noname":
		o.kind = api.RuleNoName
	case "nodata":
		o.kind = api.RuleNoData
	case "say":
		o.kind = api.RuleSay
	default:
		return api.ErrArg
	}
	return api.OK
}

// unless: the error, where something doesn't hold.
func unless(holds bool, e api.Errno) api.Errno {
	if holds {
		return api.OK
	}
	return e
}

// data: what the last words tell of the type.
func (o *order) data(origin string) (string, api.Errno) {
	words := make([]api.Word, len(o.rest))
	for i, text := range o.rest {
		words[i].Text = text
	}
	d, _, e := data.Read(o.typ, words, origin)
	return d, e
}
