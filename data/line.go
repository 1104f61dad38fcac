package data

import (
	"strings"

	"gazetteer/api"
	"gazetteer/spell"
)

// line: words under way, and the name that those without a "." at their end
// go on with.
type line struct {
	words  []api.Word
	origin string
	next   int
}

func (l *line) more() bool { return l.next < len(l.words) }

func (l *line) take() api.Word {
	if !l.more() {
		throw(api.ErrText, len(l.words))
	}
	l.next++
	return l.words[l.next-1]
}

// plain: the next word, which stands without quotes.
func (l *line) plain() string {
	w := l.take()
	l.must(!w.Quoted)
	return w.Text
}

// must throws if the word that was taken last isn't right.
func (l *line) must(right bool) {
	if !right {
		throw(api.ErrText, l.next-1)
	}
}

// together: all words that are left, without quotes and without anything
// between.
func (l *line) together() string {
	var text strings.Builder
	for l.more() {
		text.WriteString(l.plain())
	}
	return text.String()
}

// rawMark is the word ahead of bytes that are told whatever their type.
const rawMark = `\#`

func (l *line) beginsRaw() bool {
	return l.more() && l.words[0] == api.Word{Text: rawMark}
}

// raw: the bytes that words tell behind the mark.
func (l *line) raw() string {
	l.take()
	size, ok := spell.Number(l.plain(), 5, 16)
	l.must(ok)
	first := l.next
	b, ok := from16(l.together())
	if !ok || len(b) != size {
		throw(api.ErrText, first)
	}
	return b
}
