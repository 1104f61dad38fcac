package data

import (
	"math"
	"strings"

	"gazetteer/spell"
)

// counted: a byte, its length, and so many bytes.
type counted struct{}

func (counted) size(d string) int {
	need(d, 1)
	return need(d, 1+int(d[0]))
}

// withCount: bytes with their length ahead of them; it throws if they are too
// many for it.
func withCount(l *line, b string) string {
	l.must(len(b) <= math.MaxUint8)
	return string([]byte{byte(len(b))}) + b
}

// text: bytes that are told as they are, as far as they can be seen.
type text struct{ counted }

func (text) show(d string) []string { return []string{quoted(d[1:])} }

func (text) read(l *line) string { return withCount(l, readBytes(l)) }

// quoted: bytes as a word in quotes.
func quoted(b string) string {
	shown := []byte{'"'}
	for i := range len(b) {
		shown = spell.Append(shown, b[i], ' ', `"\`)
	}
	return string(append(shown, '"'))
}

// readBytes: the bytes that the next word tells, in quotes or not.
func readBytes(l *line) string {
	written := l.take().Text
	var b []byte
	for written != "" {
		next, width := spell.Byte(written)
		l.must(width > 0)
		b = append(b, next)
		written = written[width:]
	}
	return string(b)
}

// texts: one text or more, to the end.
type texts struct{}

func (texts) size(d string) int {
	at := text{}.size(d)
	for at < len(d) {
		at += text{}.size(d[at:])
	}
	return at
}

func (texts) show(d string) []string {
	var words []string
	for d != "" {
		size := text{}.size(d)
		words = append(words, text{}.show(d[:size])...)
		d = d[size:]
	}
	return words
}

func (texts) read(l *line) string {
	var b strings.Builder
	b.WriteString(text{}.read(l))
	for l.more() {
		b.WriteString(text{}.read(l))
	}
	return b.String()
}

// tail: all bytes to the end, told as those of a text are.
type tail struct{}

func (tail) size(d string) int { return len(d) }

func (tail) show(d string) []string { return []string{quoted(d)} }

func (tail) read(l *line) string { return readBytes(l) }
