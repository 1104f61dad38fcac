package data

import (
	"math/bits"
	"strings"

	"gazetteer/api"
	"gazetteer/spell"
)

// The digits of hexadecimal numbers, base 32 and base 64.
const (
	digits16 = "0123456789abcdef"
	digits32 = "0123456789abcdefghijklmnopqrstuv"
	digits64 = "ABCDEFGHIJKLMNOPQRSTUVWXYZabcdefghijklmnopqrstuvwxyz0123456789+/"
)

// bitsOf: how many bits each one of the digits tells.
func bitsOf(digits string) int { return bits.Len(uint(len(digits) - 1)) }

// toDigits: the bits of bytes, the highest first, by digits; the last one is
// filled with noughts.
func toDigits(b, digits string) string {
	width := bitsOf(digits)
	text := make([]byte, 0, len(b)*8/width+1)
	row, have := 0, 0
	for i := range len(b) {
		row = row<<8 | int(b[i])
		have += 8
		for have >= width {
			have -= width
			text = append(text, digits[row>>have])
			row &= 1<<have - 1
		}
	}
	if have > 0 {
		text = append(text, digits[row<<(width-have)])
	}
	return string(text)
}

// fromDigits: back; false if no row of bytes has that text.
func fromDigits(text, digits string) (string, bool) {
	width := bitsOf(digits)
	b := make([]byte, 0, len(text)*width/8)
	row, have := 0, 0
	for i := range len(text) {
		value := strings.IndexByte(digits, text[i])
		if value < 0 {
			return "", false
		}
		row = row<<width | value
		have += width
		if have >= 8 {
			have -= 8
			b = append(b, byte(row>>have))
			row &= 1<<have - 1
		}
	}
	// So many bits that the last digit wasn't needed, or bits that aren't 0.
	if have >= width || row != 0 {
		return "", false
	}
	return string(b), true
}

// To32: bytes in base 32.
func To32(b string) string { return toDigits(b, digits32) }

// From32: base 32 as bytes.
func From32(s string) (string, bool) { return fromDigits(spell.Small(s), digits32) }

// toEnd: one byte or more, to the end.
type toEnd struct{}

func (toEnd) size(d string) int {
	need(d, 1)
	return len(d)
}

// readToEnd: the bytes that all words that are left tell together.
func readToEnd(l *line, bytesOf func(string) (string, bool)) string {
	first := l.next
	b, ok := bytesOf(l.together())
	if !ok || b == "" {
		throw(api.ErrText, first)
	}
	return b
}

// hex: bytes to the end, by hexadecimal digits.
type hex struct{ toEnd }

func (hex) show(d string) []string { return []string{toDigits(d, digits16)} }

func (hex) read(l *line) string { return readToEnd(l, from16) }

func from16(text string) (string, bool) { return fromDigits(spell.Small(text), digits16) }

// base64: bytes to the end, in base 64.
type base64 struct{ toEnd }

// fill64 goes behind a text in base 64 until it is a row of fours.
const fill64 = "="

func (base64) show(d string) []string {
	text := toDigits(d, digits64)
	return []string{text + strings.Repeat(fill64, -len(text)&3)}
}

func (base64) read(l *line) string { return readToEnd(l, from64) }

func from64(text string) (string, bool) {
	bare := strings.TrimRight(text, fill64)
	if len(text) != (len(bare)+3)&^3 {
		return "", false
	}
	return fromDigits(bare, digits64)
}

// salt: bytes with their count, by hexadecimal digits.
type salt struct{ counted }

// noSalt is told where digits would be, if there are no bytes.
const noSalt = "-"

func (salt) show(d string) []string {
	if len(d) == 1 {
		return []string{noSalt}
	}
	return []string{toDigits(d[1:], digits16)}
}

func (salt) read(l *line) string {
	word := l.plain()
	if word == noSalt {
		return withCount(l, "")
	}
	b, ok := from16(word)
	l.must(ok && b != "")
	return withCount(l, b)
}

// hash: one byte or more with their count, in base 32.
type hash struct{ counted }

func (h hash) size(d string) int {
	end := h.counted.size(d)
	need(d[1:end], 1)
	return end
}

func (hash) show(d string) []string { return []string{To32(d[1:])} }

func (hash) read(l *line) string {
	b, ok := From32(l.plain())
	l.must(ok && b != "")
	return withCount(l, b)
}
