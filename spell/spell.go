// Package spell: how bytes, letters and numbers are written, in names and in
// all other words.
package spell

import (
	"strconv"
	"strings"
)

// Small: the text with a to z in the place of A to Z. Other letters have no
// small ones here, so the library's folding would do too much.
func Small(text string) string {
	small := []byte(text)
	for i, b := range small {
		if 'A' <= b && b <= 'Z' {
			small[i] = b + ('a' - 'A')
		}
	}
	return string(small)
}

// Byte: the byte that the beginning of a text stands for, and how much of the
// text that is; 0 if the text is empty, or begins with a "\" that stands for
// no byte.
func Byte(text string) (byte, int) {
	if text == "" {
		return 0, 0
	}
	if text[0] != '\\' {
		return text[0], 1
	}
	if len(text) > 1 && !isDigit(text[1]) {
		return text[1], 2
	}
	if len(text) < 4 {
		return 0, 0
	}
	number, ok := Number(text[1:4], 3, 8)
	if !ok {
		return 0, 0
	}
	return byte(number), 4
}

func isDigit(b byte) bool { return '0' <= b && b <= '9' }

// Append tells a byte behind a text: as a number if it is below the first or
// above the last that can be seen, with a "\" ahead of it if it is marked.
func Append(text []byte, b, first byte, marked string) []byte {
	if b < first || b > '~' {
		return append(text, '\\', '0'+b/100, '0'+b/10%10, '0'+b%10)
	}
	if strings.IndexByte(marked, b) >= 0 {
		text = append(text, '\\')
	}
	return append(text, b)
}

// Number: the number that one to most digits tell, if it has no more than so
// many bits. Nothing but digits is read: no sign either.
func Number(text string, most, bits int) (int, bool) {
	if len(text) > most {
		return 0, false
	}
	number, err := strconv.ParseUint(text, 10, bits)
	if err != nil {
		return 0, false
	}
	return int(number), true
}

// Bytes: a number as so many bytes, the highest first.
func Bytes(number, size int) string {
	b := make([]byte, size)
	for i := range b {
		b[i] = byte(number >> (8 * (size - 1 - i)))
	}
	return string(b)
}

// Value: the number that bytes are, the highest first.
func Value(b string) int {
	number := 0
	for i := range len(b) {
		number = number<<8 | int(b[i])
	}
	return number
}
