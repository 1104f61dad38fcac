package spell_test

import (
	"strings"
	"testing"

	"gazetteer/spell"
)

func TestSmall(t *testing.T) {
	for _, c := range [][2]string{
		{"", ""},
		{"AZaz09", "azaz09"},
		{"@[`{", "@[`{"}, // the bytes beside the letters
		{"\u00c4\u212a\u017f\xc1", "\u00c4\u212a\u017f\xc1"}, // letters beyond A to Z, and half of one
	} {
		if got := spell.Small(c[0]); got != c[1] {
			t.Errorf("Small(%q) = %q; wanted %q", c[0], got, c[1])
		}
	}
}

func TestByte(t *testing.T) {
	for _, c := range []struct {
		text  string
		b     byte
		width int
	}{
		{"", 0, 0},
		{"ab", 'a', 1},
		{".", '.', 1},
		{"\xff", 0xff, 1},
		{`\`, 0, 0},
		{`\a`, 'a', 2},
		{`\\`, '\\', 2},
		{`\.x`, '.', 2},
		{`\/00`, '/', 2},
		{`\:00`, ':', 2},
		{`\1`, 0, 0},
		{`\12`, 0, 0},
		{`\12x`, 0, 0},
		{`\1x3`, 0, 0},
		{`\+12`, '+', 2},
		{`\000`, 0, 4},
		{`\255`, 255, 4},
		{`\256`, 0, 0},
		{`\0651`, 'A', 4},
	} {
		if b, width := spell.Byte(c.text); b != c.b || width != c.width {
			t.Errorf("Byte(%q) = %d, %d; wanted %d, %d", c.text, b, width, c.b, c.width)
		}
	}
}

func TestAppend(t *testing.T) {
	for _, c := range []struct {
		b, first byte
		want     string
	}{
		{0, ' ', `\000`},
		{31, ' ', `\031`},
		{32, ' ', ` `},
		{32, '!', `\032`},
		{33, '!', `!`},
		{'a', ' ', `a`},
		{'"', ' ', `\"`},
		{'\\', ' ', `\\`},
		{126, ' ', `~`},
		{127, ' ', `\127`},
		{255, ' ', `\255`},
	} {
		if got := string(spell.Append([]byte("x"), c.b, c.first, `"\`)); got != "x"+c.want {
			t.Errorf("Append(x, %d, %d) = %q; wanted %q", c.b, c.first, got, "x"+c.want)
		}
		if b, width := spell.Byte(c.want); b != c.b || width != len(c.want) {
			t.Errorf("Byte(%q) = %d, %d; wanted %d, and all of it", c.want, b, width, c.b)
		}
	}
}

func TestNumber(t *testing.T) {
	for _, c := range []struct {
		text       string
		most, bits int
		want       int
		ok         bool
	}{
		{"0", 3, 8, 0, true},
		{"007", 3, 8, 7, true},
		{"255", 3, 8, 255, true},
		{"256", 3, 8, 0, false},
		{"0255", 3, 8, 0, false},
		{"65535", 5, 16, 65535, true},
		{"65536", 5, 16, 0, false},
		{"4294967295", 10, 32, 4294967295, true},
		{"4294967296", 10, 32, 0, false},
		{"", 3, 8, 0, false},
		{"+1", 3, 8, 0, false},
		{"-1", 3, 8, 0, false},
		{"1_0", 3, 8, 0, false},
		{"0x1", 3, 8, 0, false},
		{" 1", 3, 8, 0, false},
		{"1 ", 3, 8, 0, false},
		{"\u0661", 3, 8, 0, false}, // a digit elsewhere
		{strings.Repeat("9", 100), 100, 32, 0, false},
	} {
		if got, ok := spell.Number(c.text, c.most, c.bits); got != c.want || ok != c.ok {
			t.Errorf("Number(%q, %d, %d) = %d, %v; wanted %d, %v", c.text, c.most, c.bits, got, ok, c.want, c.ok)
		}
	}
}

func TestBytesValue(t *testing.T) {
	for _, c := range []struct {
		number, size int
		want         string
	}{
		{0, 0, ""},
		{0, 1, "\x00"},
		{255, 1, "\xff"},
		{1, 2, "\x00\x01"},
		{65534, 2, "\xff\xfe"},
		{0x01020304, 4, "\x01\x02\x03\x04"},
		{4294967295, 4, "\xff\xff\xff\xff"},
		{1<<40 - 88, 5, "\xff\xff\xff\xff\xa8"},
		{7, 5, "\x00\x00\x00\x00\x07"},
	} {
		if got := spell.Bytes(c.number, c.size); got != c.want {
			t.Errorf("Bytes(%d, %d) = %q; wanted %q", c.number, c.size, got, c.want)
		}
		if got := spell.Value(c.want); got != c.number {
			t.Errorf("Value(%q) = %d; wanted %d", c.want, got, c.number)
		}
	}
}
