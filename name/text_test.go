package name_test

import (
	"fmt"
	"strings"
	"testing"

	"gazetteer/api"
	"gazetteer/name"
)

func TestRead(t *testing.T) {
	ex := wire("Ex")
	for _, c := range []struct{ text, origin, want string }{
		{"www.Example.", api.Root, "\x03www\x07Example\x00"},
		{"a", "\x03www\x07Example\x00", "\x01a\x03www\x07Example\x00"},
		{"@", ex, ex},
		{"@", api.Root, api.Root},
		{"@", long(255), long(255)},
		{".", ex, api.Root},
		{"a", api.Root, wire("a")},
		{"a.b", ex, wire("a", "b", "Ex")},
		{"a.b.", ex, wire("a", "b")},
		{"@.", ex, wire("@")},
		{"@@", ex, wire("@@", "Ex")},
		{"a.@", ex, wire("a", "@", "Ex")},
		{`\@`, ex, wire("@", "Ex")},
		{`\.`, ex, wire(".", "Ex")},
		{`\..`, ex, wire(".")},
		{`\\`, ex, wire(`\`, "Ex")},
		{`\\.`, ex, wire(`\`)},
		{`x\.y\032`, api.Root, wire("x.y ")},
		{`\000\255`, api.Root, wire("\x00\xff")},
		{`\046`, api.Root, wire(".")},
		{`\0641`, api.Root, wire("@1")},
		{`\a\b`, api.Root, wire("ab")},
		{"\\\xff\\\x00", api.Root, wire("\xff\x00")},
		{`\/\:`, api.Root, wire("/:")}, // the bytes beside the digits
		{" a\"();$\x00\xff", api.Root, wire(" a\"();$\x00\xff")},
		{fill(63), ex, wire(fill(63), "Ex")},
		{strings.Repeat(`\120`, 63) + ".", ex, wire(fill(63))},
		{strings.Repeat("a.", 127), ex, strings.Repeat("\x01a", 127) + "\x00"},
		{"a", long(253), "\x01a" + long(253)},
	} {
		got, place, e := name.Read(c.text, c.origin)
		if got != c.want || place != 0 || e != api.OK {
			t.Errorf("P1.2 Read(%q, %q) = %q, %d, %d; wanted %q", c.text, c.origin, got, place, e, c.want)
		}
	}
}

func TestReadFaults(t *testing.T) {
	x63, x64 := fill(63), fill(64)
	for _, c := range []struct {
		text  string
		place int
		e     api.Errno
	}{
		{"", 0, api.ErrText},
		{"..", 0, api.ErrText},
		{".a", 0, api.ErrText},
		{"a..b", 2, api.ErrText},
		{"a..", 2, api.ErrText},
		{`\...`, 3, api.ErrText},
		{`\`, 0, api.ErrText},
		{`a.b\`, 3, api.ErrText},
		{`a\1`, 1, api.ErrText},
		{`a\12`, 1, api.ErrText},
		{`a\12.b`, 1, api.ErrText},
		{`a\1.2`, 1, api.ErrText},
		{`a\12x`, 1, api.ErrText},
		{`a\12/`, 1, api.ErrText},
		{`a\12:`, 1, api.ErrText},
		{`a\1\11`, 1, api.ErrText},
		{`\256`, 0, api.ErrText},
		{`\300`, 0, api.ErrText},
		{`\999`, 0, api.ErrText},
		{`\\\`, 2, api.ErrText},
		{x64, 0, api.ErrLabel},
		{"ab." + x64 + ".", 3, api.ErrLabel},
		{`\a.` + x63 + `\.`, 3, api.ErrLabel},
		{`\a.` + x63 + `\046`, 3, api.ErrLabel},
		{strings.Repeat(`\120`, 64), 0, api.ErrLabel},
		{x64 + "..", 0, api.ErrLabel},       // the first fault is told
		{"a.." + x64, 2, api.ErrText},       // and here
		{x63 + `\300`, 63, api.ErrText},     // what stands for no byte is no 64th
		{x63 + `\`, 63, api.ErrText},        // nor here
		{x63 + ".." + x64, 64, api.ErrText}, // 63 bytes are no fault
		{x64 + `\300`, 0, api.ErrLabel},     // but 64 are
		{fill(70) + "." + x64, 0, api.ErrLabel},
		{strings.Repeat("a.", 128), 0, api.ErrLong},
		{strings.Repeat("a.", 126) + "aa.", 0, api.ErrLong},
		{strings.Repeat("a.", 200) + ".", 400, api.ErrText}, // that it is long is told last
		{strings.Repeat("a.", 200) + x64, 400, api.ErrLabel},
		{strings.Repeat("a.", 200) + `\`, 400, api.ErrText},
	} {
		got, place, e := name.Read(c.text, wire("ex"))
		if got != "" || place != c.place || e != c.e {
			t.Errorf("P1.2 Read(%q, ex.) = %q, %d, %d; wanted %d, %d", c.text, got, place, e, c.place, c.e)
		}
	}
}

func TestReadOrigin(t *testing.T) {
	if got, place, e := name.Read("a", long(254)); got != "" || place != 0 || e != api.ErrLong {
		t.Errorf("P1.2: a name of 256 bytes, with its origin: %q, %d, %d", got, place, e)
	}
	if got, place, e := name.Read("a.", long(255)); got != wire("a") || place != 0 || e != api.OK {
		t.Errorf("P1.2: a whole name leaves its origin aside: %q, %d, %d", got, place, e)
	}
	for _, bad := range notNames() {
		for _, text := range []string{"", "@", ".", "a", "a.", "a..b", fill(64)} {
			if got, place, e := name.Read(text, bad); got != "" || place != 0 || e != api.ErrName {
				t.Errorf("P1.2 Read(%q, %q) = %q, %d, %d; wanted ErrName at 0", text, bad, got, place, e)
			}
		}
	}
}

func TestShow(t *testing.T) {
	for _, c := range []struct{ n, want string }{
		{api.Root, "."},
		{wire("www", "Example"), "www.Example."},
		{wire("x.y "), `x\.y\032.`},
		{wire(`.\"();@$`), `\.\\\"\(\)\;\@\$.`},
		{wire("\x00\x09", "\x7f\x80\xff"), `\000\009.\127\128\255.`},
		{wire("*", "_a-1"), "*._a-1."},
		{wire("#%&'+,/:<=>?[]^`{|}~!"), "#%&'+,/:<=>?[]^`{|}~!."},
	} {
		if got := name.Show(c.n); got != c.want {
			t.Errorf("P1.3 Show(%q) = %q; wanted %q", c.n, got, c.want)
		}
	}
}

func TestShowEachByte(t *testing.T) {
	for b := range 256 {
		want := string([]byte{byte(b)})
		if b < 33 || b > 126 {
			want = fmt.Sprintf(`\%03d`, b)
		} else if strings.Contains(`.\"();@$`, want) {
			want = `\` + want
		}
		if got := name.Show(wire(string([]byte{byte(b)}))); got != want+"." {
			t.Errorf("P1.3: the byte %d is shown as %q; wanted %q", b, got, want+".")
		}
	}
}

func TestReadWhatIsShown(t *testing.T) {
	for _, n := range append(randomNames(1000), wire(strings.Repeat("\xff", 63), strings.Repeat("\x00", 63))) {
		if got, place, e := name.Read(name.Show(n), wire("other")); got != n || place != 0 || e != api.OK {
			t.Errorf("P1.2, P1.3 Read(Show(%q)) = %q, %d, %d", n, got, place, e)
		}
	}
}

// Every short text of telling bytes: the answer is a name, or a fault within the text.
func TestReadShortTexts(t *testing.T) {
	const bytes = `.\@a012569`
	texts := []string{""}
	for begin := 0; len(texts) < 100000; {
		end := len(texts)
		for _, text := range texts[begin:end] {
			for i := range len(bytes) {
				texts = append(texts, text+bytes[i:i+1])
			}
		}
		begin = end
	}
	for _, text := range texts {
		got, place, e := name.Read(text, wire("ex"))
		switch {
		case e == api.OK && place == 0 && name.Check(got) == api.OK:
		case e == api.ErrText && got == "" && (place < len(text) && strings.ContainsRune(`.\`, rune(text[place])) || text == "" && place == 0):
		default:
			t.Fatalf("P1.2 Read(%q, ex.) = %q, %d, %d", text, got, place, e)
		}
	}
}
