package master_test

import (
	"reflect"
	"slices"
	"testing"

	"gazetteer/api"
	"gazetteer/master"
)

// plain and quoted are words; entry and blank entries of a line.
func plain(text string) api.Word  { return api.Word{Text: text} }
func quoted(text string) api.Word { return api.Word{Text: text, Quoted: true} }

func entry(line int, words ...api.Word) api.Entry { return api.Entry{Line: line, Words: words} }
func blank(line int, words ...api.Word) api.Entry {
	return api.Entry{Line: line, Blank: true, Words: words}
}

// P4.2: which entries a text has.
func TestEntries(t *testing.T) {
	a, b, c := plain("a"), plain("b"), plain("c")
	for _, x := range []struct {
		text string
		want []api.Entry
	}{
		{"", nil},
		{"\n", nil},
		{" \t\r\n\n  ", nil},
		{"; a \"b\\\n", nil},
		{";", nil},
		{"()\n(\n)", nil},
		{"a", []api.Entry{entry(1, a)}},
		{"a\n", []api.Entry{entry(1, a)}},
		{"a b\nc", []api.Entry{entry(1, a, b), entry(2, c)}},
		{"\n\na\n\n\nb", []api.Entry{entry(3, a), entry(6, b)}},
		{"a \t\r b\r\n", []api.Entry{entry(1, a, b)}},
		// the document's example; its e stands on line 4, as lines are numbered
		{"a (b\n c) ; d\n\n e", []api.Entry{entry(1, a, b, c), blank(4, plain("e"))}},
		// the first byte of an entry's first line
		{" a", []api.Entry{blank(1, a)}},
		{"\ta", []api.Entry{blank(1, a)}},
		{"\ra", []api.Entry{blank(1, a)}},
		{"\x0ba", []api.Entry{entry(1, plain("\x0ba"))}},
		{"\x00 a\x7f\xff\xa0", []api.Entry{entry(1, plain("\x00"), plain("a\x7f\xff\xa0"))}},
		{"a\n b\nc", []api.Entry{entry(1, a), blank(2, b), entry(3, c)}},
		{"(\n a)", []api.Entry{entry(1, a)}},
		{" (\na)", []api.Entry{blank(1, a)}},
		{"\n (\n\n a\n)\nb", []api.Entry{blank(2, a), entry(6, b)}},
		// "(" and ")"
		{"(a)(b)c", []api.Entry{entry(1, a, b, c)}},
		{"a(\n\n\n)b\nc", []api.Entry{entry(1, a, b), entry(5, c)}},
		{"(a\nb\nc\n)\nb", []api.Entry{entry(1, a, b, c), entry(5, b)}},
		{"(a) (\nb) c\nb", []api.Entry{entry(1, a, b, c), entry(3, b)}},
		// remarks
		{"a;b\nc", []api.Entry{entry(1, a), entry(2, c)}},
		{"a ;(\nb;)\nc;\"", []api.Entry{entry(1, a), entry(2, b), entry(3, c)}},
		{"(a;)\nb);\\\nc", []api.Entry{entry(1, a, b), entry(3, c)}},
		{"a;", []api.Entry{entry(1, a)}},
		// quotes
		{`"a"`, []api.Entry{entry(1, quoted("a"))}},
		{`""`, []api.Entry{entry(1, quoted(""))}},
		{`"" ""`, []api.Entry{entry(1, quoted(""), quoted(""))}},
		{`a"b"c`, []api.Entry{entry(1, a, quoted("b"), c)}},
		{`"a""b"`, []api.Entry{entry(1, quoted("a"), quoted("b"))}},
		{"\" a;(\t)\r\"", []api.Entry{entry(1, quoted(" a;(\t)\r"))}},
		{"(\"(\"\n\")\")", []api.Entry{entry(1, quoted("("), quoted(")"))}},
		// "\"
		{`a\"b "c\"d" \"`, []api.Entry{entry(1, plain(`a\"b`), quoted(`c\"d`), plain(`\"`))}},
		{`a\ b\;c \( \) \;`, []api.Entry{entry(1, plain(`a\ b\;c`), plain(`\(`), plain(`\)`), plain(`\;`))}},
		{`a\\;b`, []api.Entry{entry(1, plain(`a\\`))}},
		{`a\\"b\\"c`, []api.Entry{entry(1, plain(`a\\`), quoted(`b\\`), c)}},
		{`"\\\""a`, []api.Entry{entry(1, quoted(`\\\"`), a)}},
		{"a\\\t\\\r\\\\ b", []api.Entry{entry(1, plain("a\\\t\\\r\\\\"), b)}},
		{`\065\x`, []api.Entry{entry(1, plain(`\065\x`))}},
		// signs that are none here
		{"$a @ # {b} 'c' /", []api.Entry{entry(1, plain("$a"), plain("@"), plain("#"), plain("{b}"), plain("'c'"), plain("/"))}},
	} {
		got, f := master.Entries(x.text)
		if f != (api.Fault{}) || !slices.EqualFunc(got, x.want, sameEntry) {
			t.Errorf("P4.2 Entries(%q) = %+v, %+v; wanted %+v", x.text, got, f, x.want)
		}
	}
}

func sameEntry(a, b api.Entry) bool { return reflect.DeepEqual(a, b) }

// P4.2: the first fault, and its line.
func TestEntriesFaults(t *testing.T) {
	for _, c := range []struct {
		text string
		code api.Errno
		line int
	}{
		// a ")" without its "("
		{")", api.ErrText, 1},
		{"a\n\n b)", api.ErrText, 3},
		{"(a))", api.ErrText, 1},
		{"(\na\n)\n)", api.ErrText, 4},
		{"a \")\" )", api.ErrText, 1},
		// a "(" within "("
		{"((", api.ErrText, 1},
		{"((a))", api.ErrText, 1},
		{"(a\n\n (b))", api.ErrText, 3},
		{"a(b(", api.ErrText, 1},
		// a line's end in quotes
		{"\"a\n\"", api.ErrText, 1},
		{"\n(\n\"a\n\")", api.ErrText, 3},
		{"a \"\\\"\n", api.ErrText, 1},
		// the text's end in quotes
		{"\"", api.ErrText, 1},
		{"a\n\"b", api.ErrText, 2},
		{"a \"b\\\"", api.ErrText, 1},
		{"\"a\" \"b;", api.ErrText, 1},
		// a line's end behind a "\"
		{"a\\\nb", api.ErrText, 1},
		{"\n\\\n", api.ErrText, 2},
		{"(\na\\\n)", api.ErrText, 2},
		{"\n\"a\\\n\"", api.ErrText, 2},
		{"a\\\\\\\n", api.ErrText, 1},
		// the text's end behind a "\"
		{"\\", api.ErrText, 1},
		{"a\n b\\", api.ErrText, 2},
		{"\"\\", api.ErrText, 1},
		{`\a\\ \`, api.ErrText, 1},
		// the text's end within "("
		{"(", api.ErrEnd, 1},
		{"a (b", api.ErrEnd, 1},
		{"a\nb\n(\n\nc\n", api.ErrEnd, 3},
		{"(\n)(\n\n", api.ErrEnd, 2},
		{"(a ;)", api.ErrEnd, 1},
		{"\n( a ;)\n \")\"\n;", api.ErrEnd, 2},
		{"(\\)", api.ErrEnd, 1},
		// the first of several
		{")\n((", api.ErrText, 1},
		{"(\n(\n", api.ErrText, 2},
		{"(\n\"a", api.ErrText, 2},
		{"(\na\\", api.ErrText, 2},
		{"\n\\\n\"", api.ErrText, 2},
	} {
		list, f := master.Entries(c.text)
		if want := (api.Fault{Code: c.code, Line: c.line}); f != want || list != nil {
			t.Errorf("P4.2 Entries(%q) = %+v, %+v; wanted %+v", c.text, list, f, want)
		}
		if list, f := master.Parse(c.text, api.Root, nil); f.Code != c.code || f.Line != c.line || f.File != "" || list != nil {
			t.Errorf("P4.3 Parse(%q) = %+v, %+v; wanted the fault of Entries", c.text, list, f)
		}
	}
}

// What comes out is new memory, list by list.
func TestEntriesAlone(t *testing.T) {
	const text = "a b\n c d e\nf"
	first, _ := master.Entries(text)
	want, _ := master.Entries(text)
	for i, e := range first {
		_ = append(e.Words, plain("more"))
		first[i].Words = append(e.Words[:0], plain("other"))
		if i > 0 && first[i-1].Words[0] != plain("other") {
			t.Errorf("P2: the words of entry %d are changed by those of entry %d", i-1, i)
		}
	}
	if first[2].Words[0] != plain("other") || len(want[0].Words) != 2 || want[0].Words[1] != plain("b") {
		t.Errorf("P2: entries share words: %+v", want)
	}
	if again, _ := master.Entries(text); !reflect.DeepEqual(again, want) {
		t.Errorf("P2: Entries(%q) = %+v, then %+v", text, want, again)
	}
}
