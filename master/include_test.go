package master_test

import (
	"slices"
	"strings"
	"testing"

	"gazetteer/api"
	"gazetteer/master"
)

// P4.3: a file's entries as if they stood where it is named.
func TestInclude(t *testing.T) {
	files := []api.File{
		{Name: "one", Text: "b A 10.0.0.2\n"},
		{Name: "one", Text: "never"},
		{Name: "a b", Text: " A 10.0.0.3"},
		{Name: `q\"`, Text: "c A 10.0.0.4"},
		{Name: "", Text: "d A 10.0.0.5"},
		{Name: "One", Text: "e A 10.0.0.6"},
		{Name: "empty", Text: "\n;"},
	}
	parses(t, lines("a 60 A 10.0.0.1", "$INCLUDE one", `$include "a b"`, `$INCLUDE "q\""`, `$INCLUDE ""`, "$Include One", "$INCLUDE empty", "$INCLUDE \"one\" o", " A 10.0.0.7"), files,
		"a.ex. 60 A 10.0.0.1", "b.ex. 60 A 10.0.0.2", "a.ex. 60 A 10.0.0.3", "c.ex. 60 A 10.0.0.4", "d.ex. 60 A 10.0.0.5", "e.ex. 60 A 10.0.0.6",
		"b.o.ex. 60 A 10.0.0.2", "a.ex. 60 A 10.0.0.7")
}

// P4.3: what is kept goes in, and is behind the file as it was ahead of it.
func TestIncludeKeeps(t *testing.T) {
	files := []api.File{
		{Name: "in", Text: lines(" A 10.0.1.1", "x A 10.0.1.2", "$ORIGIN y", "x 7 NS x", "$TTL 8", "$INCLUDE deeper x.", " A 10.0.1.3")},
		{Name: "deeper", Text: lines(" NS z", "z NS z", "$ORIGIN w", "$TTL 9")},
		{Name: "age", Text: "b 7 A 10.0.1.4"},
	}
	inside := func(origin string) []string {
		return []string{"a.ex. 60 A 10.0.1.1", "x." + origin + " 60 A 10.0.1.2", "x.y." + origin + " 7 NS x.y." + origin,
			"x.y." + origin + " 8 NS z.x.", "z.x. 8 NS z.x.", "x.y." + origin + " 8 A 10.0.1.3"}
	}
	behind := []string{"a.ex. 60 NS v.ex.", "v.ex. 60 A 10.0.0.2"}
	for words, origin := range map[string]string{"in": "ex.", "in p": "p.ex.", "in p.": "p.", "in @": "ex.", `"in" .`: ""} {
		want := append([]string{"a.ex. 60 A 10.0.0.1"}, inside(origin)...)
		if origin == "" {
			for i := range want {
				want[i] = strings.ReplaceAll(want[i], "..", ".")
			}
		}
		parses(t, lines("a 60 A 10.0.0.1", "$INCLUDE "+words, " NS v", "v A 10.0.0.2"), files, append(want, behind...)...)
	}
	// An age, or an owner, that is told in the file alone is none behind it.
	fails(t, lines("$INCLUDE age", "a A 10.0.0.1"), files, api.ErrTtl, "", 2)
	fails(t, lines("$INCLUDE age", " 60 A 10.0.0.1"), files, api.ErrNone, "", 2)
	fails(t, "$INCLUDE in", files, api.ErrNone, "in", 1)
	parses(t, lines("a 60 A 10.0.0.1", "$INCLUDE age", "b A 10.0.0.2"), files, "a.ex. 60 A 10.0.0.1", "b.ex. 7 A 10.0.1.4", "b.ex. 60 A 10.0.0.2")
}

// P4.3: what is wrong with the words of $INCLUDE, in the order of the document.
func TestIncludeFaults(t *testing.T) {
	files := []api.File{{Name: "f", Text: "a 60 A 10.0.0.1"}, {Name: "loop", Text: "\n$INCLUDE loop"},
		{Name: "last", Text: "$INCLUDE none\n"}, {Name: "ok", Text: ""}}
	for _, c := range []struct {
		words string
		code  api.Errno
	}{
		{"", api.ErrText},
		{"f a b", api.ErrText},
		{`f "a"`, api.ErrText},
		{`"f" "a"`, api.ErrText},
		{"f a..b", api.ErrText},
		{"f " + strings.Repeat("a", 64), api.ErrLabel},
		{"f " + strings.Repeat("a.", 125) + "a", api.ErrLong},
		{"none", api.ErrFile},
		{"F", api.ErrFile},
		{`\f`, api.ErrFile},
		// the first of several
		{`none "a"`, api.ErrText},
		{`none a..b c`, api.ErrText},
		{"none " + strings.Repeat("a", 64), api.ErrLabel},
	} {
		fails(t, "\n$INCLUDE "+c.words, files, c.code, "", 2)
	}
	fails(t, "$INCLUDE f", nil, api.ErrFile, "", 1)
	fails(t, "\n\n$INCLUDE last", files, api.ErrFile, "last", 1)
	fails(t, "$INCLUDE loop", files, api.ErrDeep, "loop", 2)
}

// deep: files of which each opens the next one, so many within one another.
func deep(count int, last string) []api.File {
	var files []api.File
	for i := range count {
		text := "\n" + string(rune('a'+i)) + " 60 A 10.0.0.1\n"
		if i < count-1 {
			text += "$INCLUDE f" + string(rune('1'+i)) + "\n"
		} else {
			text += last
		}
		files = append(files, api.File{Name: "f" + string(rune('0'+i)), Text: text})
	}
	return files
}

// P4.3: at most four files within one another.
func TestIncludeDeep(t *testing.T) {
	want := []string{"a.ex. 60 A 10.0.0.1", "b.ex. 60 A 10.0.0.1", "c.ex. 60 A 10.0.0.1", "d.ex. 60 A 10.0.0.1"}
	// Files behind one another aren't within one another.
	parses(t, "$INCLUDE f0\n$INCLUDE f0", deep(4, ""), append(slices.Clone(want), want...)...)
	fails(t, "$INCLUDE f0", deep(5, ""), api.ErrDeep, "f3", 3)
	// Ahead of it the words are looked at, behind it the file's name.
	fails(t, "$INCLUDE f0", deep(4, "$INCLUDE none"), api.ErrDeep, "f3", 3)
	fails(t, "$INCLUDE f0", deep(4, "$INCLUDE none "+strings.Repeat("a", 64)), api.ErrLabel, "f3", 3)
	fails(t, "$INCLUDE f0", deep(4, "$INCLUDE"), api.ErrText, "f3", 3)
	fails(t, "$INCLUDE f0", deep(3, "$INCLUDE none"), api.ErrFile, "f2", 3)
}

// P4.3: at most a hundred files in all.
func TestIncludeMany(t *testing.T) {
	files := []api.File{
		{Name: "f", Text: ""},
		{Name: "ten", Text: strings.Repeat("$INCLUDE f\n", 9)},
		{Name: "bad", Text: "("},
		{Name: "loop", Text: "$INCLUDE loop"},
	}
	hundred := strings.Repeat("$INCLUDE f\n", api.MaxFiles)
	parses(t, hundred, files)
	fails(t, hundred+"$INCLUDE f", files, api.ErrMany, "", 101)
	parses(t, strings.Repeat("$INCLUDE ten\n", 10), files)
	fails(t, strings.Repeat("$INCLUDE ten\n", 10)+"$INCLUDE f", files, api.ErrMany, "", 11)
	fails(t, "$INCLUDE f\n"+strings.Repeat("$INCLUDE ten\n", 10), files, api.ErrMany, "ten", 9)
	// Behind a name that no file has, and ahead of the file's own faults.
	fails(t, hundred+"$INCLUDE none", files, api.ErrFile, "", 101)
	fails(t, hundred+"$INCLUDE bad", files, api.ErrMany, "", 101)
	fails(t, hundred[:len(hundred)-len("$INCLUDE f\n")]+"$INCLUDE bad", files, api.ErrEnd, "bad", 1)
	fails(t, hundred[:len(hundred)-4*len("$INCLUDE f\n")]+"$INCLUDE loop", files, api.ErrDeep, "loop", 1)
	fails(t, hundred[:len(hundred)-3*len("$INCLUDE f\n")]+"$INCLUDE loop", files, api.ErrMany, "loop", 1)
}

// P4.3: faults within a file have its name and its lines.
func TestIncludeFaultsWithin(t *testing.T) {
	files := []api.File{
		{Name: "quote", Text: "a\n\nb \"c"},
		{Name: "paren", Text: "FOO\n("},
		{Name: "type", Text: "\na 60\tA 10.0.0.1\n FOO"},
		{Name: "outer", Text: "\n\n\n$INCLUDE type"},
		{Name: "", Text: "\n\n)"},
	}
	fails(t, "$INCLUDE quote", files, api.ErrText, "quote", 3)
	fails(t, "$INCLUDE paren", files, api.ErrEnd, "paren", 2)
	fails(t, "\n\n\n\n$INCLUDE type", files, api.ErrType, "type", 3)
	fails(t, "\n\n\n\n$INCLUDE outer", files, api.ErrType, "type", 3)
	fails(t, `$INCLUDE ""`, files, api.ErrText, "", 3)
	// A file's entries are looked at where it is opened, those of the text ahead of all.
	fails(t, "a\n$INCLUDE paren", files, api.ErrEnd, "", 1)
	fails(t, "$INCLUDE type\n(", files, api.ErrEnd, "", 2)
	// A file that isn't opened tells no fault.
	parses(t, "a 60 A 10.0.0.1", files, "a.ex. 60 A 10.0.0.1")
}

// P4.3: the records of all files are counted.
func TestIncludeRecords(t *testing.T) {
	files := []api.File{{Name: "f", Text: strings.Repeat("a 60 A 10.0.0.1\n", 1001)}}
	fails(t, "$INCLUDE f\n$INCLUDE f", files, api.ErrMany, "f", 1000)
}

// Files are neither changed nor kept.
func TestIncludeFilesStay(t *testing.T) {
	room := []api.File{{Name: "f", Text: "a 60 A 10.0.0.1"}, {Name: "g", Text: "beyond"}}
	master.Parse("$INCLUDE f\n$INCLUDE g", ex, room[:1])
	if want := []api.File{{Name: "f", Text: "a 60 A 10.0.0.1"}, {Name: "g", Text: "beyond"}}; !slices.Equal(room, want) {
		t.Errorf("P2: Parse left the files %+v", room)
	}
	fails(t, "$INCLUDE g", room[:1], api.ErrFile, "", 1)
}
