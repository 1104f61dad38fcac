package master_test

import (
	"strings"
	"testing"

	"gazetteer/api"
	"gazetteer/master"
)

// P4.3: a record for each number of a row.
func TestGenerateRow(t *testing.T) {
	for row, want := range map[string]string{
		"1-3":                     "1 2 3",
		"0-0":                     "0",
		"7-7/1":                   "7",
		"1-9/3":                   "1 4 7",
		"1-10/3":                  "1 4 7 10",
		"5-6/2147483647":          "5",
		"0000000008-0010/0000001": "8 9 10",
		"2147483645-2147483647":   "2147483645 2147483646 2147483647",
		"0-2147483647/2147483647": "0 2147483647",
		"0-2147483646/2147483646": "0 2147483646",
	} {
		var all []string
		for _, n := range strings.Fields(want) {
			all = append(all, "h"+n+".ex. 60 TXT \""+n+"\"")
		}
		parses(t, "$generate "+row+" h$ 60 TXT $", nil, all...)
	}
	for _, row := range []string{
		"1", "1-", "-1", "-", "1-2/", "1-2/0", "2-1", "1-2-3", "1-2/1/1", "1/2-3", "a-b", "1-b", "1-2/c", "1,2", "+1-2", "1-+2", "--1", "1--2",
		"00000000001-2", "1-00000000002", "1-2/00000000001", "1-2147483648", "2147483648-2147483648", "1-2/2147483648", "1-9999999999",
		"$-2", "0x1-2", `1\-2`, `"1-2"`, `""`,
	} {
		fails(t, "\n$GENERATE "+row+" h$ 60 A 10.0.0.1", nil, api.ErrText, "", 2)
	}
	fails(t, `$GENERATE 1 -2 60 A 10.0.0.1`, nil, api.ErrText, "", 1)
}

// P4.3: how many words, ahead of the row.
func TestGenerateWords(t *testing.T) {
	for _, words := range []string{"", "1-2", "1-2 h", "1-2 h A", "1-2 h FOO", `1-2 "h" A`, "2-1 h A"} {
		fails(t, "\n\n$GENERATE "+words, nil, api.ErrText, "", 3)
	}
	parses(t, "$GENERATE 1-1 h 60 TYPE731 \\# 0", nil, `h.ex. 60 TYPE731 \# 0`)
	fails(t, "$GENERATE 1-1 h 60 A", nil, api.ErrText, "", 1)
	fails(t, "$GENERATE 1-1 h 60 IN", nil, api.ErrEnd, "", 1)
	fails(t, "$GENERATE 1-1 h IN A", nil, api.ErrText, "", 1)
	fails(t, "$GENERATE 1-1 h FOO bar", nil, api.ErrType, "", 1)
}

// P4.3: the number in a word.
func TestGenerateFill(t *testing.T) {
	for _, c := range [][2]string{
		{"$", "7"},
		{"$$", "77"},
		{"a$b$c", "a7b7c"},
		{"$7", "77"},
		{"none", "none"},
		{"${0}", "7"},
		{"${1}", "8"},
		{"${-7}", "0"},
		{"${-0}", "7"},
		{"${0000000001}", "8"},
		{"${9999999999}", "10000000006"},
		{"${0,0}", "7"},
		{"${0,1}", "7"},
		{"${0,2}", "07"},
		{"${0,03}", "007"},
		{"${3,02}", "10"},
		{"${93,2}", "100"},
		{"${-7,3}", "000"},
		{"${1,99}", strings.Repeat("0", 98) + "8"},
		{"x${1}y${2,2}z$", "x8y09z7"},
		{"${1}}", "8}"},
		{"{$}", "{7}"},
		{"$}", "7}"},
		{"$x{1}", "7x{1}"},
		{"$$${1}$", "7787"},
		{`\065$`, `A7`},
		{`$\065`, `7A`},
	} {
		want := `h.ex. 60 TXT "` + c[1] + `"`
		parses(t, `$GENERATE 7-7 h 60 TXT `+c[0], nil, want)
		parses(t, `$GENERATE 7-7 h 60 TXT "`+c[0]+`"`, nil, want)
	}
}

// P4.3: a "\" and the byte behind it stay.
func TestGenerateStays(t *testing.T) {
	parses(t, `$GENERATE 7-7 \$$ 60 TXT a\$b$ \\$ \\\$ \${x} \$${1} "\$" "\"$" \\\\${0}`, nil,
		`\$7.ex. 60 TXT "a$b7" "\\7" "\\$" "${x}" "$8" "$" "\"7" "\\\\7"`)
}

// P4.3: what isn't such a "${", number by number, ahead of the record's faults.
func TestGenerateFillWrong(t *testing.T) {
	for _, word := range []string{
		"${", "${}", "${1", "${1,", "${1,}", "${,1}", "${,}", "${a}", "${1a}", "${1,a}", "${1,100}", "${1,001}", "${1,-1}", "${1,2,3}", "${1,2,}",
		"${+1}", "${--1}", "${-}", "${-,1}", "${1-}", "${00000000001}", "${-00000000001}", "${$}", "${1,$}", `${1\}`, `${\1}`, "x${1}${", "${1;2}",
		"${-8}", "${-8,2}", "${-9999999999}",
	} {
		for _, text := range []string{"h 60 TXT a " + word, word + " 60 TXT a", "h " + word + " TXT a", "h 60 " + word + " a", `h 60 TXT "` + word + `"`, `"h" FOO ` + word} {
			if strings.Contains(word, ";") && !strings.Contains(text, `"`+word) {
				continue
			}
			fails(t, "\n$GENERATE 7-7 "+text, nil, api.ErrText, "", 2)
		}
	}
	// The first number for which it is wrong ends it; those ahead of it are told first.
	parses(t, "$GENERATE 3-4 h${-3} 60 A 10.0.0.1", nil, "h0.ex. 60 A 10.0.0.1", "h1.ex. 60 A 10.0.0.1")
	fails(t, "$GENERATE 2-4 h${-3} 60 FOO 10.0.0.1", nil, api.ErrText, "", 1)
	fails(t, "$GENERATE 3-4 h${-3} 60 FOO 10.0.0.1", nil, api.ErrType, "", 1)
	fails(t, "$GENERATE 255-256 h 60 A 10.0.0.$", nil, api.ErrText, "", 1)
	fails(t, "$GENERATE 0-1 h 60 TYPE$ \\# ${0}", nil, api.ErrType, "", 1)
}

// P4.3: what is generated is a record like others, with its owner.
func TestGenerateRecord(t *testing.T) {
	parses(t, lines("$ORIGIN o", "$GENERATE 1-2 a$ $ iN A 10.0.0.$", " A 10.0.0.3", "b A 10.0.0.4", "$GENERATE 5-5 @ IN NS a$"), nil,
		"a1.o.ex. 1 A 10.0.0.1", "a2.o.ex. 2 A 10.0.0.2", "a2.o.ex. 2 A 10.0.0.3", "b.o.ex. 2 A 10.0.0.4", "o.ex. 2 NS a5.o.ex.")
	parses(t, `$GENERATE 1-2 $ ${1}m TXT "a $" $ "\"$"`, nil, `1.ex. 120 TXT "a 1" "1" "\"1"`, `2.ex. 180 TXT "a 2" "2" "\"2"`)
	parses(t, `$GENERATE 1-2 $. 60 TYPE${15} \# 1 00`, nil, `1. 60 TXT ""`, `2. 60 TYPE17 \# 1 00`)
}

// P4.3: the faults of what is generated are those of a record.
func TestGenerateRecordWrong(t *testing.T) {
	for text, code := range map[string]api.Errno{
		`"h$" 60 A 10.0.0.1`:                           api.ErrText,
		"h$..a 60 A 10.0.0.1":                          api.ErrText,
		strings.Repeat("a", 63) + "$ 60 A 10.0.0.1":    api.ErrLabel,
		strings.Repeat("a.", 125) + "a$ 60 A 10.0.0.1": api.ErrLong,
		"h$ 60 IN 60":                                  api.ErrType,
		"h$ 60 60 A 10.0.0.1":                          api.ErrType,
		`h$ 60 "A" 10.0.0.1`:                           api.ErrText,
		`h$ "60" A 10.0.0.1`:                           api.ErrText,
		"h$ 60 A 10.0.0.0$":                            api.ErrText,
		`h$ 60 A "10.0.0.$"`:                           api.ErrText,
		"h$ A 10.0.0.1":                                api.ErrTtl,
		`h$ 60 A \# 3 00000$`:                          api.ErrData,
	} {
		fails(t, "\n$GENERATE 1-2 "+text, nil, code, "", 2)
	}
}

// P4.3: no more than 2000 come out, however long the row is.
func TestGenerateMany(t *testing.T) {
	got, f := master.Parse("$GENERATE 1-2000 h$ 60 A 10.0.0.1", ex, nil)
	if len(got) != api.MaxRecords || f != (api.Fault{}) || told(got[1999]) != "h2000.ex. 60 A 10.0.0.1" {
		t.Errorf("P4.3: 2000 generated records: %d, %+v", len(got), f)
	}
	fails(t, "$GENERATE 1-2001 h$ 60 A 10.0.0.1", nil, api.ErrMany, "", 1)
	fails(t, "a 60 A 10.0.0.1\n$GENERATE 1-2000 h$ 60 A 10.0.0.1", nil, api.ErrMany, "", 2)
	fails(t, "\n$GENERATE 0-2147483647 h$ 60 A 10.0.0.1", nil, api.ErrMany, "", 2)
	fails(t, "\n$GENERATE 0-2001 h${-2001} 60 A 10.0.0.1", nil, api.ErrText, "", 2)
}
