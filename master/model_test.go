package master_test

import (
	"fmt"
	"math/big"
	"math/rand"
	"reflect"
	"regexp"
	"slices"
	"strings"
	"testing"

	"gazetteer/api"
	"gazetteer/data"
	"gazetteer/master"
	"gazetteer/name"
)

// A second reckoning of the chapter, by patterns and without care for work,
// held against the package by texts of chance.

var (
	digitsPattern = regexp.MustCompile(`^[0-9]{1,10}$`)
	groupsPattern = regexp.MustCompile(`^(?:[0-9]{1,10}[wdhmsWDHMS])+$`)
	groupPattern  = regexp.MustCompile(`([0-9]+)([wdhmsWDHMS])`)
)

func modelSeconds(text string) (int, bool) {
	sum := new(big.Int)
	add := func(digits string, size int64) {
		n, _ := new(big.Int).SetString(digits, 10)
		sum.Add(sum, n.Mul(n, big.NewInt(size)))
	}
	switch {
	case digitsPattern.MatchString(text):
		add(text, 1)
	case groupsPattern.MatchString(text):
		for _, group := range groupPattern.FindAllStringSubmatch(text, -1) {
			add(group[1], map[string]int64{"w": 604800, "d": 86400, "h": 3600, "m": 60, "s": 1}[strings.ToLower(group[2])])
		}
	default:
		return 0, false
	}
	if sum.Cmp(big.NewInt(2147483647)) > 0 {
		return 0, false
	}
	return int(sum.Int64()), true
}

func TestModelSeconds(t *testing.T) {
	r := rand.New(rand.NewSource(41))
	pieces := []string{"0", "1", "9", "12", "007", "2147483647", "9999999999", "00000000000", "w", "d", "h", "m", "s", "W", "D", "H", "M", "S", "y", "-", " "}
	for range 100000 {
		var text string
		for range r.Intn(7) {
			text += pieces[r.Intn(len(pieces))]
		}
		want, wanted := modelSeconds(text)
		if got, ok := master.Seconds(text); got != want || ok != wanted {
			t.Fatalf("Seconds(%q) = %d, %v; wanted %d, %v", text, got, ok, want, wanted)
		}
	}
}

// tokenPattern: what stands at a place outside of words, in the order of trial.
var tokenPattern = regexp.MustCompile(`^(?s)(?:` +
	`([ \t\r]+)` + // 1: blanks
	`|(;[^\n]*)` + // 2: a remark
	`|"((?:\\[^\n]|[^"\\\n])*)"` + // 3: a word in quotes
	`|((?:\\[^\n]|[^\\ \t\r\n;()"])+)` + // 4: a word
	`|(\n)|(\()|(\)))`) // 5, 6, 7

// modelEntries: entries by tokens. The line is counted anew for each of them.
func modelEntries(text string) ([]api.Entry, api.Fault) {
	var list []api.Entry
	var words []api.Word
	begin, open := 0, -1
	lineOf := func(at int) int { return 1 + strings.Count(text[:at], "\n") }
	finish := func(next int) {
		if len(words) > 0 {
			list = append(list, api.Entry{Line: lineOf(begin), Blank: strings.Contains(" \t\r", text[begin:begin+1]), Words: words})
		}
		words, begin = nil, next
	}
	for at := 0; at < len(text); {
		m := tokenPattern.FindStringSubmatchIndex(text[at:])
		if m == nil {
			return nil, api.Fault{Code: api.ErrText, Line: lineOf(at)}
		}
		next := at + m[1]
		switch {
		case m[6] >= 0:
			words = append(words, api.Word{Text: text[at+m[6] : at+m[7]], Quoted: true})
		case m[8] >= 0:
			// A pattern may take less than the whole word, if a "\" ends it.
			if next < len(text) && text[next] == '\\' {
				return nil, api.Fault{Code: api.ErrText, Line: lineOf(next)}
			}
			words = append(words, api.Word{Text: text[at+m[8] : at+m[9]]})
		case m[10] >= 0 && open < 0:
			finish(next)
		case m[12] >= 0 && open >= 0, m[14] >= 0 && open < 0:
			return nil, api.Fault{Code: api.ErrText, Line: lineOf(at)}
		case m[12] >= 0:
			open = at
		case m[14] >= 0:
			open = -1
		}
		at = next
	}
	if open >= 0 {
		return nil, api.Fault{Code: api.ErrEnd, Line: lineOf(open)}
	}
	if begin < len(text) {
		finish(len(text))
	}
	return list, api.Fault{}
}

func TestModelEntries(t *testing.T) {
	r := rand.New(rand.NewSource(42))
	pieces := []string{"a", "bc", "\n", "\n", " ", "\t", "\r", ";", "(", ")", `"`, `\`, `\"`, `"x"`, "(\n)", "\xff", "$"}
	for range 200000 {
		var text string
		for range r.Intn(12) {
			text += pieces[r.Intn(len(pieces))]
		}
		want, fault := modelEntries(text)
		got, f := master.Entries(text)
		if f != fault || len(got) != len(want) || len(got) > 0 && !reflect.DeepEqual(got, want) {
			t.Fatalf("Entries(%q) = %+v, %+v; wanted %+v, %+v", text, got, f, want, fault)
		}
	}
}

// modelKept: what is kept; ages are texts, "" for none.
type modelKept struct {
	origin, owner, usual, last string
}

type modelParser struct {
	files   []api.File
	opened  int
	records []api.Record
}

// all reads a file, and tells what is kept behind it, or the fault.
func (p *modelParser) all(k modelKept, file, text string, depth int) (modelKept, api.Fault) {
	list, fault := modelEntries(text)
	if fault.Code != api.OK {
		fault.File = file
		return k, fault
	}
	for _, e := range list {
		next, f := p.one(k, e, depth)
		if f.Code != api.OK {
			if f.Line == 0 {
				f.File, f.Line = file, e.Line
			}
			return k, f
		}
		k = next
	}
	return k, api.Fault{}
}

func (p *modelParser) one(k modelKept, e api.Entry, depth int) (modelKept, api.Fault) {
	bad := func(code api.Errno) (modelKept, api.Fault) { return k, api.Fault{Code: code} }
	w := e.Words
	if e.Blank || w[0].Quoted || w[0].Text[0] != '$' {
		return p.record(k, w, e.Blank)
	}
	switch strings.ToLower(w[0].Text) {
	case "$origin":
		if len(w) != 2 || w[1].Quoted {
			return bad(api.ErrText)
		}
		n, _, code := name.Read(w[1].Text, k.origin)
		k.origin = n
		return bad(code)
	case "$ttl":
		if len(w) != 2 || w[1].Quoted {
			return bad(api.ErrText)
		}
		if _, ok := modelSeconds(w[1].Text); !ok {
			return bad(api.ErrText)
		}
		k.usual = w[1].Text
		return bad(api.OK)
	case "$include":
		return p.include(k, w, depth)
	case "$generate":
		return p.generate(k, w)
	}
	return bad(api.ErrText)
}

func (p *modelParser) include(k modelKept, w []api.Word, depth int) (modelKept, api.Fault) {
	bad := func(code api.Errno) (modelKept, api.Fault) { return k, api.Fault{Code: code} }
	inside := k
	if len(w) < 2 || len(w) > 3 || len(w) == 3 && w[2].Quoted {
		return bad(api.ErrText)
	}
	if len(w) == 3 {
		n, _, code := name.Read(w[2].Text, k.origin)
		if code != api.OK {
			return bad(code)
		}
		inside.origin = n
	}
	if depth+1 > 4 {
		return bad(api.ErrDeep)
	}
	for _, f := range p.files {
		if f.Name != w[1].Text {
			continue
		}
		if p.opened >= 100 {
			return bad(api.ErrMany)
		}
		p.opened++
		_, fault := p.all(inside, f.Name, f.Text, depth+1)
		return k, fault
	}
	return bad(api.ErrFile)
}

var (
	rowPattern  = regexp.MustCompile(`^([0-9]{1,10})-([0-9]{1,10})(?:/([0-9]{1,10}))?$`)
	fillPattern = regexp.MustCompile(`(?s)\\.|\$\{(-?[0-9]{1,10})(?:,([0-9]{1,2}))?\}|\$\{|\$`)
)

func modelNumber(digits string) int {
	var n int
	fmt.Sscanf(digits, "%d", &n)
	return n
}

func modelFill(text string, n int) (string, bool) {
	right := true
	filled := fillPattern.ReplaceAllStringFunc(text, func(piece string) string {
		if piece[0] == '\\' {
			return piece
		}
		m := fillPattern.FindStringSubmatch(piece)
		sum, width := n, 0
		if piece != "$" {
			right = right && m[1] != ""
			sum += modelNumber(m[1])
			width = modelNumber("0" + m[2])
		}
		right = right && sum >= 0
		return fmt.Sprintf("%0*d", width, sum)
	})
	return filled, right
}

func (p *modelParser) generate(k modelKept, w []api.Word) (modelKept, api.Fault) {
	if len(w) < 5 || w[1].Quoted {
		return k, api.Fault{Code: api.ErrText}
	}
	m := rowPattern.FindStringSubmatch(w[1].Text)
	if m == nil {
		return k, api.Fault{Code: api.ErrText}
	}
	a, b, s := modelNumber(m[1]), modelNumber(m[2]), 1
	if m[3] != "" {
		s = modelNumber(m[3])
	}
	if a > b || s < 1 || b > 2147483647 || s > 2147483647 {
		return k, api.Fault{Code: api.ErrText}
	}
	for n := a; n <= b; n += s {
		var words []api.Word
		for _, word := range w[2:] {
			text, ok := modelFill(word.Text, n)
			if !ok {
				return k, api.Fault{Code: api.ErrText}
			}
			words = append(words, api.Word{Text: text, Quoted: word.Quoted})
		}
		next, f := p.record(k, words, false)
		if f.Code != api.OK {
			return k, f
		}
		k = next
	}
	return k, api.Fault{}
}

func (p *modelParser) record(k modelKept, w []api.Word, blank bool) (modelKept, api.Fault) {
	bad := func(code api.Errno) (modelKept, api.Fault) { return k, api.Fault{Code: code} }
	if !blank {
		if w[0].Quoted {
			return bad(api.ErrText)
		}
		n, _, code := name.Read(w[0].Text, k.origin)
		if code != api.OK {
			return bad(code)
		}
		k.owner, w = n, w[1:]
	}
	if k.owner == "" {
		return bad(api.ErrNone)
	}
	// Class and age: at most one of each, so at most two words.
	classes, age := 0, ""
	for range 2 {
		if len(w) == 0 || w[0].Quoted {
			break
		}
		if _, ok := modelSeconds(w[0].Text); ok && age == "" {
			age, w = w[0].Text, w[1:]
		} else if strings.EqualFold(w[0].Text, "IN") && classes == 0 {
			classes, w = 1, w[1:]
		}
	}
	if len(w) == 0 {
		return bad(api.ErrEnd)
	}
	if w[0].Quoted {
		return bad(api.ErrText)
	}
	typ := data.TypeOf(w[0].Text)
	d, _, code := data.Read(typ, w[1:], k.origin)
	if code != api.OK {
		return bad(code)
	}
	if age != "" {
		k.last = age
	}
	ttl, found := 0, false
	for _, text := range []string{age, k.usual, k.last} {
		if text != "" && !found {
			ttl, found = modelSeconds(text)
		}
	}
	if !found {
		return bad(api.ErrTtl)
	}
	p.records = append(p.records, api.Record{Owner: k.owner, Type: typ, Class: 1, TTL: ttl, Data: d})
	if len(p.records) > 2000 {
		return bad(api.ErrMany)
	}
	return bad(api.OK)
}

func modelParse(text, origin string, files []api.File) ([]api.Record, api.Fault) {
	p := &modelParser{files: files}
	if _, f := p.all(modelKept{origin: origin}, "", text, 0); f.Code != api.OK {
		return nil, f
	}
	return p.records, api.Fault{}
}

// someWord: a word of chance, rather right than wrong.
func someWord(r *rand.Rand, right ...string) string {
	wrong := []string{"", `""`, `"a"`, `"$"`, "x..y", "${", "${1", "(", "\n ", "$", "IN", "60", "FOO", `\300`, "${-1}", ";"}
	if r.Intn(40) == 0 {
		return wrong[r.Intn(len(wrong))]
	}
	return right[r.Intn(len(right))]
}

func someHead(r *rand.Rand) string {
	return someWord(r, "", "", "", "60", "IN", "1h", "in 5", "7 IN", "0") + " "
}

func someData(r *rand.Rand) string {
	switch r.Intn(6) {
	case 0:
		return someWord(r, "A", "a", "TYPE1") + " " + someWord(r, "10.0.0.1", "1.2.3.4", `\# 4 01020304`)
	case 1:
		return someWord(r, "NS", "PTR") + " " + someWord(r, "a", "b.c.", "@", ".")
	case 2:
		return someWord(r, "TXT") + " " + someWord(r, "a", `"b c"`, `"\""`, "(a\nb)") + " " + someWord(r, "", "c", `"$"`)
	case 3:
		return someWord(r, "MX") + " " + someWord(r, "10", "0") + " " + someWord(r, "a", "b.")
	case 4:
		return someWord(r, "TYPE731") + " " + someWord(r, `\# 0`, `\# 1 ab`)
	}
	return someWord(r, "SOA") + " " + someWord(r, "ns") + " root (1 2\n3 4" + someWord(r, " 5)", ";\n5)")
}

func someLine(r *rand.Rand) string {
	switch r.Intn(14) {
	case 0:
		return someWord(r, "$ORIGIN", "$origin") + " " + someWord(r, "a", "b", "c.", "@", ".")
	case 1:
		return someWord(r, "$TTL", "$ttl") + " " + someWord(r, "5", "1h", "0")
	case 2, 3:
		return someWord(r, "$INCLUDE", "$Include") + " " + someWord(r, "f", "g", `"h"`, "f a", "g b.", "h @", "f", "g", "i")
	case 4, 5:
		return someWord(r, "$GENERATE") + " " + someWord(r, "1-3", "0-4/2", "7-7") + " " +
			someWord(r, "h$", "$.a", "${1,2}", "@", `\$$`) + " " + someHead(r) + someWord(r, "A 10.0.0.$", "TXT $ \"${2}\"", "NS ${-0,3}", "TYPE${731} \\# 0")
	case 6:
		return someWord(r, "", ";a", " ", " ; (")
	case 7, 8, 9:
		return someWord(r, " ", "\t") + someHead(r) + someData(r)
	}
	return someWord(r, "a", "b.c", "@", "d.", `e\.f`) + " " + someHead(r) + someData(r)
}

func someText(r *rand.Rand, most int) string {
	var text strings.Builder
	for range r.Intn(most + 1) {
		text.WriteString(someLine(r) + someWord(r, "\n", "\n", "\r\n", " ; x\n"))
	}
	return text.String()
}

func TestModelParse(t *testing.T) {
	r := rand.New(rand.NewSource(43))
	codes := map[api.Errno]int{}
	deep := 0
	for range 60000 {
		files := []api.File{{Name: "f", Text: someText(r, 3)}, {Name: "g", Text: someText(r, 3)}, {Name: "h", Text: someText(r, 2)}, {Name: "f", Text: "x"}}
		text := someText(r, 6)
		want, fault := modelParse(text, ex, files)
		got, f := master.Parse(text, ex, files)
		if f != fault || !slices.Equal(got, want) {
			t.Fatalf("Parse(%q, %+v) = %q, %+v; wanted %q, %+v", text, files, toldAll(got), f, toldAll(want), fault)
		}
		codes[f.Code]++
		if f.File != "" {
			deep++
		}
		if f.Code == api.OK {
			reprints(t, got)
		}
	}
	for _, code := range []api.Errno{api.OK, api.ErrText, api.ErrType, api.ErrEnd, api.ErrFile, api.ErrDeep, api.ErrTtl, api.ErrNone} {
		if codes[code] < 50 {
			t.Errorf("the texts of chance told %d only %d times", code, codes[code])
		}
	}
	if deep < 50 {
		t.Errorf("the texts of chance had only %d faults within files", deep)
	}
}

// modelPrint: the file by the chapter's words, the owner's end by its labels.
func modelPrint(records []api.Record, origin string) string {
	text := "$ORIGIN " + name.Show(origin) + "\n"
	for i, r := range records {
		owner := name.Show(r.Owner)
		labels, ends := name.Labels(r.Owner), name.Labels(origin)
		if k := len(labels) - len(ends); k >= 0 && slices.Equal(labels[k:], ends) {
			n, _ := name.Join(labels[:k])
			shown := name.Show(n)
			owner = shown[:len(shown)-1]
		}
		if r.Owner == origin {
			owner = "@"
		}
		if i > 0 && records[i-1].Owner == r.Owner {
			owner = ""
		}
		d, _ := data.Show(r.Type, r.Data)
		text += fmt.Sprintf("%s\t%d\tIN\t%s\t%s\n", owner, r.TTL, data.TypeName(r.Type), d)
	}
	return text
}

// reprints: records are told as the chapter says, and what is told is these.
func reprints(t *testing.T, records []api.Record) {
	t.Helper()
	for _, origin := range []string{ex, api.Root, "\x01a\x02ex\x00"} {
		want := modelPrint(records, origin)
		got, e := master.Print(records, origin)
		if got != want || e != api.OK {
			t.Fatalf("Print(%+v, %q) = %q, %d; wanted %q", records, origin, got, e, want)
		}
		if back, f := master.Parse(got, origin, nil); f.Code != api.OK || !slices.Equal(back, records) {
			t.Fatalf("Parse(%q) = %+v, %+v; wanted %+v", got, back, f, records)
		}
	}
}
