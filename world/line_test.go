package world_test

import (
	"strings"
	"testing"

	"gazetteer/world"
)

func TestExamples(t *testing.T) {
	play(t, world.New(), `
> server a
10.0.0.1
ok
> load a ex. @ 60 IN SOA ns h 1 2 3 4 5|@ 60 IN NS ns|ns 60 IN A 10.0.0.1
ok
> ask a ns.ex. A -
rcode 0 aa
an ns.ex. 60 A 10.0.0.1
ok
> ask b ns.ex. A -
error 28
> change a ex. + x.ex. 60 TXT hi
rcode 0
ok
> ask a x.ex. TXT -
rcode 0 aa
an x.ex. 60 TXT "hi"
ok`)
}

// TestNew: there are no servers, and the clock is at 0.
func TestNew(t *testing.T) {
	play(t, world.New(), `
> show a ex.
error 28
> time 0
ok
> server a
10.0.0.1
ok
> show a ex.
error 28`)
	// Each world is one by itself.
	v, w := told("server a", "time 7", loading("a", "ex.", 1)), world.New()
	checkDo(t, w, "time 6", "ok")
	checkDo(t, w, "show a ex.", "error 28")
	checkDo(t, v, "time 6", "error 25")
}

// TestClockAtFirst: what counts from 0 on counts at once, what counts from 1 on
// doesn't.
func TestClockAtFirst(t *testing.T) {
	for from, want := range map[string]string{"0": "trust 1", "1": "trust 3"} {
		w := told("server a", loading("a", "ex.", 1), "sign a ex. 251 263 3 "+from+" 9", "anchor a ex.")
		checkDo(t, w, "judge a ns.ex. A", want, "ok")
	}
}

func TestWords(t *testing.T) {
	for line, want := range map[string]string{
		"":                      "error 2",
		" ":                     "error 2",
		"      ":                "error 2",
		"server b":              "ok",
		"  server   b  ":        "ok",
		"          server b":    "ok",
		"server b             ": "ok",
		"server\tb":             "error 2", // one word
		"server b\t":            "error 23",
		"\tserver b":            "error 2",
		"server\nb":             "error 2",
		"server\r b":            "error 2",
		"server\u00a0b":         "error 2", // a blank of another kind
		"server b\n":            "error 23",
		"\"server\" b":          "error 2",
		"Server b":              "error 2",
		"SERVER b":              "error 2",
		"serve b":               "error 2",
		"servers b":             "error 2",
		"b":                     "error 2",
		"ok":                    "error 2",
		"\x00":                  "error 2",
		"\xff\xfe \xff":         "error 2",
		"server \xff":           "error 23",
		"# server b":            "error 2",
		".. server b":           "error 2",
	} {
		w := told("server a")
		got := w.Do(line)
		if got[len(got)-1] != want {
			t.Errorf("P16.1: %q tells %q; wanted %s", line, got, want)
		}
		if len(got) > 1 && strings.HasPrefix(want, "error") {
			t.Errorf("P16.1: %q tells more than an error: %q", line, got)
		}
	}
}

// rightLines: one of each kind, in a world that ready gives; each would be
// wrong with a word less.
func rightLines() []string {
	return []string{
		"time 1", "server new", "load a ex. ;", "sign a ex. 251 263 3 0 9", "show a ex.", "ask a ns.ex. A -",
		"change a ex. + x.ex. 60 TXT hi", "change a ex. - x.ex. 60 TXT hi", "change a ex. = x.ex. 60 TXT hi", "copy a b ex.", "crash a",
		"rule a say x.ex. TXT hi", "rule a drop x.ex. TXT hi", "anchor a ex.", "judge a ns.ex. A",
	}
}

// ready gives a world with the servers a and b, of which a has a zone.
func ready() *world.World { return told("server a", "server b", loading("a", "ex.", 1)) }

// TestCount: with too few words, and with too many, a line is error 2.
func TestCount(t *testing.T) {
	for _, line := range rightLines() {
		words := strings.Fields(line)
		for count := range words {
			checkDo(t, ready(), strings.Join(words[:count], " "), "error 2")
		}
		want := "ok"
		if words[0] == "load" {
			want = "error 15" // a text of no record is no zone
		}
		if got := ready().Do(line); got[len(got)-1] != want {
			t.Errorf("P16.1: %q tells %q", line, got)
		}
		switch words[0] {
		case "load", "change", "rule":
		default:
			want = "error 2"
		}
		for _, more := range []string{" more", " more more more"} {
			if got := ready().Do(line + more); got[len(got)-1] != want {
				t.Errorf("P16.1: %q tells %q", line+more, got)
			}
		}
	}
	// The number of words goes ahead of words that are wrong.
	for _, line := range []string{
		"time x y", "server A B", "load c", "load c ..", "sign c .. x x x x", "sign c .. x x x x x x", "show c", "show c .. x",
		"ask c .. x", "ask c .. x x x", "change c .. x .. x x", "copy c d", "copy c d .. x", "crash c c",
		"rule c x .. x", "anchor c", "anchor c .. x", "judge c ..", "judge c .. x x",
	} {
		checkDo(t, ready(), line, "error 2")
	}
}

// TestNumbers: one to ten digits, and nothing else.
func TestNumbers(t *testing.T) {
	for _, c := range []struct {
		number string
		want   string
	}{
		{"0", "ok"}, {"1", "ok"}, {"42", "ok"}, {"0000000000", "ok"}, {"0000000001", "ok"}, {"4294967295", "ok"},
		{"00000000001", "error 23"}, {"00000000000", "error 23"}, {"12345678901", "error 23"}, {"42949672950", "error 23"},
		{"99999999999999999999999", "error 23"},
		{"+1", "error 23"}, {"-1", "error 23"}, {"-0", "error 23"}, {"1.", "error 23"}, {"1.0", "error 23"}, {"1e1", "error 23"},
		{"0x1", "error 23"}, {"1_0", "error 23"}, {"0b1", "error 23"}, {"1a", "error 23"}, {"a", "error 23"}, {"1m", "error 23"}, {"1,0", "error 23"},
		{"\u0663", "error 23"}, {"1\t", "error 23"}, {"\"1\"", "error 23"}, {"\\049", "error 23"}, {"\x001", "error 23"},
		{"4294967296", "error 25"}, {"9999999999", "error 25"},
	} {
		checkDo(t, world.New(), "time "+c.number, c.want)
		if c.want != "error 23" {
			continue
		}
		checkDo(t, ready(), "change a ex. + x.ex. "+c.number+" TXT hi", "error 23")
		checkDo(t, ready(), "change a ex. - x.ex. "+c.number+" TXT hi", "error 23")
		checkDo(t, ready(), "change a ex. = x.ex. "+c.number+" TXT hi", "error 23")
		for i := range 5 {
			words := strings.Fields("251 263 3 0 9")
			words[i] = c.number
			checkDo(t, ready(), "sign a ex. "+strings.Join(words, " "), "error 23")
		}
	}
}

// TestNames: an apex, a name and an owner are read by the root, with chapter
// 1's errors.
func TestNames(t *testing.T) {
	long := strings.Repeat("123456789.", 25)
	for _, c := range []struct {
		name string
		want string
	}{
		{"a..b", "error 2"}, {".a", "error 2"}, {"..", "error 2"}, {"\\", "error 2"}, {"\\256", "error 2"}, {"\\1", "error 2"},
		{strings.Repeat("x", 64), "error 3"}, {long + "1234", "error 4"},
	} {
		for _, line := range []string{
			"load a % x", "show a %", "sign a % 251 263 3 0 9", "ask a % A -", "change a % + x.ex. 60 TXT hi", "change a ex. + % 60 TXT hi",
			"change a ex. - % 60 TXT hi", "change a ex. = % 60 TXT hi", "copy a b %", "rule a say % TXT hi", "rule a drop % TXT hi", "anchor a %", "judge a % A",
		} {
			checkDo(t, ready(), strings.ReplaceAll(line, "%", c.name), c.want)
		}
	}
	// The root is the origin: a dot at the end, or none, are the same.
	for _, apex := range []string{"ex.", "ex", "\\101x", "e\\x."} {
		checkLast(t, ready(), "show a "+apex, "ns\t60\tIN\tA\t10.0.0.1")
	}
	for _, apex := range []string{"EX.", "eX", "E\\088."} {
		checkLast(t, ready(), "show a "+apex, "ns.ex.\t60\tIN\tA\t10.0.0.1")
	}
	w := told("server a", loading("a", ".", 3), loading("a", "org", 4))
	for apex, want := range map[string]string{".": "3", "@": "3", "org.": "4", "ORG": "4", "\\.": "", "rg": ""} {
		got := strings.Join(w.Do("show a "+apex), "\n")
		if (got != "error 28") != (want != "") || !strings.Contains(got, want+" 2 3 4 5") && want != "" {
			t.Errorf("P16.1: show a %s tells %s", apex, got)
		}
	}
	checkDo(t, ready(), "ask a "+long+"123 A -", "rcode 5", "ok")
	checkDo(t, ready(), "ask a NS.eX A -", "rcode 0 aa", "an ns.ex. 60 A 10.0.0.1", "ok")
	checkDo(t, ready(), "ask a @ A -", "rcode 5", "ok")
}

func TestTypes(t *testing.T) {
	for _, word := range []string{"B", "a1", "TYPE", "TYPE0", "TYPE65536", "TYPE000001", "1", "-", "TYPE+1", "A.", "*", "IN", "\"A\""} {
		for _, line := range []string{
			"ask a ns.ex. % -", "ask a ns.ex. % +", "change a ex. + x.ex. 60 % hi", "change a ex. - x.ex. 60 % hi", "change a ex. = x.ex. 60 % hi",
			"rule a say x.ex. % hi", "rule a *pass x.ex. % hi", "judge a ns.ex. %",
		} {
			checkDo(t, ready(), strings.ReplaceAll(line, "%", word), "error 6")
		}
	}
	for _, word := range []string{"A", "a", "TYPE1", "type1", "TYPE00001"} {
		checkDo(t, ready(), "ask a ns.ex. "+word+" -", "rcode 0 aa", "an ns.ex. 60 A 10.0.0.1", "ok")
		checkDo(t, ready(), "judge a ns.ex. "+word, "trust 0", "ok")
		checkDo(t, ready(), "change a ex. = ns.ex. 0 "+word+" x", "rcode 0", "ok")
		checkDo(t, ready(), "rule a say x. "+word+" 10.0.0.9", "ok")
	}
	// Types that aren't of data are types all the same.
	for word, rcode := range map[string]string{"OPT": "rcode 1", "AXFR": "rcode 5", "ixfr": "rcode 5", "TYPE254": "rcode 4", "TYPE128": "rcode 4"} {
		checkDo(t, ready(), "ask a ns.ex. "+word+" -", rcode, "ok")
		checkDo(t, ready(), "judge a ns.ex. "+word, "error 28")
		checkDo(t, ready(), "rule a nodata x. "+word+" x", "ok")
		checkDo(t, ready(), "rule a say x. "+word+" x", "error 6")
		checkDo(t, ready(), "change a ex. + x.ex. 60 "+word+" x", "error 6")
		checkDo(t, ready(), "change a ex. - x.ex. 60 "+word+" x", "error 6")
		checkDo(t, ready(), "change a ex. = x.ex. 60 "+word+" x", "rcode 1", "ok")
	}
}

// TestFirstWrong: of several words that are wrong the first from the left is
// told, and what the command says behind all of them.
func TestFirstWrong(t *testing.T) {
	long := strings.Repeat("x", 64)
	for _, c := range [][2]string{
		{"load c " + long + " x", "error 28"},
		{"load a " + long + " \"", "error 3"},
		{"load c ex. \"", "error 28"},
		{"sign c " + long + " x x x x x", "error 28"},
		{"sign a " + long + " x x x x x", "error 3"},
		{"sign a org. x 263 3 9 0", "error 23"},
		{"sign a org. 7 13 5 9 x", "error 23"},
		{"sign a org. 7 13 5 9 0", "error 28"},
		{"sign b ex. 7 13 5 9 0", "error 28"},
		{"sign a ex. 7 13 5 9 0", "error 24"},
		{"sign a ex. 251 263 3 9 0", "error 25"},
		{"show c " + long, "error 28"},
		{"show a " + long, "error 3"},
		{"ask c " + long + " B ?", "error 28"},
		{"ask a " + long + " B ?", "error 3"},
		{"ask a org. B ?", "error 6"},
		{"ask a org. A ?", "error 23"},
		{"change c " + long + " ? " + long + " x B x", "error 28"},
		{"change a " + long + " ? " + long + " x B x", "error 3"},
		{"change a org. ? " + long + " x B x", "error 23"},
		{"change a org. + " + long + " x B x", "error 3"},
		{"change a org. + x.org. x B x", "error 23"},
		{"change a org. + x.org. 60 B x", "error 6"},
		{"change a org. + x.org. 60 ANY x", "error 6"},
		{"change a org. + x.org. 60 A x", "error 2"},
		{"change a org. - x.org. 60 A x", "error 2"},
		{"change a org. - x.org. 60 NS " + long, "error 3"},
		{"change a org. + x.org. 60 A 10.0.0.1", "error 28"},
		{"change a org. - x.org. 60 A 10.0.0.1", "error 28"},
		{"change a org. = x.org. 60 A x", "error 28"},
		{"change b ex. ? x.ex. 60 A 10.0.0.1", "error 23"},
		{"change b ex. = x.ex. 60 A x", "error 28"},
		{"copy c d " + long, "error 28"},
		{"copy a d " + long, "error 28"},
		{"copy c a " + long, "error 28"},
		{"copy a b " + long, "error 3"},
		{"copy b a org.", "error 28"},
		{"crash c", "error 28"},
		{"rule c what " + long + " B x", "error 28"},
		{"rule a what " + long + " B x", "error 23"},
		{"rule a say " + long + " B x", "error 3"},
		{"rule a say x.ex. B x", "error 6"},
		{"rule a say x.ex. A x", "error 2"},
		{"rule a drop " + long + " B x", "error 3"},
		{"anchor c " + long, "error 28"},
		{"anchor a " + long, "error 3"},
		{"anchor a org.", "error 28"},
		{"judge c " + long + " B", "error 28"},
		{"judge a " + long + " B", "error 3"},
		{"judge a org. B", "error 6"},
		{"judge a org. A", "error 28"},
	} {
		checkDo(t, ready(), c[0], c[1])
	}
}
