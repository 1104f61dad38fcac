package world_test

import (
	"slices"
	"strconv"
	"strings"
	"testing"

	"gazetteer/world"
)

// play tells a world the lines of a text that begin with "> ", and holds what
// is answered against the lines behind each.
func play(t *testing.T, w *world.World, text string) {
	t.Helper()
	for _, part := range strings.Split("\n"+strings.TrimSpace(text), "\n> ")[1:] {
		line, answer, _ := strings.Cut(part, "\n")
		checkDo(t, w, line, strings.Split(answer, "\n")...)
	}
}

func checkDo(t *testing.T, w *world.World, line string, want ...string) {
	t.Helper()
	if got := w.Do(line); !slices.Equal(got, want) {
		t.Errorf("P16.1: %q tells\n%s\nwanted\n%s", line, strings.Join(got, "\n"), strings.Join(want, "\n"))
	}
}

// checkLast: a line that isn't wrong, of whose answers the last but ok is
// looked at.
func checkLast(t *testing.T, w *world.World, line, want string) {
	t.Helper()
	got := w.Do(line)
	if len(got) < 2 || got[len(got)-1] != "ok" || got[len(got)-2] != want {
		t.Errorf("P16.1: %q tells\n%s\nwanted, as its last line, %s", line, strings.Join(got, "\n"), want)
	}
}

// tell tells lines of which none is wrong, and gives the last answer.
func tell(w *world.World, lines ...string) []string {
	var last []string
	for _, line := range lines {
		last = w.Do(line)
		if last[len(last)-1] != "ok" {
			panic(line + ": " + last[0])
		}
	}
	return last
}

// told gives a world to which lines have been told.
func told(lines ...string) *world.World {
	w := world.New()
	tell(w, lines...)
	return w
}

// loading gives the line by which a server gets a zone of one serial, with a
// server of its own and further lines.
func loading(server, apex string, serial int, lines ...string) string {
	head := []string{"$TTL 60", "@ SOA ns h " + strconv.Itoa(serial) + " 2 3 4 5", "@ NS ns", "ns A 10.0.0.1"}
	return "load " + server + " " + apex + " " + strings.Join(append(head, lines...), "|")
}

// many are hosts that make a zone longer than two messages of a copy.
const many = "$GENERATE 1-40 h$ A 10.0.1.$"

// show gives what is shown of a zone, without ok.
func show(w *world.World, server, apex string) []string {
	lines := w.Do("show " + server + " " + apex)
	return lines[:len(lines)-1]
}

// again gives the line that loads what was shown.
func again(server, apex string, lines []string) string {
	return "load " + server + " " + apex + " " + strings.ReplaceAll(strings.Join(lines, "|"), "\t", " ")
}
