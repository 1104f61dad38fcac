package cache_test

import (
	"slices"
	"strconv"
	"strings"
	"testing"

	"gazetteer/cache"
)

// live tells which of the names a, b, c .. of ex. are known at a time, by a
// set, a lack or a void of A.
func live(c *cache.Cache, now int) string {
	var names []string
	for letter := 'a'; letter <= 'z'; letter++ {
		if do(c, "look "+strconv.Itoa(now)+" "+string(letter)+" A") != "nothing" {
			names = append(names, string(letter))
		}
	}
	return strings.Join(names, " ")
}

// come writes the calls by which entries come: "a 60" is a set, "a- 60" a lack,
// "a! 60" a void.
func come(now int, entries ...string) []string {
	var lines []string
	for _, e := range entries {
		what, age, _ := strings.Cut(e, " ")
		at := strconv.Itoa(now)
		switch owner := what[:1]; what[1:] {
		case "-":
			lines = append(lines, "deny "+at+" "+owner+" A "+age+" "+age+" ex. => ok")
		case "!":
			lines = append(lines, "deny "+at+" "+owner+" - "+age+" "+age+" ex. => ok")
		default:
			lines = append(lines, "put 3 "+at+" "+owner+" "+age+" A 10.0.0.1 => ok")
		}
	}
	return lines
}

func TestPushedOut(t *testing.T) {
	for _, c := range []struct {
		what  string
		lines []string
		now   int
		want  string
	}{
		{"as many", come(100, "a 60", "b 60", "c 60"), 100, "a b c"},
		{"the one that ends first", come(100, "a 61", "b 60", "c 62", "d 63"), 100, "a c d"},
		{"one behind the other", come(100, "a 61", "b 60", "c 62", "d 63", "e 64"), 100, "c d e"},
		{"the one that has come", come(100, "a 61", "b 62", "c 63", "d 60"), 100, "a b c"},
		{"several that end at once", come(100, "b 60", "a 60", "c 60", "d 60"), 100, "a c d"},
		{"again", come(100, "b 60", "a 60", "c 60", "d 60", "e 60"), 100, "c d e"},
		{"at once with the one that has come", come(100, "b 61", "a 60", "c 61", "d 60"), 100, "b c d"},
		{"at once, though it came at another time", slices.Concat(come(100, "b 60"), come(110, "a 50", "c 50"), come(90, "d 70")), 110, "a c d"},
		{"anew", come(100, "a 60", "b 60", "c 60", "a 60", "d 60"), 100, "a c d"},
		{"anew with the same", come(100, "a 60", "b 60", "c 60", "A 60", "b 60", "d 60"), 100, "a b d"},
		{"anew in place, and there is room", come(100, "a 60", "b 60", "c 60", "a 70", "b 50", "c 70"), 100, "a b c"},
		{"anew with another end", come(100, "a 60", "b 62", "c 63", "a 65", "d 64"), 100, "a c d"},
		{"all kinds", come(100, "a! 63", "b- 60", "c 62", "d 61"), 100, "a c d"},
		{"a lack", come(100, "a 63", "b- 60", "c 62", "d! 61"), 100, "a c d"},
		{"a void", come(100, "a- 63", "b! 60", "c 62", "d- 61"), 100, "a c d"},
		{"a void that comes", come(100, "a- 63", "b 61", "c 62", "d! 60"), 100, "a b c"},
		{"a lack that comes", come(100, "a! 63", "b 61", "c 62", "d- 60"), 100, "a b c"},
		{"the lack in the place of a set", come(100, "a 60", "b 60", "c 60", "a- 60"), 100, "a b c"},
		{"the set in the place of a lack", come(100, "a- 60", "b 60", "c 60", "a 60"), 100, "a b c"},
		{"the set in the place of a void", come(100, "a! 60", "b 60", "c 60", "a 60"), 100, "a b c"},
		{"the void in the place of a set", come(100, "a 60", "b 60", "c 60", "a! 60"), 100, "a b c"},
		{"anew in the place of another kind", come(100, "a 60", "b 60", "c 60", "a! 60", "d 60"), 100, "a c d"},
		{"nothing comes", append(come(100, "a 60", "b 60", "c 60"), come(100, "d 0", "e- 0", "f! 0")...), 100, "a b c"},
	} {
		one := newCache(3)
		run(t, "P12.6", one, c.lines...)
		if got := live(one, c.now); got != c.want || one.Size(c.now) != 3 {
			t.Errorf("P12.6, %s: %s are there (%d); wanted %s", c.what, got, one.Size(c.now), c.want)
		}
	}
}

// TestEndedFirst: those that aren't alive go first, all of them; and they stay
// while there is room.
func TestEndedFirst(t *testing.T) {
	c := newCache(3)
	run(t, "P12.6", c, come(100, "a 10", "b! 20", "c 100")...)
	for _, l := range []struct {
		now  int
		want string
	}{{100, "a b c"}, {110, "b c"}, {120, "c"}, {200, ""}, {109, "a b c"}} {
		if got := live(c, l.now); got != l.want {
			t.Errorf("P12.6: at %d %s; wanted %s", l.now, got, l.want)
		}
	}
	// There is room in the place of c, so that all stay.
	run(t, "P12.6", c, come(150, "c 50")...)
	if got := live(c, 100); got != "a b c" {
		t.Errorf("P12.6: something went though there was room: %s stay", got)
	}
	// Both that aren't alive go, though one would be enough.
	run(t, "P12.6", c, come(120, "d 5")...)
	if got := live(c, 100); got != "c d" || c.Size(0) != 2 {
		t.Errorf("P12.6: %s stay", got)
	}
	run(t, "P12.6", c, come(120, "e 90", "f 90")...)
	if got := live(c, 120); got != "c e f" {
		t.Errorf("P12.6: %s stay", got)
	}
	// At an earlier time what has ended since is alive, and what ends first goes.
	c = newCache(3)
	run(t, "P12.6", c, slices.Concat(come(100, "a 10"), come(150, "b 10", "c 20"), come(90, "d 100"))...)
	if got := live(c, 90); got != "b c d" {
		t.Errorf("P12.6: %s stay", got)
	}
	// The second at which one ends.
	c = newCache(2)
	run(t, "P12.6", c, slices.Concat(come(100, "a 10", "b 20"), come(120, "c 5"))...)
	if got := live(c, 100); got != "c" {
		t.Errorf("P12.6: %s stay", got)
	}
	c = newCache(2)
	run(t, "P12.6", c, slices.Concat(come(100, "a 10", "b 20"), come(119, "c 5"))...)
	if got := live(c, 100); got != "b c" {
		t.Errorf("P12.6: %s stay", got)
	}
}

// TestGoesAhead: what goes with a set or an absence has gone ahead of the
// counting, so that nothing else is pushed out.
func TestGoesAhead(t *testing.T) {
	run(t, "P12.6", newCache(3),
		"deny 100 ex. - 60 60 ex. => ok",
		"deny 100 www A 70 70 ex. => ok",
		"put 3 100 org. 50 A 10.0.0.1 => ok",
		// The lack and the void go, and the set is one more.
		"put 3 100 www 80 A 10.0.0.2 => ok",
		"look 100 org. A => set 3: org. 50 A 10.0.0.1",
		"size 100 => 2")
	run(t, "P12.6", newCache(3),
		"put 3 100 org. 50 A 10.0.0.1 => ok",
		"put 3 100 www 80 A 10.0.0.2 => ok",
		"deny 100 x.www MX 60 60 ex. => ok",
		"deny 100 ex. - 60 60 ex. => ok",
		"look 100 org. A => set 3: org. 50 A 10.0.0.1",
		"size 100 => 2")
	run(t, "P12.6", newCache(2),
		"deny 100 ex. - 10 10 ex. => ok",
		"put 3 100 org. 50 A 10.0.0.1 => ok",
		"put 3 100 www 80 A 10.0.0.2 => ok",
		"look 100 org. A => set 3: org. 50 A 10.0.0.1",
		"size 100 => 2")
}

// TestProofsPushedOut: behind each proof.
func TestProofsPushedOut(t *testing.T) {
	c := newCache(2)
	run(t, "P12.6", c,
		"put 3 100 www 55 A 10.0.0.1 => ok",
		"prove 100 ex. a 50 NSEC b A | c 60 NSEC d A | e 52 NSEC f A => ok",
		"look 100 a MX => nothing",
		"look 100 c MX => no data",
		"look 100 e MX => nothing",
		"look 100 www A => set 3: www.ex. 55 A 10.0.0.1",
		"size 100 => 2",
		// One of no age pushes nothing out, and takes its own away.
		"prove 100 ex. x 0 NSEC y A => ok",
		"size 100 => 2",
		"prove 100 ex. c 0 NSEC d A => ok",
		"size 100 => 1")
	// Counted once behind all of them, y would stay.
	run(t, "P12.6", newCache(2),
		"prove 100 ex. a 60 NSEC b A | c 70 NSEC d A | y 55 NSEC z A | c 0 NSEC d A => ok",
		"look 100 a MX => no data",
		"look 100 y MX => nothing",
		"size 100 => 1")
	// What isn't alive goes first, of proofs too.
	run(t, "P12.6", newCache(3),
		"prove 100 ex. a 10 NSEC b A | c 20 NSEC d A | e 100 NSEC f A => ok",
		"prove 120 ex. g 5 NSEC h A => ok",
		"size 100 => 2",
		"look 120 e MX => no data",
		"look 120 g MX => no data",
		"look 100 a MX => nothing",
		"look 100 c MX => nothing")
	// One apex's last proof is pushed out, and the one above it tells.
	run(t, "P12.6", newCache(2),
		"prove 100 a x.a 10 NSEC z.a A => ok",
		"prove 100 ex. ex. NSEC ex. NS SOA => ok",
		"look 100 w.a A => nothing",
		"put 1 100 www 60 A 10.0.0.1 => ok",
		"look 100 w.a A => no name",
		"size 100 => 2")
}

// TestAlone: one entry at a time.
func TestAlone(t *testing.T) {
	c := newCache(1)
	run(t, "P12.6", c, slices.Concat(come(100, "a 60"), []string{"size 100 => 1"}, come(100, "b 59"), []string{"look 100 b A => nothing"},
		come(100, "b 60"), []string{"look 100 a A => nothing"}, come(158, "c 1"), []string{"look 158 c A => nothing"}, come(160, "c 1"), []string{
			"look 160 c A => set 3: c.ex. 1 A 10.0.0.1",
			"prove 160 ex. a 1 NSEC b A | c 1 NSEC d A => ok",
			"look 160 c A => nothing",
			"look 160 a MX => nothing",
			"look 160 c MX => no data",
			"size 160 => 1",
		})...)
}

// TestFull: a great one stays full, and keeps what ends last.
func TestFull(t *testing.T) {
	const most = 5000
	c := newCache(most)
	set := list("h A 10.0.0.1")
	for i := range 2 * most {
		set[0].Owner, set[0].TTL = n("h"+strconv.Itoa(i)), 1+(i*7919)%(2*most)
		if e := c.Put(set, 3, 100); e != 0 {
			t.Fatalf("P12.2: %s", said(e))
		}
	}
	// Of the ages 1 to 10000, each of which came once, the greatest stay.
	if c.Size(100) != most || c.Size(100+most) != most || c.Size(100+most+1) != most-1 || c.Size(100+2*most-1) != 1 || c.Size(100+2*most) != 0 {
		t.Errorf("P12.6: of %d sizes %d, %d, %d, %d", 2*most, c.Size(100), c.Size(100+most), c.Size(100+most+1), c.Size(100+2*most-1))
	}
}
