package cache_test

import (
	"math"
	"slices"
	"testing"

	"gazetteer/api"
	"gazetteer/cache"
)

func TestNote(t *testing.T) {
	c := newCache(10)
	given := list("www 60 A 10.0.0.1", "mail 30 MX 10 www", "www 60 A 10.0.0.1")
	if e := c.Note(n("ex."), 1, given, 100); e != api.OK {
		t.Fatalf("Note: %s", said(e))
	}
	clear(given)
	for now, want := range map[int]string{
		99:  "www.ex. 30 A 10.0.0.1 | mail.ex. 30 MX 10 www.ex. | www.ex. 30 A 10.0.0.1",
		100: "www.ex. 30 A 10.0.0.1 | mail.ex. 30 MX 10 www.ex. | www.ex. 30 A 10.0.0.1",
		129: "www.ex. 1 A 10.0.0.1 | mail.ex. 1 MX 10 www.ex. | www.ex. 1 A 10.0.0.1",
		130: "", -1: "", api.MaxTime + 1: "",
	} {
		got := c.Noted(n("EX."), 1, now)
		if tell(got) != want {
			t.Errorf("Noted at %d: %s; wanted %s", now, tell(got), want)
		}
		clear(got)
	}
	if len(c.Noted(n("ex."), 2, 100)) > 0 || len(c.Noted(n("www"), 1, 100)) > 0 || len(c.Noted("", 1, 100)) > 0 {
		t.Error("Noted: something is noted that wasn't")
	}
	// It stands apart from all else.
	run(t, "Note", c,
		"look 100 ex. A => nothing",
		"look 100 www A => nothing",
		"put 4 100 @ 60 A 10.0.0.9 => ok",
		"deny 100 @ - 60 60 ex. => ok",
		"look 100 @ A => no name",
		"size 100 => 2",
	)
	if len(c.Noted(n("ex."), 1, 100)) != 3 {
		t.Error("Noted: it has gone with what else was known")
	}
	if e := c.Note(n("ex."), 1, list("b 20 A 10.0.0.2"), 110); e != api.OK || tell(c.Noted(n("ex."), 1, 110)) != "b.ex. 20 A 10.0.0.2" {
		t.Errorf("Note: another doesn't take its place: %s", said(e))
	}
	if e := c.Note(n("ex."), 1, list("b 0 A 10.0.0.2"), 110); e != api.OK || len(c.Noted(n("ex."), 1, 110)) > 0 {
		t.Errorf("Note: without any age it stays: %s", said(e))
	}
}

func TestNoteWrong(t *testing.T) {
	right := list("www A 10.0.0.1")
	old := slices.Clone(right)
	old[0].TTL = math.MaxInt
	for _, c := range []struct {
		about   string
		cache   *cache.Cache
		n       string
		records []api.Record
		now     int
		want    api.Errno
	}{
		{"no cache", nil, n("ex."), right, 100, api.ErrNone},
		{"an empty cache", &cache.Cache{}, n("ex."), right, 100, api.ErrNone},
		{"too early", newCache(10), n("ex."), right, -1, api.ErrArg},
		{"too late", newCache(10), n("ex."), right, api.MaxTime + 1, api.ErrArg},
		{"no name", newCache(10), "ex.", right, 100, api.ErrName},
		{"nothing", newCache(10), n("ex."), nil, 100, api.ErrForm},
		{"what is no record", newCache(10), n("ex."), append(slices.Clone(right), api.Record{}), 100, api.ErrForm},
		{"an age that is none", newCache(10), n("ex."), old, 100, api.ErrForm},
	} {
		if e := c.cache.Note(c.n, 1, c.records, c.now); e != c.want || len(c.cache.Noted(c.n, 1, 100)) > 0 {
			t.Errorf("Note, %s: %s, wanted %s", c.about, said(e), said(c.want))
		}
	}
}

// TestNoteRoom: notes have no room of their own.
func TestNoteRoom(t *testing.T) {
	c := newCache(2)
	c.Note(n("a"), 1, list("x 50 A 10.0.0.1"), 100)
	c.Note(n("b"), 1, list("x 40 A 10.0.0.1"), 100)
	run(t, "Note", c, "put 4 100 www 60 A 10.0.0.1 => ok", "size 100 => 2", "look 100 www A => set 4: www.ex. 60 A 10.0.0.1")
	if len(c.Noted(n("a"), 1, 100)) != 1 || len(c.Noted(n("b"), 1, 100)) != 0 {
		t.Error("Note: not the one goes that ends first")
	}
	c.Note(n("b"), 1, list("x 45 A 10.0.0.1"), 100)
	if len(c.Noted(n("b"), 1, 100)) != 0 || c.Size(100) != 2 {
		t.Error("Note: there are more than may be")
	}
}
