package data_test

import (
	"encoding/binary"
	"math/rand"
	"slices"
	"strconv"
	"strings"
	"testing"

	"gazetteer/api"
	"gazetteer/data"
)

// namedForm: the fields of a type, in the words of the chapter's table.
func namedForm(typ int) ([]string, bool) {
	form, ok := map[int]string{
		1: "ip4", 2: "name", 5: "name", 12: "name", 39: "name", 6: "name name n32 n32 n32 n32 n32", 13: "text text",
		15: "n16 name", 16: "texts", 28: "ip6", 33: "n16 n16 n16 name", 35: "n16 n16 text text text name",
		43: "n16 n8 n8 hex", 46: "type n8 n8 n32 n32 n32 n16 name base64", 47: "name types", 48: "n16 n8 n8 base64",
		50: "n8 n8 n16 salt hash types", 51: "n8 n8 n16 salt", 257: "n8 text tail",
	}[typ]
	return strings.Fields(form), ok
}

// ends: where a field that begins d may end, in the chapter's words; at most one place.
func ends(field, d string) (int, bool) {
	fixed := map[string]int{"n8": 1, "n16": 2, "n32": 4, "ip4": 4, "ip6": 16, "type": 2}
	counted := func() (int, bool) { return 1 + int((d + "\x00")[0]), d != "" && 1+int(d[0]) <= len(d) }
	switch field {
	case "name":
		at := 0
		for at < len(d) && 0 < d[at] && d[at] < 64 {
			at += 1 + int(d[at])
		}
		return at + 1, at < len(d) && d[at] == 0 && at+1 <= 255
	case "text", "salt":
		return counted()
	case "hash":
		at, ok := counted()
		return at, ok && at > 1
	case "texts":
		for rest := d; ; {
			at, ok := ends("text", rest)
			if !ok {
				return 0, false
			}
			if rest = rest[at:]; rest == "" {
				return len(d), true
			}
		}
	case "hex", "base64":
		return len(d), d != ""
	case "tail":
		return len(d), true
	case "types":
		return len(d), wellFormedSet(d)
	case "type":
		return 2, len(d) >= 2 && d[:2] != "\x00\x00"
	}
	return fixed[field], fixed[field] <= len(d)
}

func wellFormedSet(d string) bool {
	for before := -1; d != ""; {
		if len(d) < 3 || int(d[0]) <= before || d[1] < 1 || d[1] > 32 || len(d) < 2+int(d[1]) {
			return false
		}
		bits := d[2 : 2+int(d[1])]
		if strings.HasSuffix(bits, "\x00") || d[0] == 0 && bits[0] >= 128 {
			return false
		}
		before, d = int(d[0]), d[2+len(bits):]
	}
	return true
}

// wellFormed is Check in another way.
func wellFormed(form []string, d string) bool {
	if len(d) > 65535 {
		return false
	}
	for _, field := range form {
		at, ok := ends(field, d)
		if !ok {
			return false
		}
		d = d[at:]
	}
	return d == ""
}

// randomField makes a field that is right.
func randomField(r *rand.Rand, field string) string {
	some := func(least, most int) string { return randomBytes(r, least+r.Intn(most-least+1)) }
	count := func(b string) string { return string([]byte{byte(len(b))}) + b }
	switch field {
	case "n8":
		return some(1, 1)
	case "n16":
		return some(2, 2)
	case "n32", "ip4":
		return some(4, 4)
	case "ip6":
		b := []byte(some(16, 16))
		for i := range b {
			b[i] *= byte(r.Intn(4) / 3 * r.Intn(2))
		}
		return string(b)
	case "name":
		n := ""
		for range r.Intn(4) {
			n += count(some(1, 20))
		}
		return n + "\x00"
	case "text", "salt":
		return count(some(0, 30))
	case "hash":
		return count(some(1, 30))
	case "texts":
		return count(some(0, 30)) + strings.Repeat(count(some(0, 5)), r.Intn(3))
	case "type":
		return string(binary.BigEndian.AppendUint16(nil, uint16(1+r.Intn(65535))))
	case "types":
		var list []int
		for range r.Intn(8) {
			list = append(list, r.Intn(1<<(1+r.Intn(16))))
		}
		return data.Set(list)
	case "tail":
		return some(0, 40)
	}
	return some(1, 40)
}

func namedTypes() []int {
	var list []int
	for typ := range 65536 {
		if _, ok := namedForm(typ); ok {
			list = append(list, typ)
		}
	}
	return list
}

func randomData(r *rand.Rand, typ int) string {
	form, _ := namedForm(typ)
	d := ""
	for _, field := range form {
		d += randomField(r, field)
	}
	return d
}

// spoil changes a byte or more, takes some away or puts some in.
func spoil(r *rand.Rand, d string) string {
	at := r.Intn(len(d) + 1)
	to := min(len(d), at+r.Intn(3))
	return d[:at] + randomBytes(r, r.Intn(3)) + d[to:]
}

// What is told is read back, of every type; what is spoiled is refused just where it must be.
func TestShowIsReadBack(t *testing.T) {
	r := rand.New(rand.NewSource(4))
	for _, typ := range namedTypes() {
		form, _ := namedForm(typ)
		for range 200 {
			d := randomData(r, typ)
			refused(t, typ, d, true)
			line, _ := data.Show(typ, d)
			list := words(line)
			kept := slices.Clone(list)
			if got, at, e := data.Read(typ, list, ex); got != d || at != 0 || e != api.OK {
				t.Errorf("P2.5 Read(%d, %q) = %q, %d, %d; wanted %q", typ, line, got, at, e, d)
			}
			if !slices.Equal(list, kept) {
				t.Errorf("P2 Read changed its words to %+v", list)
			}
			raw := `\# ` + strconv.Itoa(len(d)) + " " + hexOf(d)
			if got, at, e := data.Read(typ, words(raw), ex); got != d || at != 0 || e != api.OK {
				t.Errorf("P2.5 Read(%d, %q) = %q, %d, %d; wanted %q", typ, raw, got, at, e, d)
			}
			for range 5 {
				bad := spoil(r, d)
				right := wellFormed(form, bad)
				refused(t, typ, bad, right)
				rawGot, at, e := data.Read(typ, words(`\# `+strconv.Itoa(len(bad))+" "+hexOf(bad)), ex)
				if right && (rawGot != bad || e != api.OK) || !right && (rawGot != "" || e != api.ErrData) || at != 0 {
					t.Errorf("P2.5 Read(%d) of the bytes %q = %q, %d, %d", typ, bad, rawGot, at, e)
				}
			}
		}
	}
}

func TestFoldAndNamesOfRandomData(t *testing.T) {
	r := rand.New(rand.NewSource(5))
	for _, typ := range namedTypes() {
		form, _ := namedForm(typ)
		for range 100 {
			var d, folded string
			var names []string
			for _, field := range form {
				b := randomField(r, field)
				d += b
				if field == "name" {
					names = append(names, b)
					b = smallLetters(b)
				}
				folded += b
			}
			if got := data.Fold(typ, d); got != folded {
				t.Errorf("P2.7 Fold(%d, %q) = %q; wanted %q", typ, d, got, folded)
			}
			if got := data.Names(typ, d); !slices.Equal(got, names) {
				t.Errorf("P2.7 Names(%d, %q) = %q; wanted %q", typ, d, got, names)
			}
		}
	}
}

// smallLetters is chapter 1's folding, in another way.
func smallLetters(n string) string {
	b := []byte(n)
	for i := range b {
		if 'A' <= b[i] && b[i] <= 'Z' {
			b[i] |= 32
		}
	}
	return string(b)
}
