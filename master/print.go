package master

import (
	"strconv"
	"strings"

	"gazetteer/api"
	"gazetteer/data"
	"gazetteer/name"
)

// Print: a file that tells these records.
func Print(records []api.Record, origin string) (string, api.Errno) {
	if name.Check(origin) != api.OK {
		return "", api.ErrName
	}
	if len(records) > api.MaxRecords {
		return "", api.ErrMany
	}
	var text strings.Builder
	text.WriteString("$ORIGIN " + name.Show(origin) + "\n")
	last := "" // no name: the first record has no owner ahead of it
	for _, r := range records {
		if !data.IsRecord(r) {
			return "", api.ErrForm
		}
		if r.Owner != last {
			text.WriteString(showOwner(r.Owner, origin))
			last = r.Owner
		}
		d, _ := data.Show(r.Type, r.Data)
		for _, word := range []string{strconv.Itoa(r.TTL), "IN", data.TypeName(r.Type), d} {
			text.WriteString("\t" + word)
		}
		text.WriteString("\n")
	}
	return text.String(), api.OK
}

// showOwner: an owner below the origin, in the same letters, without it.
func showOwner(owner, origin string) string {
	if owner == origin {
		return "@"
	}
	if name.Tail(owner, name.Count(origin)) != origin {
		return name.Show(owner)
	}
	ahead := owner[:len(owner)-len(origin)] + api.Root
	return strings.TrimSuffix(name.Show(ahead), ".")
}
