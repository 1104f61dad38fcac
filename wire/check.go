package wire

import (
	"gazetteer/api"
	"gazetteer/data"
	"gazetteer/name"
)

// Check: is it a message?
func Check(m api.Message) api.Errno {
	right := hasRoom(m.ID, 16) && hasRoom(m.Opcode, 4) && hasRoom(m.Rcode, 4) && hasRoom(len(m.Questions), 16)
	for _, section := range sectionsOf(&m) {
		right = right && hasRoom(len(*section), 16)
	}
	if !right || !rightParts(&m) {
		return api.ErrForm
	}
	return api.OK
}

// hasRoom: is n a number of so many bits?
func hasRoom(n, bits int) bool { return n>>bits == 0 }

func rightParts(m *api.Message) bool {
	for _, q := range m.Questions {
		if !rightHead(q) {
			return false
		}
	}
	for _, section := range sectionsOf(m) {
		for _, r := range *section {
			if !rightHead(api.Question{Name: r.Owner, Type: r.Type, Class: r.Class}) || !hasRoom(r.TTL, 32) || !rightData(r) {
				return false
			}
		}
	}
	return true
}

// rightHead: is a question, or what a record begins with, right?
func rightHead(q api.Question) bool {
	return name.Check(q.Name) == api.OK && hasRoom(q.Type, 16) && hasRoom(q.Class, 16)
}

func rightData(r api.Record) bool {
	switch {
	case r.Type == api.OPT:
		return len(r.Data) <= api.MaxData
	case r.Data == "" && (r.Class == api.ClsNone || r.Class == api.ClsAny):
		return true
	}
	return data.Check(r.Type, r.Data) == api.OK
}
