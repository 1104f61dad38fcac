package world

import (
	"gazetteer/api"
	"gazetteer/name"
	"gazetteer/transfer"
	"gazetteer/update"
	"gazetteer/zone"
)

// server: its zones, in the order in which they came, and its rules.
type server struct {
	name  string
	zones []*held
	rules []api.Rule
}

// held: a zone as a server has it.
type held struct {
	history *transfer.History
	keeper  *update.Keeper // of the newest
}

// holdAnew: without anything of what was ahead.
func holdAnew(k *update.Keeper) *held { return &held{transfer.NewHistory(k.Zone()), k} }

// maxZones: the most that a server has.
const maxZones = 20

// find: what the server has of an apex; nil if it hasn't.
func (s *server) find(apex string) *held {
	for _, h := range s.zones {
		if name.Equal(h.history.Zone().Apex(), apex) {
			return h
		}
	}
	return nil
}

// newest: its zones as they are now.
func (s *server) newest() []*zone.Zone {
	var list []*zone.Zone
	for _, h := range s.zones {
		list = append(list, h.history.Zone())
	}
	return list
}

// newestOf: the one of an apex; nil if it has none.
func (s *server) newestOf(apex string) *zone.Zone {
	h := s.find(apex)
	if h == nil {
		return nil
	}
	return h.history.Zone()
}

// get: the server gets a zone.
func (s *server) get(z *zone.Zone) api.Errno {
	h := s.find(z.Apex())
	switch {
	case h == nil && len(s.zones) == maxZones:
		return api.ErrMany
	case h == nil:
		s.zones = append(s.zones, holdAnew(update.New(z)))
	case h.history.Add(z) == api.OK:
		h.keeper = update.New(z)
	default:
		// It isn't newer: nobody who has one of those ahead can come to it
		// by steps.
		*h = *holdAnew(update.New(z))
	}
	return api.OK
}

// do: the code that answers an update, which is done.
func (h *held) do(m api.Message) int {
	answer := h.keeper.Do(m)
	// What has changed has a newer serial; what hasn't isn't added.
	h.history.Add(h.keeper.Zone())
	return answer.Rcode
}

// crash: nothing is left but the journal.
func (h *held) crash() {
	if k, ok := update.Open(h.keeper.Journal()); ok {
		*h = *holdAnew(k)
	}
}
