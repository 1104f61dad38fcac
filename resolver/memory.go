package resolver

import (
	"gazetteer/api"
	"gazetteer/name"
)

// What is noted beside what servers said of a name and a type.
const (
	serversNote = iota // of a zone: the addresses of its servers
	wholeNote          // of a name: all its records
)

// recall: what is remembered of a name and a type; FoundNone if that isn't
// enough.
func (s *search) recall(n string, t int) api.Found {
	if f := s.recallGraft(n); f.Kind != api.FoundNone {
		return f
	}
	if t == api.ANY {
		if records := s.memory.Noted(n, wholeNote, s.now); len(records) > 0 {
			return api.Found{Kind: api.FoundAnswer, Records: records}
		}
	}
	known := s.memory.Look(n, t, s.now)
	switch {
	case known.Kind == api.KnowSet:
		return api.Found{Kind: api.FoundAnswer, Records: known.Records}
	case known.Kind == api.KnowAlias && t != api.ANY:
		return api.Found{Kind: api.FoundAlias, Records: known.Records}
	case known.Kind == api.KnowNoData:
		return api.Found{Kind: api.FoundNoData}
	case known.Kind == api.KnowNoName:
		return api.Found{Kind: api.FoundNoName}
	}
	return api.Found{}
}

// recallGraft: where a name above n is grafted, if that is remembered.
func (s *search) recallGraft(n string) api.Found {
	for above := name.Parent(n); above != ""; above = name.Parent(above) {
		if known := s.memory.Look(above, api.DNAME, s.now); known.Kind == api.KnowSet {
			return api.Found{Kind: api.FoundGraft, Records: known.Records}
		}
	}
	return api.Found{}
}

// wayTo: the way to a zone that is believed, or remembered. It has no servers
// if there is none.
func (s *search) wayTo(zone string) way {
	if w, ok := s.believed[name.Fold(zone)]; ok {
		return w
	}
	return way{zone, dataOf(s.memory.Noted(zone, serversNote, s.now))}
}

func dataOf(records []api.Record) []string {
	var list []string
	for _, r := range records {
		list = append(list, r.Data)
	}
	return list
}

// keep: what was said of a name and a type is remembered.
func (s *search) keep(n string, t int, f api.Found) {
	switch {
	case f.Kind == api.FoundNoData:
		s.memory.Deny(n, t, f.Records[0], s.now)
	case f.Kind == api.FoundNoName:
		s.memory.Deny(n, 0, f.Records[0], s.now)
	case f.Kind == api.FoundAnswer && t == api.ANY:
		s.memory.Note(n, wholeNote, f.Records, s.now)
	default:
		s.memory.Put(f.Records, api.RankOwn, s.now)
	}
}

// keepWay: which addresses the servers of a zone have is believed, and
// remembered for as long as both may be: who they are, and where. (Such
// addresses are told for this zone's sake alone: of those of the same name that
// are told with another zone they know nothing.)
func (s *search) keepWay(zone string, servers, addresses []api.Record) way {
	age := api.MaxTTL
	for _, r := range servers {
		age = min(age, r.TTL)
	}
	var note []api.Record
	seen := make(map[string]struct{})
	for _, r := range addresses {
		if _, again := seen[r.Data]; again {
			continue
		}
		seen[r.Data] = struct{}{}
		r.TTL = min(age, r.TTL)
		note = append(note, r)
	}
	s.memory.Note(zone, serversNote, note, s.now)
	w := way{zone, dataOf(note)}
	s.believed[name.Fold(zone)] = w
	return w
}
