package resolver

import (
	"gazetteer/api"
	"gazetteer/data"
	"gazetteer/name"
)

// search: one question under way.
type search struct {
	*Resolver
	net     api.Net
	now     int
	work    int                 // how often something was sent for it
	pending map[string]struct{} // the servers that are being looked for themselves, folded
}

// way: a zone, and the addresses of its servers.
type way struct {
	zone    string
	servers []string
}

// top: the way to the root. Its servers are those that were given, whatever
// the root itself tells of them.
func (s *search) top() way { return way{api.Root, s.roots} }

// find: what the zone that has a name says of it and a type; FoundNone if that
// doesn't come out.
func (s *search) find(n string, t int) api.Found {
	if f := s.recall(n, t); f.Kind != api.FoundNone {
		return f
	}
	w := s.nearest(n, t)
	f := s.walk(w, n, t)
	if f.Kind == api.FoundNone && w.zone != api.Root {
		// What is remembered of servers may have changed: the root knows.
		f = s.walk(s.top(), n, t)
	}
	return f
}

// nearest: the way to the lowest zone above a name whose servers are known.
func (s *search) nearest(n string, t int) way {
	zone := n
	if t == api.DS {
		// Those of a zone stand in the one above it.
		zone = name.Parent(n)
	}
	for ; name.Count(zone) > 0; zone = name.Parent(zone) {
		if w := s.wayTo(zone); len(w.servers) > 0 {
			return w
		}
	}
	return s.top()
}

// walk asks a zone's servers, and those to which they lead, until one knows.
// It ends, as each zone lies below the one ahead of it.
func (s *search) walk(w way, n string, t int) api.Found {
	for {
		f, below := s.step(w, n, t)
		if f.Kind != api.FoundReferral {
			return f
		}
		w = below
	}
}

// step: the first thing of use that one of a zone's servers says; if it leads
// to another zone, the way there.
func (s *search) step(w way, n string, t int) (api.Found, way) {
	for _, server := range w.servers {
		a := s.ask(w.zone, server, n, t)
		f := a.says(n, t)
		if f.Kind == api.FoundReferral {
			if below := s.enter(a, f); len(below.servers) > 0 {
				return f, below
			}
			continue
		}
		if a.TC {
			f = s.inPieces(w.zone, server, n, t)
		}
		if f.Kind != api.FoundNone {
			s.keep(n, t, f)
			return f, way{}
		}
	}
	return api.Found{}, way{}
}

// inPieces: what a server says of a name, where its answer, with all to which
// the name leads, had no room: that it is an alias, or grafted, has room alone.
func (s *search) inPieces(zone, server, n string, t int) api.Found {
	if t != api.CNAME && t != api.ANY {
		if f := s.ask(zone, server, n, api.CNAME).says(n, api.CNAME); f.Kind == api.FoundAnswer {
			return api.Found{Kind: api.FoundAlias, Records: f.Records}
		}
	}
	for labels := name.Count(zone) + 1; labels < name.Count(n); labels++ {
		above := name.Tail(n, labels)
		if f := s.ask(zone, server, above, api.DNAME).says(above, api.DNAME); f.Kind == api.FoundAnswer {
			return api.Found{Kind: api.FoundGraft, Records: f.Records}
		}
	}
	return api.Found{}
}

// enter: the way to the zone to which an answer leads. It has no servers if
// their addresses don't come out.
func (s *search) enter(a answer, f api.Found) way {
	addresses := a.addressesOf(f.Records)
	if len(addresses) == 0 {
		addresses = s.lookUp(f)
	}
	if len(addresses) == 0 {
		return way{}
	}
	return s.keepWay(f.Owner, f.Records, addresses)
}

// maxLookups: how many of a zone's servers are looked for, where nobody told
// an address of any.
const maxLookups = 5

// lookUp: the addresses of one of a zone's servers, looked for by its name.
func (s *search) lookUp(f api.Found) []api.Record {
	count := 0
	for _, ns := range f.Records {
		server := data.Target(ns)
		key := name.Fold(server)
		if _, again := s.pending[key]; again || name.Within(server, f.Owner) {
			// To ask for it would lead back here.
			continue
		}
		if count++; count > maxLookups {
			break
		}
		s.pending[key] = struct{}{}
		_, records := s.follow(server, api.A)
		delete(s.pending, key)
		if addresses := ofType(records, api.A); len(addresses) > 0 {
			return addresses
		}
	}
	return nil
}
