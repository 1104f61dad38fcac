package resolver

import (
	"gazetteer/api"
	"gazetteer/data"
	"gazetteer/name"
)

// chain: what answers a question so far, name by name.
type chain struct {
	records []api.Record
	stands  map[data.Sense]struct{}
	looked  map[string]struct{} // the names that were looked for, folded
}

func newChain() *chain {
	return &chain{stands: make(map[data.Sense]struct{}), looked: make(map[string]struct{})}
}

// follow looks for a name, and for those to which it leads, as a server that
// had all zones would. It gives the code and the records of the answer.
func (s *search) follow(n string, t int) (int, []api.Record) {
	c := newChain()
	for range 1 + api.MaxChain {
		if !c.begin(n) {
			break
		}
		f := s.find(n, t)
		switch f.Kind {
		case api.FoundAnswer:
			c.put(f.Records...)
			return api.NoError, c.records
		case api.FoundAlias:
			c.put(f.Records...)
			n = f.Records[0].Data
		case api.FoundGraft:
			c.put(f.Records...)
			to, e := name.Graft(n, f.Records[0].Owner, f.Records[0].Data)
			if e != api.OK {
				return api.YxDomain, c.records
			}
			c.put(api.Record{Owner: n, Type: api.CNAME, Class: api.IN, TTL: f.Records[0].TTL, Data: to})
			n = to
		case api.FoundNoData:
			return api.NoError, c.records
		case api.FoundNoName:
			return api.NxDomain, c.records
		default:
			return api.ServFail, nil
		}
	}
	return api.NoError, c.records
}

// begin: a name is looked for; false if it was already.
func (c *chain) begin(n string) bool {
	key := name.Fold(n)
	_, again := c.looked[key]
	c.looked[key] = struct{}{}
	return !again
}

// put lays records behind the others, but those like one that stands there.
func (c *chain) put(records ...api.Record) {
	for _, r := range records {
		sense := data.SenseOf(r)
		if _, ok := c.stands[sense]; ok {
			continue
		}
		c.stands[sense] = struct{}{}
		c.records = append(c.records, r)
	}
}
