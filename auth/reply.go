package auth

import (
	"slices"

	"gazetteer/api"
	"gazetteer/data"
	"gazetteer/name"
	"gazetteer/proof"
	"gazetteer/spell"
	"gazetteer/zone"
)

// reply: an answer under way, to a question that is gone into.
type reply struct {
	api.Message
	zones  []*zone.Zone
	typ    int  // that is asked for
	proofs bool // are they wanted?
	stands map[data.Sense]struct{}
	looked map[string]struct{} // the names that were looked for, folded
}

func newReply(zones []*zone.Zone, answer api.Message, proofs bool) *reply {
	return &reply{
		Message: answer,
		zones:   zones,
		typ:     answer.Questions[0].Type,
		proofs:  proofs,
		stands:  make(map[data.Sense]struct{}),
		looked:  make(map[string]struct{}),
	}
}

// whole: the answer with all that is to be said.
func (r *reply) whole() api.Message {
	r.AA = true
	r.follow(r.Questions[0].Name)
	r.addAddresses()
	return r.Message
}

// follow looks for a name, and for those to which it leads.
func (r *reply) follow(n string) {
	for range 1 + api.MaxChain {
		z := Has(r.zones, n, r.typ)
		_, again := r.looked[name.Fold(n)]
		if z == nil || again {
			return
		}
		r.looked[name.Fold(n)] = struct{}{}
		n = r.look(z, n)
	}
}

// look tells what z says of a name. It gives the name to which that leads; ""
// if it leads nowhere, which no zone has.
func (r *reply) look(z *zone.Zone, n string) string {
	f := z.Find(n, r.typ)
	next := ""
	switch f.Kind {
	case api.FoundAnswer:
		// Of ANY and RRSIG the signatures are among what is found.
		r.putFound(&r.Answers, z, f)
	case api.FoundAlias:
		r.putFound(&r.Answers, z, f)
		next = f.Records[0].Data
	case api.FoundGraft:
		r.putFound(&r.Answers, z, f)
		next = r.graft(n, f)
	case api.FoundReferral:
		r.refer(z, f)
	case api.FoundNoData, api.FoundNoName:
		r.deny(z, f.Kind)
	}
	r.prove(z, n)
	return next
}

// graft tells the alias that a grafted name has, and gives what it stands for.
func (r *reply) graft(n string, f api.Found) string {
	dname := f.Records[0]
	to, e := name.Graft(n, f.Owner, dname.Data)
	if e != api.OK {
		r.Rcode = api.YxDomain
		return ""
	}
	r.put(&r.Answers, api.Record{Owner: n, Type: api.CNAME, Class: api.IN, TTL: dname.TTL, Data: to})
	return to
}

// refer tells who has a name that z leaves to others.
func (r *reply) refer(z *zone.Zone, f api.Found) {
	r.AA = len(r.looked) > 1
	r.put(&r.Authority, f.Records...)
	if r.proofs {
		r.putSets(&r.Authority, z, z.Set(f.Owner, api.DS)...)
	}
	for _, ns := range f.Records {
		// At a name outside of z nothing stands in z.
		target := data.Target(ns)
		r.put(&r.Additional, z.Set(target, api.A)...)
		r.put(&r.Additional, z.Set(target, api.AAAA)...)
	}
}

// deny tells that z hasn't what is looked for.
func (r *reply) deny(z *zone.Zone, kind int) {
	if kind == api.FoundNoName {
		r.Rcode = api.NxDomain
	}
	soa := z.Set(z.Apex(), api.SOA)[0]
	soa.TTL = data.AgeOfAbsence(soa)
	r.putSets(&r.Authority, z, soa)
}

// prove tells the proofs that go with what z says of a name, if they are
// wanted and there are some. (With a referral's DS none go.)
func (r *reply) prove(z *zone.Zone, n string) {
	if r.proofs {
		proofs, _ := proof.Make(z, n, r.typ)
		r.putSets(&r.Authority, z, proofs...)
	}
}

// addAddresses tells where the servers are that the answers name.
func (r *reply) addAddresses() {
	for _, record := range r.Answers {
		target := data.Target(record)
		r.addAddress(target, api.A)
		r.addAddress(target, api.AAAA)
	}
}

func (r *reply) addAddress(target string, t int) {
	z := Has(r.zones, target, t)
	if z == nil {
		return
	}
	if f := z.Find(target, t); f.Kind == api.FoundAnswer {
		r.putFound(&r.Additional, z, f)
	}
}

// putFound puts a set that z has found, and its signatures. A star's are told
// of the name for which it stands.
func (r *reply) putFound(to *[]api.Record, z *zone.Zone, f api.Found) {
	first := f.Records[0]
	sigs := r.signatures(z, f.Owner, first.Type)
	if f.Wild {
		for i := range sigs {
			sigs[i].Owner = first.Owner
		}
	}
	r.put(to, f.Records...)
	r.put(to, sigs...)
}

// putSets puts records of z, all of one type, each set of them with its
// signatures behind it.
func (r *reply) putSets(to *[]api.Record, z *zone.Zone, records ...api.Record) {
	for len(records) > 0 {
		first, size := records[0], firstSet(records)
		r.put(to, records[:size]...)
		r.put(to, r.signatures(z, first.Owner, first.Type)...)
		records = records[size:]
	}
}

// firstSet: how many records, from the first on, have one owner.
func firstSet(records []api.Record) int {
	other := func(r api.Record) bool { return !name.Equal(r.Owner, records[0].Owner) }
	if at := slices.IndexFunc(records, other); at >= 0 {
		return at
	}
	return len(records)
}

// signatures: those of a set that z has, if proofs are wanted.
func (r *reply) signatures(z *zone.Zone, owner string, t int) []api.Record {
	if !r.proofs {
		return nil
	}
	// The data of a signature begin with the type that it covers.
	ofOthers := func(sig api.Record) bool { return spell.Value(sig.Data[:2]) != t }
	return slices.DeleteFunc(z.Set(owner, api.RRSIG), ofOthers)
}

// put lays records behind those of a section. Those like one that stands in
// the answer already, in any section, are left out.
func (r *reply) put(to *[]api.Record, records ...api.Record) {
	for _, record := range records {
		sense := data.SenseOf(record)
		if _, ok := r.stands[sense]; ok {
			continue
		}
		r.stands[sense] = struct{}{}
		*to = append(*to, record)
	}
}
