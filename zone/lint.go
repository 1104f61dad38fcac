package zone

import (
	"gazetteer/api"
	"gazetteer/data"
	"gazetteer/name"
)

// Lint: what is unwise.
func (z *Zone) Lint() []api.Finding {
	var list []api.Finding
	if len(z.Set(z.apex, api.NS)) == 1 {
		list = append(list, api.Finding{Code: api.LintLone, Owner: z.apex, Type: api.NS})
	}
	for _, r := range z.records {
		if code, target := z.judge(r); code != wise {
			list = append(list, api.Finding{Code: code, Owner: r.Owner, Type: r.Type, Target: target})
		}
	}
	return list
}

// wise: in the place of a finding's code, that there is none.
const wise = 0

// judge: what is unwise of one record, and its target if that is why.
func (z *Zone) judge(r api.Record) (int, string) {
	if z.isHidden(r) {
		return api.LintHidden, ""
	}
	target := data.Target(r)
	if !name.Within(target, z.apex) {
		return wise, ""
	}
	if code := z.judgeTarget(r.Type, target); code != wise {
		return code, target
	}
	return wise, ""
}

// isHidden: does nobody find the record, as another zone has its name?
func (z *Zone) isHidden(r api.Record) bool {
	owner := name.Fold(r.Owner)
	cut := z.cutOf(owner)
	if cut == "" || !counts(r) {
		return false
	}
	switch r.Type {
	case api.A, api.AAAA:
		return false
	case api.NS, api.DS, api.NSEC, api.RRSIG:
		return cut != owner
	}
	return true
}

// cutOf: the topmost name on the way down to n, the apex left out, at which
// another zone begins; "" if there is none.
func (z *Zone) cutOf(n string) string {
	for _, on := range z.path(n)[1:] {
		if z.has(on, api.NS) {
			return on
		}
	}
	return ""
}

// judgeTarget: what is unwise of a target within the apex, for a record of
// the type t.
func (z *Zone) judgeTarget(t int, target string) int {
	n := name.Fold(target)
	found := z.Find(target, api.A).Kind
	switch {
	case z.has(n, api.A) || z.has(n, api.AAAA):
		return wise
	case found == api.FoundAnswer || z.Find(target, api.AAAA).Kind == api.FoundAnswer:
		return wise
	case found == api.FoundAlias:
		return api.LintAlias
	case t != api.NS && (found == api.FoundReferral || target == api.Root):
		return wise
	}
	return api.LintBare
}
