package policy

import (
	"slices"

	"gazetteer/api"
	"gazetteer/data"
	"gazetteer/name"
)

// Rule: which one counts for a name.
func Rule(rules []api.Rule, n string) int {
	best, most := -1, silent
	for i, r := range rules {
		if k := weightOf(r, n); k > most && isRight(r) {
			best, most = i, k
		}
	}
	return best
}

// What rules weigh for a name that they don't speak of, and for their own. Those
// that are Below weigh as many as their names have labels, which lies between.
const (
	silent = -1
	exact  = api.MaxName
)

// weightOf: what a rule, if it is right, weighs for a name.
func weightOf(r api.Rule, n string) int {
	same := name.Equal(n, r.Name)
	switch {
	case same && !r.Below:
		return exact
	case !same && r.Below && name.Within(n, r.Name):
		return name.Count(r.Name)
	}
	return silent
}

func isRight(r api.Rule) bool {
	if r.Kind == api.RuleSay {
		return data.IsRecord(saidOf(r, r.Name))
	}
	return api.RulePass <= r.Kind && r.Kind < api.RuleSay && name.Check(r.Name) == api.OK
}

// saidOf: the record that a rule says of a name.
func saidOf(r api.Rule, n string) api.Record {
	return api.Record{Owner: n, Type: r.Type, Class: api.IN, TTL: r.TTL, Data: r.Data}
}

// Filter: what is said instead of an answer.
func Filter(rules []api.Rule, m, answer api.Message) (api.Message, bool) {
	if len(m.Questions) != 1 {
		return copyOf(answer), true
	}
	q := m.Questions[0]
	i := Rule(rules, q.Name)
	if i < 0 {
		return copyOf(answer), true
	}
	switch r := rules[i]; r.Kind {
	case api.RuleDrop:
		return api.Message{}, false
	case api.RuleNoName:
		return bare(answer, api.NxDomain), true
	case api.RuleNoData:
		return bare(answer, api.NoError), true
	case api.RuleSay:
		said := bare(answer, api.NoError)
		if r.Type == q.Type || q.Type == api.ANY || r.Type == api.CNAME {
			said.Answers = []api.Record{saidOf(r, q.Name)}
		}
		return said, true
	}
	return copyOf(answer), true
}

// copyOf: the message, in memory of its own.
func copyOf(m api.Message) api.Message {
	m.Questions = slices.Clone(m.Questions)
	m.Answers = slices.Clone(m.Answers)
	m.Authority = slices.Clone(m.Authority)
	m.Additional = slices.Clone(m.Additional)
	return m
}

// bare: the message without what it tells, and with a code. Nobody has a zone
// that says so: AA goes.
func bare(m api.Message, rcode int) api.Message {
	m.Rcode, m.AA = rcode, false
	m.Questions = slices.Clone(m.Questions)
	m.Answers, m.Authority = nil, nil
	m.Additional = slices.DeleteFunc(slices.Clone(m.Additional), isPlain)
	return m
}

// isPlain: does the record tell something, other than of the message itself?
func isPlain(r api.Record) bool { return r.Type != api.OPT }
