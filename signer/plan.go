package signer

import (
	"slices"

	"gazetteer/api"
	"gazetteer/seal"
	"gazetteer/spell"
)

// maxSalt: the most bytes of a salt. Records tell their number in one byte.
const maxSalt = 255

// faultOf: what of a plan is wrong first.
func faultOf(plan api.Plan) api.Errno {
	switch {
	case slices.ContainsFunc(plan.Keys, isWrong) || !slices.ContainsFunc(plan.Keys, isActive):
		return api.ErrKey
	case hasTwice(publics(plan.Keys)):
		return api.ErrTwice
	case plan.From < 0 || plan.From > plan.Until || plan.Until > api.MaxTime:
		return api.ErrTime
	case plan.Hashed && (len(plan.Salt) > maxSalt || plan.Rounds < 0 || plan.Rounds > api.MaxRounds):
		return api.ErrArg
	case plan.KeyTTL < 0 || plan.KeyTTL > api.MaxTTL:
		return api.ErrTtl
	}
	return api.OK
}

func isWrong(k api.PlanKey) bool { return !isRight(k.Key) }

func isRight(k api.Key) bool { return seal.Public(k) != "" }

func isActive(k api.PlanKey) bool { return k.Active }

// publics: what is told of keys.
func publics(keys []api.PlanKey) []string {
	var list []string
	for _, k := range keys {
		list = append(list, seal.Public(k.Key))
	}
	return list
}

// hasTwice: does a text stand in a list more than once?
func hasTwice(list []string) bool {
	sorted := slices.Sorted(slices.Values(list))
	return len(slices.Compact(sorted)) < len(list)
}

// keys: the records that tell the plan's keys.
func (d draft) keys() []api.Record {
	var list []api.Record
	for _, public := range publics(d.plan.Keys) {
		list = append(list, record(d.apex, api.DNSKEY, d.plan.KeyTTL, public))
	}
	return list
}

// param: the record that tells how names are hashed, if they are.
func (d draft) param() []api.Record {
	if !d.plan.Hashed {
		return nil
	}
	return []api.Record{record(d.apex, api.NSEC3PARAM, d.age, d.way())}
}

// wayHead: the number of the digest, and no flags.
const wayHead = "\x01\x00"

// way: how names are hashed, as records tell it.
func (d draft) way() string {
	return wayHead + spell.Bytes(d.plan.Rounds, 2) + spell.Bytes(len(d.plan.Salt), 1) + d.plan.Salt
}
