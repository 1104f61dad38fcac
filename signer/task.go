package signer

import (
	"slices"
	"sync"

	"gazetteer/api"
	"gazetteer/seal"
)

// task: a set, and the keys that sign it.
type task struct {
	set  []api.Record
	keys []api.Key
}

// tasks: all sets that are to be signed.
func (d draft) tasks(places []place, absences []api.Record) []task {
	entry, others := d.signers(api.EntryKey), d.signers(api.ZoneKey)
	var list []task
	for _, p := range places {
		for _, set := range p.signed() {
			keys := others
			if set[0].Type == api.DNSKEY {
				keys = entry
			}
			list = append(list, task{set, keys})
		}
	}
	for _, r := range absences {
		list = append(list, task{[]api.Record{r}, others})
	}
	return list
}

// signers: the active keys with the flags; all active ones, if none has them.
func (d draft) signers(flags int) []api.Key {
	var active, marked []api.Key
	for _, k := range d.plan.Keys {
		if !k.Active {
			continue
		}
		active = append(active, k.Key)
		if k.Key.Flags == flags {
			marked = append(marked, k.Key)
		}
	}
	if len(marked) == 0 {
		return active
	}
	return marked
}

// signaturesOf: how many signatures tasks make.
func signaturesOf(tasks []task) int {
	count := 0
	for _, t := range tasks {
		count += len(t.keys)
	}
	return count
}

// signAll: the signatures. Each task has a worker and a place of its own, so
// that their order is the tasks', whoever is ready first.
func (d draft) signAll(tasks []task) []api.Record {
	made := make([][]api.Record, len(tasks))
	var workers sync.WaitGroup
	for i, t := range tasks {
		workers.Go(func() { made[i] = d.sign(t) })
	}
	workers.Wait()
	return slices.Concat(made...)
}

func (d draft) sign(t task) []api.Record {
	var list []api.Record
	for _, k := range t.keys {
		// The keys and times were looked at, and a zone's sets are sets of
		// one age: there is no error.
		sig, _ := seal.Sign(k, d.apex, t.set, d.plan.From, d.plan.Until)
		list = append(list, sig)
	}
	return list
}
