package update

import (
	"bytes"
	"slices"

	"gazetteer/api"
	"gazetteer/zone"
)

// Keeper: a zone that changes, and its journal.
type Keeper struct {
	zone    *zone.Zone
	journal []byte
}

// New: a keeper that has a zone.
func New(z *zone.Zone) *Keeper {
	if z == nil {
		return nil
	}
	return &Keeper{z, journalOf(z)}
}

// Zone: what it has.
func (k *Keeper) Zone() *zone.Zone { return k.zone }

// Journal: its bytes.
func (k *Keeper) Journal() []byte { return bytes.Clone(k.journal) }

// Tidy: the journal begins anew.
func (k *Keeper) Tidy() { k.journal = journalOf(k.zone) }

// Do: what is answered to a message, and done.
func (k *Keeper) Do(m api.Message) api.Message {
	z, code := Apply(k.zone, m)
	if code == api.NoError {
		// Where anything has changed, a SOA has come.
		if s := stepOf(k.zone, z); len(s.comes) > 0 {
			k.journal = append(k.journal, block(s.text())...)
		}
		k.zone = z
	}
	return api.Message{ID: m.ID, Response: true, Opcode: m.Opcode, Rcode: code, Questions: slices.Clone(m.Questions)}
}
