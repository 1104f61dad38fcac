package data

import (
	"gazetteer/api"
	"gazetteer/name"
)

// IsRecord: may r stand in a zone, as far as r alone tells?
func IsRecord(r api.Record) bool {
	return name.Check(r.Owner) == api.OK && r.Class == api.IN &&
		0 <= r.TTL && r.TTL <= api.MaxTTL && Check(r.Type, r.Data) == api.OK
}
