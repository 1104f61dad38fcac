package world

import "gazetteer/api"

// command: what its words are, and what is done when all of them are read.
type command struct {
	words []reading
	open  bool // one word or more, of no number, stand behind these
	do    func(*order) ([]string, api.Errno)
}

// reading: how one word is read.
type reading func(*order, string) api.Errno

// takes: may it have so many words behind its own?
func (c command) takes(count int) bool {
	if c.open {
		return count > len(c.words)
	}
	return count == len(c.words)
}

// commands: by their names.
func commands() map[string]command {
	server, apex, owner := (*order).readServer, (*order).readApex, (*order).readName
	number, typ := (*order).readNumber, (*order).readType
	return map[string]command{
		"time":   {words: []reading{number}, do: (*order).setTime},
		"server": {words: []reading{(*order).readWord}, do: (*order).addServer},
		"load":   {words: []reading{server, apex}, open: true, do: (*order).load},
		"sign":   {words: []reading{server, apex, number, number, number, number, number}, do: (*order).sign},
		"show":   {words: []reading{server, apex}, do: (*order).show},
		"ask":    {words: []reading{server, owner, typ, (*order).readSign}, do: (*order).ask},
		"change": {words: []reading{server, apex, (*order).readOp, owner, number, typ}, open: true, do: (*order).change},
		"copy":   {words: []reading{server, (*order).readOther, apex}, do: (*order).copyZone},
		"crash":  {words: []reading{server}, do: (*order).crash},
		"rule":   {words: []reading{server, (*order).readKind, owner, typ}, open: true, do: (*order).addRule},
		"anchor": {words: []reading{server, apex}, do: (*order).addAnchors},
		"judge":  {words: []reading{server, owner, typ}, do: (*order).judge},
	}
}
