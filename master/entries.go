package master

import "gazetteer/api"

// Entries: the entries of a file.
func Entries(text string) ([]api.Entry, api.Fault) {
	list, err := scan(api.File{Text: text})
	return list, faultOf(err)
}

// scan: the entries of a file that have words.
func scan(f api.File) ([]api.Entry, error) {
	var list []api.Entry
	s := &scanner{file: f.Name, text: f.Text, line: 1}
	for s.more() {
		e, err := s.entry()
		if err != nil {
			return nil, err
		}
		if len(e.Words) > 0 {
			list = append(list, e)
		}
	}
	return list, nil
}

// scanner: a file's text, and how far it has been gone through.
type scanner struct {
	file string
	text string
	at   int
	line int
}

func (s *scanner) more() bool { return s.at < len(s.text) }

// atEnd: does the line end here?
func (s *scanner) atEnd() bool { return !s.more() || s.text[s.at] == '\n' }

func (s *scanner) fail(code api.Errno, line int) error {
	return placed{s.file, line, wrong(code)}
}

func isBlank(b byte) bool { return b == ' ' || b == '\t' || b == '\r' }

// entry: the next entry, with or without words.
func (s *scanner) entry() (api.Entry, error) {
	e := api.Entry{Line: s.line, Blank: isBlank(s.text[s.at])}
	open := 0 // the line of the "(" that holds lines together, if there is one
signs:
	for s.more() {
		switch b := s.text[s.at]; {
		case b == '\n' && open == 0:
			break signs
		case b == '\n':
			s.line++
		case isBlank(b):
		case b == '(' && open == 0:
			open = s.line
		case b == ')' && open != 0:
			open = 0
		case b == '(' || b == ')':
			return api.Entry{}, s.fail(api.ErrText, s.line)
		case b == ';':
			s.passRemark()
			continue signs
		default:
			w, err := s.word()
			if err != nil {
				return api.Entry{}, err
			}
			e.Words = append(e.Words, w)
			continue signs
		}
		s.at++
	}
	if open != 0 {
		return api.Entry{}, s.fail(api.ErrEnd, open)
	}
	s.at++
	s.line++
	return e, nil
}

func (s *scanner) passRemark() {
	for !s.atEnd() {
		s.at++
	}
}

func (s *scanner) word() (api.Word, error) {
	if s.text[s.at] == '"' {
		return s.quotedWord()
	}
	begin := s.at
letters:
	for s.more() {
		switch s.text[s.at] {
		case ' ', '\t', '\r', '\n', ';', '(', ')', '"':
			break letters
		}
		if err := s.letter(); err != nil {
			return api.Word{}, err
		}
	}
	return api.Word{Text: s.text[begin:s.at]}, nil
}

func (s *scanner) quotedWord() (api.Word, error) {
	s.at++
	begin := s.at
	for s.atEnd() || s.text[s.at] != '"' {
		if err := s.letter(); err != nil {
			return api.Word{}, err
		}
	}
	s.at++
	return api.Word{Text: s.text[begin : s.at-1], Quoted: true}, nil
}

// letter passes the next byte of a word, and with a "\" the one behind it.
func (s *scanner) letter() error {
	if !s.atEnd() && s.text[s.at] == '\\' {
		s.at++
	}
	if s.atEnd() {
		return s.fail(api.ErrText, s.line)
	}
	s.at++
	return nil
}
