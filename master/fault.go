package master

import (
	"errors"
	"strconv"

	"gazetteer/api"
)

// wrong: what is wrong, wherever it stands.
type wrong api.Errno

func (w wrong) Error() string { return "error " + strconv.Itoa(int(w)) }

// placed: an error, and where it stands.
type placed struct {
	file  string
	line  int
	cause error
}

func (p placed) Error() string {
	return strconv.Quote(p.file) + ", line " + strconv.Itoa(p.line) + ": " + p.cause.Error()
}

func (p placed) Unwrap() error { return p.cause }

// placeAt: the error with its place. One that has a place keeps it: it comes
// from a file that was opened there.
func placeAt(file string, line int, err error) error {
	var p placed
	if errors.As(err, &p) {
		return err
	}
	return placed{file, line, err}
}

// faultOf: how a listed call tells an error.
func faultOf(err error) api.Fault {
	var w wrong
	var p placed
	errors.As(err, &w)
	errors.As(err, &p)
	return api.Fault{Code: api.Errno(w), File: p.file, Line: p.line}
}
