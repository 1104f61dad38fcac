package master

import (
	"errors"
	"testing"

	"gazetteer/api"
)

// An error says what is wrong, and where.
func TestErrorText(t *testing.T) {
	err := placeAt("a\nb", 7, wrong(api.ErrDeep))
	if got, want := err.Error(), `"a\nb", line 7: error 14`; got != want {
		t.Errorf("Error() = %q; wanted %q", got, want)
	}
}

// An error keeps the place where it was first told.
func TestErrorPlace(t *testing.T) {
	err := placeAt("outside", 1, placeAt("inside", 2, wrong(api.ErrType)))
	if got, want := faultOf(err), (api.Fault{Code: api.ErrType, File: "inside", Line: 2}); got != want {
		t.Errorf("faultOf = %+v; wanted %+v", got, want)
	}
	if got, want := faultOf(wrong(api.ErrName)), (api.Fault{Code: api.ErrName}); got != want {
		t.Errorf("faultOf = %+v; wanted %+v", got, want)
	}
	if got := faultOf(nil); got != (api.Fault{}) {
		t.Errorf("faultOf(nil) = %+v; wanted none", got)
	}
	if !errors.Is(err, wrong(api.ErrType)) {
		t.Errorf("%v doesn't wrap what is wrong", err)
	}
}
