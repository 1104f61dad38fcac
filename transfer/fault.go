package transfer

import (
	"errors"
	"strconv"

	"gazetteer/api"
)

// wrong: why no zone comes out.
type wrong api.Errno

func (w wrong) Error() string { return "error " + strconv.Itoa(int(w)) }

// codeOf: how a listed call tells an error; api.OK, if there is none.
func codeOf(err error) api.Errno {
	var w wrong
	errors.As(err, &w)
	return api.Errno(w)
}
