package archive

import (
	"errors"
	"strconv"

	"strongbox/api"
)

// fault is what is wrong, as it goes from where it is found up to the face.
type fault api.Errno

// Error tells it by its number.
func (f fault) Error() string {
	return "archive: error " + strconv.Itoa(int(f))
}

// errnoOf is what the face answers: OK, if nothing is wrong.
func errnoOf(err error) api.Errno {
	var f fault
	if errors.As(err, &f) {
		return api.Errno(f)
	}
	return api.OK
}
