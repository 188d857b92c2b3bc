package chunk

import (
	"errors"
	"strconv"

	"strongbox/api"
)

// Why the layer itself refuses.
var (
	errNone  = errors.New("there is no such chunk")
	errCount = errors.New("it is counted as often as one can be")
	errClash = errors.New("other bytes have this digest")
)

// said is what a layer below answers, as an error.
type said api.Errno

func (s said) Error() string { return "error " + strconv.Itoa(int(s)) }

// failure is what a layer below says, with what was being done.
type failure struct {
	doing string
	cause error
}

func (f failure) Error() string { return f.doing + ": " + f.cause.Error() }

func (f failure) Unwrap() error { return f.cause }

// while is the failure of something that was being done; nil, if it went well.
func while(doing string, errno api.Errno) error {
	if errno == api.OK {
		return nil
	}
	return failure{doing: doing, cause: said(errno)}
}

// passed are the answers of the layers below that the face tells as they are: those of a disk and of a transaction, and those of parts that do not belong together.
var passed = [...]api.Errno{
	api.ErrDead, api.ErrPoolNone, api.ErrPoolFull,
	api.ErrDiskSector, api.ErrJournalPlace,
	api.ErrBitmapFree, api.ErrBitmapPlace, api.ErrBitmapForm,
	api.ErrIndexPlace, api.ErrIndexForm,
}

// answerOf is what the face tells of an error.
func answerOf(err error) api.Errno {
	switch {
	case err == nil:
		return api.OK
	case errors.Is(err, errNone):
		return api.ErrChunkNone
	case errors.Is(err, errCount):
		return api.ErrChunkCount
	case errors.Is(err, errClash):
		return api.ErrChunkClash
	case errors.Is(err, said(api.ErrSealSize)):
		return api.ErrChunkSize
	case errors.Is(err, said(api.ErrBitmapFull)):
		return api.ErrChunkFull
	}
	for _, errno := range passed {
		if errors.Is(err, said(errno)) {
			return errno
		}
	}
	// Nothing else is said of what this layer asks.
	return api.ErrArg
}
