package elf

import "shelf/api"

// require gives up the whole reading with e unless ok holds: what is broken is found too deep inside to hand it back from call to call.
func require(ok bool, e api.Errno) {
	if !ok {
		panic(e)
	}
}

// refusal turns what a face has recovered into its answer.
func refusal(thrown any) api.Errno {
	switch reason := thrown.(type) {
	case nil:
		return api.OK
	case api.Errno:
		return reason
	}
	return api.ErrCut // every place is asked about before it is looked at; one that was not lies beyond the end
}
