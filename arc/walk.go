package arc

import (
	"iter"

	"shelf/api"
	"shelf/part"
)

// parts goes through a file's parts. The first refusal is the last that it tells, with a part of which the place alone counts.
func parts(b string) iter.Seq2[part.Part, api.Errno] {
	return func(yield func(part.Part, api.Errno) bool) {
		if _, e := part.KindByMagic(b); e != api.OK {
			yield(part.Part{}, e)
			return
		}
		r := part.NewReader(b)
		for at := len(api.MagicRegular); at < len(b); {
			x, e := r.Look(at)
			if !yield(x, e) || e != api.OK {
				return
			}
			r.Take(x)
			at = x.End
		}
	}
}
