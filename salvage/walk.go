package salvage

import (
	"iter"
	"strings"

	"shelf/api"
	"shelf/part"
)

// walk is how far a file was gone through.
type walk struct {
	*part.Reader
	file string
	at   int // what is ahead of it was told
}

// finds goes through a file's parts and damages, from the left to the right: each find is a damage, or, if the damage's Code is OK, a part.
func finds(b string) iter.Seq2[part.Part, api.Damage] {
	return func(yield func(part.Part, api.Damage) bool) {
		w := walk{Reader: part.NewReader(b), file: b}
		if _, e := part.KindByMagic(b); e == api.OK {
			w.at = len(api.MagicRegular)
		} else if !yield(part.Part{}, w.skip(0, e)) { // a part may stand where the magic should
			return
		}
		for w.at < len(b) {
			if !yield(w.next()) {
				return
			}
		}
	}
}

// next takes the part that stands here, or else skips what is damaged.
func (w *walk) next() (part.Part, api.Damage) {
	x, e := w.Look(w.at)
	if e != api.OK {
		d := w.skip(w.at+1, e)
		return part.Part{}, d
	}
	w.Take(x)
	w.at = x.End
	return x, api.Damage{}
}

// skip goes on to the next part, at first or behind it, and tells what lies ahead of that.
func (w *walk) skip(first int, why api.Errno) api.Damage {
	from := w.at
	w.at = w.seek(first)
	return api.Damage{At: from, Len: w.at - from, Code: why}
}

// seek is the least place from first on at which a part stands; the file's end if there is none.
func (w *walk) seek(first int) int {
	for at := w.header(first); at < len(w.file); at = w.header(at + 1) {
		if _, e := w.Look(at); e == api.OK {
			return at
		}
	}
	return len(w.file)
}

// header is the least place from first on at which a header may stand, told by its last bytes alone, which are soon found; the file's end if there is none.
func (w *walk) header(first int) int {
	tail := first + api.HeadSize - len(api.HeadTail)
	if tail > len(w.file) {
		return len(w.file)
	}
	n := strings.Index(w.file[tail:], api.HeadTail)
	if n < 0 {
		return len(w.file)
	}
	return first + n
}
