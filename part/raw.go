// Package part: the parts of an archive, each a header with what belongs to it, as the layers that read archives of members go through them: what may stand at a place, and what it tells; and as the layers that write archives put them together.
package part

import (
	"shelf/api"
	"shelf/head"
	"shelf/names"
)

// pad stands behind data of odd length.
const pad = '\n'

// Raw is a header with what belongs to it, of whatever archive.
type Raw struct {
	api.Head
	Field api.Field // what the header's name field says
	At    int       // where the header begins
	End   int       // where what belongs to it ends
	Data  string
}

// ReadHead reads the header at a place, and its name field. Nothing belongs to it yet. Of one that is refused the place alone counts.
func ReadHead(b string, at int) (Raw, api.Errno) {
	h, e := head.Parse(b, at)
	if e != api.OK {
		return Raw{At: at}, e
	}
	f, e := names.Read(h.Name)
	return Raw{Head: h, Field: f, At: at, End: at + api.HeadSize}, e
}

// CutData takes the data that stand behind the header, and their newline.
func (x *Raw) CutData(b string) api.Errno {
	if x.Size > len(b)-x.End {
		return api.ErrData
	}
	x.Data = b[x.End : x.End+x.Size]
	x.End += x.Size
	if x.Size%2 == 0 {
		return api.OK
	}
	if x.End == len(b) || b[x.End] != pad {
		return api.ErrPad
	}
	x.End++
	return api.OK
}

// Named is the member of this name that the header and the data tell.
func (x Raw) Named(name string) api.Member {
	return api.Member{Meta: x.Meta, Name: name, Size: x.Size, Data: x.Data}
}
