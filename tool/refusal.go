package tool

import (
	"strings"

	"shelf/api"
	"shelf/files"
	"shelf/show"
)

// refusal is the name at which a step ends the command, and why; with OK it does not end it.
type refusal struct {
	name string
	code api.Errno
}

// told is what a command answers that ends here.
func (no refusal) told(prog int) api.Result {
	return api.Result{Msg: show.Message(prog, no.name, no.code), Code: no.code}
}

// isNoFile: does the code say that no such file is there, or that none can be?
func isNoFile(code api.Errno) bool {
	return code == api.ErrMissing || code == api.ErrFileName
}

// ahead is what a command is refused for ahead of any call of the volume.
func ahead(c api.Command) refusal {
	if strings.IndexByte("dmpqrstx", c.Op) < 0 {
		return refusal{"", api.ErrNoOp}
	}
	if e := files.Refusal(c.Archive); e != api.OK {
		return refusal{c.Archive, e}
	}
	if c.Prog != api.Ranlib && c.Op != 'r' && c.Op != 'q' {
		return refusal{} // the names are members', which may be any
	}
	for _, name := range c.Names {
		if e := files.Refusal(name); e != api.OK {
			return refusal{name, e}
		}
	}
	return refusal{}
}
