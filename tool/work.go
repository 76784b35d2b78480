package tool

import (
	"shelf/api"
	"shelf/arc"
	"shelf/commit"
	"shelf/files"
	"shelf/vfs"
)

// work is one command's work on one archive. It embeds the volume: its steps call the volume's methods as their own.
type work struct {
	*vfs.FS
	command api.Command
	env     api.Env
	kind    api.Kind     // the archive's
	made    bool         // there was no archive
	members []api.Member // as they are by now
	fresh   []api.Member // what goes in
	events  []api.Event  // what was done with members
	data    string       // the new archive's bytes
}

// carryOut carries a command out that has one archive.
func carryOut(fs *vfs.FS, c api.Command, env api.Env) api.Result {
	w := &work{FS: fs, command: c, env: env}
	if no := w.open(); no.code != api.OK {
		return no.told(c.Prog)
	}
	switch c.Op {
	case 't':
		return w.contents()
	case 'p':
		return w.printOut()
	case 'x':
		return w.extract()
	}
	return w.change()
}

// ranlib makes the index of each archive anew, up to the first one that is refused.
func ranlib(fs *vfs.FS, c api.Command, env api.Env) api.Result {
	one := api.Command{Prog: api.Ranlib, Op: 's', Det: c.Det, Archive: c.Archive}
	answer := carryOut(fs, one, env)
	for _, name := range c.Names {
		if answer.Code != api.OK {
			break
		}
		one.Archive = name
		answer = carryOut(fs, one, env)
	}
	return answer
}

// open reads the archive, or makes one where the operation may.
func (w *work) open() refusal {
	archive := w.command.Archive
	data, there, err := commit.Load(w.FS, archive)
	if err != nil {
		return refusal{archive, files.Code(err)}
	}
	if !there {
		return w.begin()
	}
	parsed, _, e := arc.Parse(data)
	if e != api.OK {
		return refusal{archive, e}
	}
	w.kind, w.members = parsed.Kind, parsed.Members
	return w.suits()
}

// begin makes an archive without members, if the operation puts files in.
func (w *work) begin() refusal {
	if !w.putsIn() {
		return refusal{w.command.Archive, api.ErrMissing}
	}
	w.made = true
	switch {
	case w.command.Thin:
		w.kind = api.Thin
	case w.command.Kind == api.BSD:
		w.kind = api.BSD
	default:
		w.kind = api.GNU
	}
	return refusal{}
}

// suits: thin archives take what is given as thin alone, and hold no data that could be unpacked.
func (w *work) suits() refusal {
	thin := w.kind == api.Thin
	if w.putsIn() && thin != w.command.Thin {
		return refusal{w.command.Archive, api.ErrKind}
	}
	if w.command.Op == 'x' && thin {
		return refusal{w.command.Archive, api.ErrThin}
	}
	return refusal{}
}

// putsIn: does the operation put files into the archive?
func (w *work) putsIn() bool {
	return w.command.Op == 'r' || w.command.Op == 'q'
}
