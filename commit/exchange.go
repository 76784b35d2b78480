package commit

import (
	"strings"

	"shelf/api"
	"shelf/vfs"
)

// refusal is why no file of this name can be replaced; OK: one can.
func refusal(name string) api.Errno {
	if name == api.TempName {
		return api.ErrReserved
	}
	if name == "" || len(name) > api.MaxFileName || strings.ContainsAny(name, "/\x00") {
		return api.ErrFileName
	}
	return api.OK
}

// exchange puts a new file in the place of the one of this name. The new bytes are durable before the name leads to them: the change of the name is then the only one that a power cut can keep or take.
func exchange(fs *vfs.FS, name, data string, meta api.Meta) (err error) {
	defer func() {
		if err != nil {
			fs.Remove(api.TempName) // what it answers is let go: the caller is told what failed first
		}
	}()
	h, err := fs.Create(api.TempName, meta)
	if err != nil {
		return err
	}
	if err := fill(h, data); err != nil {
		return err
	}
	return fs.Rename(api.TempName, name)
}

// fill writes data piece by piece, makes them durable, and lets the handle go.
func fill(h *vfs.File, data string) error {
	defer h.Close()
	for rest := data; rest != ""; {
		piece := rest[:min(len(rest), api.Chunk)]
		if _, err := h.Write(piece); err != nil {
			return err
		}
		rest = rest[len(piece):]
	}
	return h.Sync()
}
