// Package files: what the layers that work with files of the volume do alike: which names a user may give, why a call failed, a new file's bytes.
package files

import (
	"errors"
	"strings"

	"shelf/api"
	"shelf/vfs"
)

// Refusal is why a user may name no such file; OK: there may be one, and it is not the program's own.
func Refusal(name string) api.Errno {
	if name == api.TempName {
		return api.ErrReserved
	}
	if name == "" || len(name) > api.MaxFileName || strings.ContainsAny(name, "/\x00") {
		return api.ErrFileName
	}
	return api.OK
}

// Code is why a call of the volume failed; OK: it did not.
func Code(err error) api.Errno {
	var f *api.FileError
	if errors.As(err, &f) {
		return f.Err
	}
	return api.OK
}

// Fill writes a new file's bytes piece by piece, makes them durable, and lets the handle go, whatever fails.
func Fill(h *vfs.File, data string) error {
	defer h.Close()
	for rest := data; rest != ""; {
		piece := rest[:min(len(rest), api.Chunk)]
		if _, err := h.Write(piece); err != nil {
			return err
		}
		rest = rest[len(piece):]
	}
	return h.Sync()
}
