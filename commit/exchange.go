package commit

import (
	"shelf/api"
	"shelf/files"
	"shelf/vfs"
)

// exchange puts a new file in the place of the one of this name. The new bytes are durable before the name leads to them: the change of the name is then the only one that a power cut can keep or take.
func exchange(fs *vfs.FS, name, data string, meta api.Meta) (err error) {
	defer func() {
		if err != nil {
			fs.Remove(api.TempName) // what it answers is let go: the caller is told what failed first
		}
	}()
	h, err := fs.Create(api.TempName, meta)
	if err != nil {
		return err
	}
	if err := files.Fill(h, data); err != nil {
		return err
	}
	return fs.Rename(api.TempName, name)
}
