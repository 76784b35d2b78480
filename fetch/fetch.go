// Package fetch: files of the volume as the layers read them that a user names files to.
package fetch

import (
	"shelf/api"
	"shelf/files"
	"shelf/vfs"
)

// File is the bytes of a file that a user may name: the program's own file is not one of these.
func File(fs *vfs.FS, name string) (string, api.Errno) {
	if name == api.TempName {
		return "", api.ErrReserved
	}
	data, err := fs.ReadFile(name)
	if err != nil {
		return "", files.Code(err)
	}
	return data, api.OK
}

// Member is the data of a thin archive's member, which are the bytes of the file of its name; one without data asks for no file.
func Member(fs *vfs.FS, m api.Member) (string, api.Errno) {
	if m.Size == 0 {
		return "", api.OK
	}
	data, e := File(fs, m.Name)
	switch {
	case e == api.ErrMissing || e == api.ErrFileName:
		return "", api.ErrLost
	case e != api.OK:
		return "", e
	case len(data) != m.Size:
		return "", api.ErrStale
	}
	return data, api.OK
}
