package tool

import (
	"strings"

	"shelf/api"
	"shelf/files"
	"shelf/text"
	"shelf/vfs"
)

// speaker is the program that tells why a line is not understood.
func speaker(args []string) int {
	if len(args) > 0 && args[0] == "ranlib" {
		return api.Ranlib
	}
	return api.Ar
}

// wordsFor are the words that take a word's place: those of the file that it names, or the word itself.
func wordsFor(fs *vfs.FS, word string) ([]string, refusal) {
	name, marked := strings.CutPrefix(word, "@")
	if !marked || name == "" || name == api.TempName {
		return []string{word}, refusal{}
	}
	data, err := fs.ReadFile(name)
	code := files.Code(err)
	if isNoFile(code) {
		return []string{word}, refusal{}
	}
	if code != api.OK {
		return nil, refusal{name, code}
	}
	words, _, e := text.Words(data)
	if e != api.OK {
		return nil, refusal{name, e}
	}
	return words, refusal{}
}
