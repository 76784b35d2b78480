package index

import (
	"strings"

	"shelf/api"
	"shelf/num"
)

// end stands behind every name.
const end = '\x00'

// bulk is all that an index's length hangs on: how many entries it has, and how long their names are, each with its end, and one end more where that makes the length even. The numbers of every form have an even length, so the whole is even by that.
type bulk struct {
	count int
	text  int
}

// measure is the bulk of an index with an entry for each name.
func measure(names []string) (bulk, api.Errno) {
	text := 0
	for _, name := range names {
		if !isGood(name) {
			return bulk{}, api.ErrName
		}
		text += len(name) + 1
	}
	return bulk{len(names), num.Even(text)}, api.OK
}

func isGood(name string) bool { return name != "" && strings.IndexByte(name, end) < 0 }

func namesOf(list []api.Entry) []string {
	names := make([]string, len(list))
	for i, entry := range list {
		names[i] = entry.Name
	}
	return names
}

// writeNames writes the names, and fills what they leave of the text's length.
func writeNames(out *strings.Builder, names []string, text int) {
	for _, name := range names {
		out.WriteString(name)
		out.WriteByte(end)
		text -= len(name) + 1
	}
	for range text {
		out.WriteByte(end)
	}
}
