package disk

import (
	"strings"

	"shelf/api"
)

// body is a file's bytes and Meta. It is held by pointers alone: its bytes are a Builder, so that a file that grows piece by piece isn't copied with each piece.
type body struct {
	meta    api.Meta
	data    strings.Builder
	durable int // how many bytes, from the first on, outlast a power cut
}

// loose is how many bytes are not durable.
func (b *body) loose() int { return b.data.Len() - b.durable }

// crash keeps the durable bytes and up to keep loose ones; what is left is durable.
func (b *body) crash(keep int) {
	b.durable += min(max(keep, 0), b.loose())
	if b.loose() > 0 {
		left := b.data.String()[:b.durable]
		b.data.Reset()
		b.data.WriteString(left)
	}
}

// cutOf is how many loose bytes the file of number j may keep.
func cutOf(cuts []int, j int) int {
	if len(cuts) == 0 {
		return 0
	}
	return cuts[j%len(cuts)]
}
