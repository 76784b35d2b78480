package lay

// pad stands behind what has an odd length.
const pad = '\n'

// part is what stands together in an archive: a header, what is ahead of the data, the data. The magic is one too, of the first text alone.
type part [3]string

// length is how many bytes of the archive the part takes.
func (p part) length() int { return even(len(p[0]) + len(p[1]) + len(p[2])) }

// copyInto puts the part into the piece of the buffer that is its own: what its texts leave of it is the byte that makes the length even.
func (p part) copyInto(piece []byte) {
	for _, text := range p {
		n := copy(piece, text)
		piece = piece[n:]
	}
	for i := range piece {
		piece[i] = pad
	}
}

// join puts the parts one behind the other into a buffer of total bytes. A piece's room ends with it, so that no part can write beyond.
func join(parts []part, total int) string {
	buffer := make([]byte, total)
	at := 0
	for _, p := range parts {
		end := at + p.length()
		p.copyInto(buffer[at:end:end])
		at = end
	}
	return string(buffer)
}
