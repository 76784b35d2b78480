package part

import "shelf/api"

// Text is a part as it is written: a header, what is ahead of the data, the data. The magic is one too, of the first text alone.
type Text [3]string

// Room is how many bytes a header takes with so many bytes behind it.
func Room(data int) int { return api.HeadSize + even(data) }

func even(n int) int { return n + n%2 }

// length is how many bytes of the archive the part takes.
func (p Text) length() int { return even(len(p[0]) + len(p[1]) + len(p[2])) }

// copyInto puts the part into the piece of the buffer that is its own: what its texts leave of it is the byte that makes the length even.
func (p Text) copyInto(piece []byte) {
	for _, text := range p {
		n := copy(piece, text)
		piece = piece[n:]
	}
	for i := range piece {
		piece[i] = pad
	}
}

// Join puts the parts one behind the other into a buffer. A piece's room ends with it, so that no part can write beyond.
func Join(parts []Text) string {
	total := 0
	for _, p := range parts {
		total += p.length()
	}
	buffer := make([]byte, total)
	at := 0
	for _, p := range parts {
		end := at + p.length()
		p.copyInto(buffer[at:end:end])
		at = end
	}
	return string(buffer)
}
