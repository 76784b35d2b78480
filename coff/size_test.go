package coff_test

import (
	"debug/elf"
	"slices"
	"strings"
	"testing"

	"shelf/api"
)

// heavy is an ELF file that defines names of these lengths, which are all ends of one long text: what they take in an index is far more than what they take here.
func heavy(lengths ...int) string {
	longest := slices.Max(lengths)
	var table []elf.Sym64
	for _, length := range lengths {
		table = append(table, offer(1+longest-length))
	}
	return withSymbols("\x00"+strings.Repeat("n", longest)+"\x00", table...)
}

// sum is how many bytes names of these lengths take.
func sum(lengths []int) int {
	all := len(lengths)
	for _, length := range lengths {
		all += length
	}
	return all
}

// filling are lengths of so many names that take so many bytes.
func filling(count, bytes int) []int {
	lengths := slices.Repeat([]int{bytes/count - 1}, count)
	for i := range bytes % count {
		lengths[i]++
	}
	return lengths
}

// 23.6: the first linker member's data have MaxSize bytes at most, the newline not counted; none of them is made.
func TestBuildFirstTooLong(t *testing.T) {
	const count = 10000
	for _, x := range []struct {
		bytes int
		e     api.Errno
	}{{9999999997, api.ErrFar}, {9999999998, api.ErrFar}, {9999999999, api.ErrSize}, {10000000000, api.ErrSize}} {
		lengths := filling(count, x.bytes-4-4*count)
		if 4+4*count+sum(lengths) != x.bytes {
			t.Fatalf("%d bytes", 4+4*count+sum(lengths))
		}
		l := members(member("a", heavy(lengths...)))
		wantNoBuild(t, l, 5, x.e)
		if x.e == api.ErrSize {
			wantNoBuild(t, append(l, member("a/", "")), 5, api.ErrName)
			wantNoBuild(t, l, -1, api.ErrSize)
		}
	}
}

// 23.6: the second one's data, too, which are longer than the first one's where there are many members.
func TestBuildSecondTooLong(t *testing.T) {
	const count = 1000
	for _, x := range []struct {
		bytes int
		e     api.Errno
	}{{9999999998, api.ErrFar}, {9999999999, api.ErrFar}, {10000000000, api.ErrSize}} {
		lengths := filling(count, x.bytes-8-4*2*count-2*count)
		longer, shorter := member("a", heavy(lengths[0])), member("a", heavy(lengths[count-1]))
		var l []api.Member
		for _, length := range lengths {
			if length == lengths[0] {
				l = append(l, longer)
			} else {
				l = append(l, shorter)
			}
		}
		l = append(l, slices.Repeat(members(member("b", "")), count)...)
		if first, second := 4+4*count+sum(lengths), 8+4*2*count+2*count+sum(lengths); second != x.bytes || first >= second-1 {
			t.Fatalf("%d and %d bytes", first, second)
		}
		wantNoBuild(t, l, 5, x.e)
	}
}

// 23.6: no header's place is 2 to the 32 or beyond; and that is looked at last.
func TestBuildFar(t *testing.T) {
	data := strings.Repeat("\x00", 1<<26)
	ahead := 8 + 60 + 4 + 60 + 8 + 4*65 + 63*(60+len(data)) + 60
	l := append(slices.Repeat(members(member("a", data)), 63), member("a", data[:1<<32-ahead]))
	for _, last := range []api.Member{member("b", ""), member("b", "xy"), member("b", data)} {
		wantNoBuild(t, append(l, last), 5, api.ErrFar)
		wantNoBuild(t, append(l, last), -1, api.ErrWide)
		wantNoBuild(t, append(l, last, member("c", "")), 5, api.ErrFar)
	}
	far := append(l, member("b", ""))
	wantNoBuild(t, append(far, api.Member{Name: "a", Meta: api.Meta{Mode: -1}}), 5, api.ErrWide)
	wantNoBuild(t, append(far, api.Member{Name: "a", Size: 1}), -1, api.ErrSize)
	wantNoBuild(t, append(far, member("a/b", "")), -1, api.ErrName)
	symbols := members(member("a", heavy(filling(3000, 1<<31)...)), member("b", ""))
	wantNoBuild(t, symbols, 5, api.ErrFar)
	wantNoBuild(t, symbols, -1, api.ErrWide)
}
