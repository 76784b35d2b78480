package tool_test

import (
	"fmt"
	"slices"
	"testing"

	"shelf/api"
	"shelf/tool"
)

// 17.2, 17.3, R4: the lists that Run and Exec are handed are neither changed nor kept, their spare room included.
func TestListsStay(t *testing.T) {
	names := [][]string{nil, {"a"}, {"c", "a", "a"}, {"z", "b"}, {"x", "y", "x"}, {"lib.a", "lib.a"}}
	for _, prog := range []int{api.Ar, api.Ranlib} {
		for i := range letters {
			for _, list := range names {
				room := append(slices.Clone(list), "spare", "room", "behind")
				before := slices.Clone(room)
				c := api.Command{Prog: prog, Op: letters[i], Verbose: true, Archive: "lib.a", Names: room[:len(list)]}
				f := durable(t, abac())
				got := exec(f, c)
				what := fmt.Sprintf("%d %q %q", prog, letters[i], list)
				if !slices.Equal(room, before) {
					t.Errorf("%s: the names are %q now", what, room)
				}
				g := durable(t, abac())
				c.Names = slices.Clone(list)
				wantResult(t, what+", with no spare room", exec(g, c), got)
				wantFiles(t, what+", with no spare room", g, look(t, f))
			}
		}
	}
	line := append(args("ar rv lib.a a x"), "spare", "room")
	before := slices.Clone(line)
	tool.Run(durable(t, abac()), line[:5], env)
	if !slices.Equal(line, before) {
		t.Errorf("Run: the words are %q now", line)
	}
}

// R2: what is answered hangs on the volume and the arguments alone: the same again on the same volume, and nothing is kept from volume to volume.
func TestNothingKept(t *testing.T) {
	for _, line := range changing() {
		first := durable(t, changingFiles())
		want := tool.Run(first, args(line), env)
		tool.Run(durable(t, nil), args("ar rcT other.a"), api.Env{Wide: 1})
		second := durable(t, changingFiles())
		wantResult(t, line, tool.Run(second, args(line), env), want)
		wantFiles(t, line, second, look(t, first))
	}
}
