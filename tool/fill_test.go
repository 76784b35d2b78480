package tool

import (
	"errors"
	"strings"
	"testing"

	"shelf/api"
	"shelf/vfs"
)

// 17.13: the handle is closed, whatever happens. From outside nobody can ask the handle, so fill is asked by itself.
func TestHandleIsClosed(t *testing.T) {
	for at := range 5 {
		for _, kind := range []int{api.FaultIO, api.FaultShort, api.FaultDown} {
			f := vfs.New(2000)
			h, err := f.Create("a", api.Meta{})
			if err != nil {
				t.Fatal(err)
			}
			f.Arm([]api.Fault{{At: at, Kind: kind}})
			err = fill(h, strings.Repeat("x", api.Chunk+1))
			if (err != nil) != (at >= 1 && at <= 3) {
				t.Errorf("fault %d at call %d: %v", kind, at, err)
			}
			if err := h.Close(); !errors.Is(err, api.ErrClosed) {
				t.Errorf("fault %d at call %d leaves the handle open: %v", kind, at, err)
			}
		}
	}
}
