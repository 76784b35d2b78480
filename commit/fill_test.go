package commit

import (
	"errors"
	"strings"
	"testing"

	"shelf/api"
	"shelf/vfs"
)

// 16.5: the handle is closed in every case. From outside nobody can ask the handle, so fill is asked by itself.
func TestHandleIsClosed(t *testing.T) {
	for at := range 5 {
		for _, kind := range []int{api.FaultIO, api.FaultShort, api.FaultDown} {
			f := vfs.New(2000)
			h, err := f.Create(api.TempName, api.Meta{})
			if err != nil {
				t.Fatal(err)
			}
			f.Arm([]api.Fault{{At: at, Kind: kind}})
			err = fill(h, strings.Repeat("x", api.Chunk+1))
			if (err != nil) != (at >= 1 && at <= 3) {
				t.Errorf("fault %d at call %d: %v", kind, at, err)
			}
			if err := h.Close(); !errors.Is(err, api.ErrClosed) {
				t.Errorf("fault %d at call %d leaves the handle open: %v", kind, at, err)
			}
		}
	}
}

// reason finds the Errno of a FileError alone, behind others too.
func TestReason(t *testing.T) {
	inner := &api.FileError{Op: "read", Name: "a", Err: api.ErrMissing}
	for _, c := range []struct {
		err  error
		want api.Errno
	}{{inner, api.ErrMissing}, {errors.Join(errors.New("other"), inner), api.ErrMissing}, {errors.New("other"), api.OK}, {nil, api.OK}} {
		if got := reason(c.err); got != c.want {
			t.Errorf("reason(%v) = %d, want %d", c.err, got, c.want)
		}
	}
}
