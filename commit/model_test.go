package commit_test

import (
	"fmt"
	"maps"
	"math/rand"
	"testing"

	"shelf/api"
	"shelf/commit"
	"shelf/vfs"
)

// told is Replace in the chapter's own words, call by call.
func told(f *vfs.FS, name, data string, meta api.Meta) error {
	if name == temp {
		return &api.FileError{Op: "replace", Name: name, Err: api.ErrReserved}
	}
	if len(name) < 1 || len(name) > 64 {
		return &api.FileError{Op: "replace", Name: name, Err: api.ErrFileName}
	}
	for i := range len(name) {
		if name[i] == '/' || name[i] == 0 {
			return &api.FileError{Op: "replace", Name: name, Err: api.ErrFileName}
		}
	}
	if err := f.SyncDir(); err != nil {
		return err
	}
	var h *vfs.File
	steps := []func() (err error){func() (err error) { h, err = f.Create(temp, meta); return err }}
	for at := 0; at < len(data); at += 512 {
		steps = append(steps, func() error { _, err := h.Write(data[at:min(at+512, len(data))]); return err })
	}
	steps = append(steps, func() error { return h.Sync() }, func() error { return f.Rename(temp, name) })
	for _, step := range steps {
		if err := step(); err != nil {
			f.Remove(temp)
			return err
		}
	}
	h.Close()
	if f.SyncDir() != nil {
		return &api.FileError{Op: "replace", Name: name, Err: api.ErrUnsure}
	}
	return nil
}

// chance is a volume as chance would have it, the same for the same seed: files, some of them loose or pending, some faults to come, a name and data.
func chance(seed int64) (f *vfs.FS, name, data string, r *rand.Rand) {
	r = rand.New(rand.NewSource(seed))
	f = vfs.New(r.Intn(3) * 700)
	names := []string{"a", "b", "c", temp, "", "x/y"}
	for range r.Intn(6) {
		h, err := f.Create(names[r.Intn(4)], api.Meta{Date: r.Intn(100)})
		if err != nil {
			continue
		}
		h.Write(filled(r.Intn(r.Intn(600) + 1)))
		if r.Intn(3) > 0 {
			h.Sync()
		}
		if r.Intn(3) == 0 {
			f.SyncDir()
		}
		if r.Intn(8) == 0 {
			f.Restart(r.Intn(3), []int{r.Intn(9)})
		}
	}
	var plan []api.Fault
	for range r.Intn(4) {
		plan = append(plan, api.Fault{At: r.Intn(12), Kind: r.Intn(5), N: r.Intn(700) - 10})
	}
	f.Arm(plan)
	if r.Intn(20) == 0 {
		f.Arm([]api.Fault{{At: 1, Kind: api.FaultDown}})
		f.SyncDir()
	}
	return f, names[min(r.Intn(24)/4, 5)], filled(r.Intn(3)*512 + max(r.Intn(40)-20, 0)), r
}

// All promises of Replace at once: chance volumes and plans, against the chapter's own words, now and behind a restart.
func TestAgainstModel(t *testing.T) {
	for seed := range int64(20000) {
		f, name, data, r := chance(seed)
		twin, _, _, _ := chance(seed)
		got := commit.Replace(f, name, data, newMeta)
		want := told(twin, name, data, newMeta)
		what := fmt.Sprintf("seed %d, Replace(%q, %d bytes)", seed, name, len(data))
		if words(got) != words(want) {
			t.Fatalf("%s: %v, want %v", what, got, want)
		}
		wantCalls(t, what, f, twin.Calls())
		wantDown(t, what, f, twin.Down())
		if f.Down() || r.Intn(2) == 0 {
			dirOps, cuts := r.Intn(4), []int{r.Intn(9), r.Intn(600)}
			f.Restart(dirOps, cuts)
			twin.Restart(dirOps, cuts)
		}
		if a, b := look(t, f), look(t, twin); !maps.Equal(a, b) {
			t.Errorf("%s: the files are %v, want %v", what, a, b)
		}
		if t.Failed() {
			return
		}
	}
}
