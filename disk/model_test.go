package disk_test

import (
	"math/rand"
	"slices"
	"strconv"
	"testing"

	"shelf/api"
	"shelf/disk"
)

// model is a volume as the chapter tells it, with the whole directory kept for each pending change: slow, and plain.
type model struct {
	capacity int
	data     []string // of each body, by its number
	durable  []int
	states   []map[string]int // behind the last SyncDir, then behind each pending change
}

func newModel(capacity int) *model {
	return &model{capacity: capacity, data: []string{""}, durable: []int{0}, states: []map[string]int{{}}}
}

// now is the directory as it is.
func (m *model) now() map[string]int { return m.states[len(m.states)-1] }

// next begins one more change of the directory.
func (m *model) next() map[string]int {
	dir := map[string]int{}
	for name, body := range m.now() {
		dir[name] = body
	}
	m.states = append(m.states, dir)
	return dir
}

func (m *model) used() int {
	sum := 0
	for _, body := range m.now() {
		sum += len(m.data[body])
	}
	return sum
}

func (m *model) there(body int) bool {
	for _, b := range m.now() {
		if b == body {
			return true
		}
	}
	return false
}

func (m *model) names() []string {
	var names []string
	for name := range m.now() {
		names = append(names, name)
	}
	slices.Sort(names)
	return names
}

func (m *model) create(name string) (int, api.Errno) {
	if _, ok := m.now()[name]; !ok && len(m.now()) == api.MaxFiles {
		return 0, api.ErrMany
	}
	m.next()[name] = len(m.data)
	m.data = append(m.data, "")
	m.durable = append(m.durable, 0)
	return len(m.data) - 1, api.OK
}

func (m *model) append(body int, data string) api.Errno {
	if !m.there(body) {
		return api.ErrBody
	}
	if data != "" && m.used()+len(data) > m.capacity {
		return api.ErrFull
	}
	m.data[body] += data
	return api.OK
}

func (m *model) sync(body int) api.Errno {
	if !m.there(body) {
		return api.ErrBody
	}
	m.durable[body] = len(m.data[body])
	return api.OK
}

func (m *model) rename(old, to string) api.Errno {
	body, ok := m.now()[old]
	if !ok {
		return api.ErrMissing
	}
	if old != to {
		dir := m.next()
		delete(dir, old)
		dir[to] = body
	}
	return api.OK
}

func (m *model) remove(name string) api.Errno {
	if _, ok := m.now()[name]; !ok {
		return api.ErrMissing
	}
	delete(m.next(), name)
	return api.OK
}

func (m *model) crash(dirOps int, cuts []int) {
	k := min(max(dirOps, 0), len(m.states)-1)
	m.states = m.states[k : k+1]
	for j, name := range m.names() {
		body, c := m.now()[name], 0
		if len(cuts) > 0 {
			c = max(cuts[j%len(cuts)], 0)
		}
		m.durable[body] = min(m.durable[body]+c, len(m.data[body]))
		m.data[body] = m.data[body][:m.durable[body]]
	}
}

// step does one call, chosen by chance, on both; it tells the call and both answers.
func step(r *rand.Rand, d *disk.Disk, m *model) (string, api.Errno, api.Errno) {
	name, other := strconv.Itoa(r.Intn(70)), strconv.Itoa(r.Intn(5))
	body := r.Intn(len(m.data) + 1)
	switch r.Intn(12) {
	case 0, 1, 2:
		if r.Intn(2) == 0 {
			name = other
		}
		one, e := d.Create(name, someMeta)
		two, f := m.create(name)
		return "Create " + strconv.Itoa(one) + " " + strconv.Itoa(two), e + api.Errno(one), f + api.Errno(two)
	case 3, 4, 5:
		data := "abcdefg"[:r.Intn(8)]
		return "Append", d.Append(body, data), m.append(body, data)
	case 6:
		return "Sync", d.Sync(body), m.sync(body)
	case 7:
		d.SyncDir()
		m.states = m.states[len(m.states)-1:]
		return "SyncDir", api.OK, api.OK
	case 8, 9:
		return "Rename", d.Rename(other, name), m.rename(other, name)
	case 10:
		return "Remove", d.Remove(other), m.remove(other)
	}
	if r.Intn(4) > 0 {
		return "nothing", api.OK, api.OK
	}
	dirOps, cuts := r.Intn(40)-1, []int{r.Intn(4) - 1, r.Intn(9), r.Intn(9)}[:r.Intn(4)]
	d.Crash(dirOps, cuts)
	m.crash(dirOps, cuts)
	return "Crash", api.OK, api.OK
}

// same: the volume answers what the model holds.
func same(t *testing.T, d *disk.Disk, m *model) {
	t.Helper()
	wantState(t, d, m.used(), len(m.states)-1, m.names()...)
	for name, body := range m.now() {
		wantFile(t, d, name, body, m.data[body], len(m.data[body])-m.durable[body])
	}
	for body := range m.data {
		if !m.there(body) {
			wantGone(t, d, body)
		}
	}
}

// Calls in orders that nobody thought of: 3.1 to 3.14 together.
func TestModel(t *testing.T) {
	for seed := range int64(150) {
		r := rand.New(rand.NewSource(seed))
		capacity := []int{0, 12, 60, 1000}[seed%4]
		d, m := disk.New(capacity), newModel(capacity)
		for i := range 150 {
			call, got, want := step(r, d, m)
			if got != want {
				t.Errorf("%s: %d, want %d", call, got, want)
			}
			if same(t, d, m); t.Failed() {
				t.Fatalf("seed %d, step %d: %s", seed, i, call)
			}
		}
	}
}
