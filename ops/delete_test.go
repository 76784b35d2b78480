package ops_test

import (
	"testing"

	"shelf/api"
	"shelf/ops"
)

// 13.2: what is named goes, the others keep their order, whatever the order of names.
func TestDelete(t *testing.T) {
	wantDelete(t, "a.1:p b.2:q c.3:r d.4:s", "b", "a.1:p c.3:r d.4:s")
	wantDelete(t, "a.1:p b.2:q c.3:r d.4:s", "d a", "b.2:q c.3:r")
	wantDelete(t, "a.1:p b.2:q c.3:r d.4:s", "a d", "b.2:q c.3:r")
	wantDelete(t, "a - b", "-", "a b")
}

// 13.2: of members of one name the first ones go, as many as are named.
func TestDeleteOfOneName(t *testing.T) {
	wantDelete(t, "a:1 a:2 a:3", "a", "a:2 a:3")
	wantDelete(t, "a:1 a:2 a:3", "a a", "a:3")
	wantDelete(t, "a:1 a:2 a:3", "a a a", "")
	wantDelete(t, "a:1 b:1 a:2 b:2 a:3", "b a", "a:2 b:2 a:3")
	wantNoDelete(t, "a:1 a:2 a:3", "a a a a", "a")
}

// 13.2: all members.
func TestDeleteAll(t *testing.T) {
	wantDelete(t, "a", "a", "")
	wantDelete(t, "a b c", "c a b", "")
	wantDelete(t, "a:1 b a:2", "b a a", "")
}

// 13.2: no names: the list as it is.
func TestDeleteNothing(t *testing.T) {
	wantDelete(t, "", "", "")
	wantDelete(t, "a:1 b a:2", "", "a:1 b a:2")
}

// 13.2: the first name that is missing is told, also if it is the empty one, and nothing else is answered.
func TestDeleteMissing(t *testing.T) {
	wantNoDelete(t, "", "a", "a")
	wantNoDelete(t, "a b", "y a x", "y")
	wantNoDelete(t, "a b", "b x a y", "x")
	wantNoDelete(t, "a b", "a a x", "a")
	wantNoDelete(t, "a b", "b x b", "x")
	wantNoDelete(t, "a b", "-", "")
	wantNoDelete(t, "a b", "a - x", "")
	if l, name, e := ops.Delete(list("a"), []string{"b\xff\n"}); l != nil || name != "b\xff\n" || e != api.ErrNoMember {
		t.Errorf("%s, %q, %d", told(l), name, e)
	}
}
