package elf

import (
	"testing"

	"shelf/api"
)

// R1: whatever a reading gives up with, a face makes a refusal of it, and none of what did not give up.
func TestRefusal(t *testing.T) {
	caught := func(read func()) (e api.Errno) {
		defer func() { e = refusal(recover()) }()
		read()
		return api.ErrLink
	}
	var none []int
	for _, c := range []struct {
		read func()
		e    api.Errno
	}{
		{func() {}, api.OK},
		{func() { require(true, api.ErrEntSize) }, api.OK},
		{func() { require(false, api.ErrEntSize) }, api.ErrEntSize},
		{func() { none[len(none)] = 0 }, api.ErrCut},
		{func() { panic("words") }, api.ErrCut},
	} {
		if e := caught(c.read); e != c.e {
			t.Errorf("refusal %d, want %d", e, c.e)
		}
	}
}
