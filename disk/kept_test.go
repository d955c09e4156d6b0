package disk

import (
	"testing"

	"calliope/api"
)

// The document's section Ways, disk: what is healed is deleted. No call tells it, so it is asked of the map itself; so are readings that have failed as often as was said, and a byte that is spoilt by nought.
func TestKept(t *testing.T) {
	d, err := New(make([]byte, 3*api.PageBytes))
	if err != api.OK {
		t.Fatal(err)
	}
	for i, x := range []struct {
		do   func()
		kept int
	}{
		{func() { d.Fail(0, 0) }, 0},
		{func() { d.Heal(0) }, 0},
		{func() { d.Fail(0, -1) }, 1},
		{func() { d.Spoil(0, 1, 2) }, 1},
		{func() { d.Heal(0) }, 0},
		{func() { d.Fail(1, 1) }, 1},
		{func() { d.Spoil(2, 0, 1) }, 2},
		{func() { d.Read(1) }, 1},
		{func() { d.Spoil(2, 63, 0) }, 0},
		{func() { d.Read(0) }, 0},
	} {
		x.do()
		if len(d.faults) != x.kept {
			t.Fatalf("behind step %d: %d pages are kept, want %d", i, len(d.faults), x.kept)
		}
	}
}
