package emit

import (
	"testing"

	"cartulary/api"
)

// What went out of the list is not kept in its spare room: no call tells it, so only from within it can be seen.
func TestTheSpareRoomIsClear(t *testing.T) {
	b := New()
	for n := range 300 {
		if _, err := b.Add(api.Hash{1, byte(n), byte(n >> 8)}); err != nil {
			t.Fatal(err)
		}
		for i, h := range b.hashes[len(b.hashes):cap(b.hashes)] {
			if h != (api.Hash{}) {
				t.Fatalf("behind %d leaves %x stands %d behind the list's end", n+1, h, i+1)
			}
		}
	}
}
