package bag

import (
	"math/rand/v2"
	"testing"

	"copse/api"
)

// Blocks keep their room, and stay few whatever comes and goes: two neighbours have more than half of what goes into one.
func TestBlocks(t *testing.T) {
	random := rand.New(rand.NewPCG(18, 3))
	b := New()
	var there []api.Score
	for i := range 20000 {
		if i/2500%2 == 0 || len(there) == 0 {
			s := api.Score{P: random.IntN(3000), Q: 1}
			b.Add(s)
			there = append(there, s)
		} else {
			k := random.IntN(len(there))
			b.Drop(there[k])
			there[k] = there[len(there)-1]
			there = there[:len(there)-1]
		}
		for k, l := range b.blocks {
			if cap(l) != size || len(l) == 0 && len(b.blocks) > 1 {
				t.Fatal(i, k, len(l), cap(l))
			}
			if k > 0 && len(b.blocks[k-1])+len(l) <= size/2 {
				t.Fatal(i, k, len(b.blocks[k-1]), len(l))
			}
		}
	}
}
