package words

import (
	"encoding/binary"
	"math"
	"math/rand"
	"testing"
)

// putOf holds groups of one size of unsigned integer against the library's.
func putOf[T unsigned](t *testing.T, all []T) {
	t.Helper()
	for _, n := range all {
		if s, want := groups(n), string(binary.AppendUvarint(nil, uint64(n))); s != want {
			t.Fatalf("groups of %T %d: %x, want %x", n, n, s, want)
		}
	}
}

// cut is integers of all lengths, their highest bits cut off.
func cut[T unsigned]() []T {
	var out []T
	r := rand.New(rand.NewSource(3))
	for range 2000 {
		x := r.Uint64() >> r.Intn(64)
		out = append(out, T(x), T(x>>1<<1), T(x|1))
	}
	return out
}

// Ways: one function writes unsigned integers of any size, up to the greatest of each.
func TestGroupsOfAnySize(t *testing.T) {
	for n := range math.MaxUint16 + 1 {
		putOf(t, []uint16{uint16(n)})
		putOf(t, []uint8{uint8(n)})
	}
	putOf(t, append(cut[uint](), 0, math.MaxUint))
	putOf(t, append(cut[uint32](), 0, math.MaxUint32))
	putOf(t, append(cut[uint64](), 0, math.MaxUint64))
}
