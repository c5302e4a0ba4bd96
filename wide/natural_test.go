package wide

import (
	"slices"
	"testing"
)

// TestLimbsAreCopied checks that no operation changes the limbs of its operands, including their spare capacity.
func TestLimbsAreCopied(t *testing.T) {
	operations := map[string]func(a, b natural){
		"sum":           func(a, b natural) { sum(a, b) },
		"difference":    func(a, b natural) { difference(a, b) },
		"product":       func(a, b natural) { product(a, b) },
		"divide":        func(a, b natural) { divide(a, b) },
		"divideByLimb":  func(a, b natural) { divideByLimb(a, b[0]) },
		"commonDivisor": func(a, b natural) { commonDivisor(a, b) },
	}
	for name, operate := range operations {
		for _, lengths := range [][2]int{{1, 1}, {3, 1}, {3, 2}, {4, 4}, {7, 3}} {
			a, b := limbsBefore(77, lengths[0]), limbsBefore(55, lengths[1])
			operate(a, b)
			if wantA, wantB := limbsBefore(77, lengths[0]), limbsBefore(55, lengths[1]); !slices.Equal(a[:cap(a)], wantA[:cap(wantA)]) || !slices.Equal(b[:cap(b)], wantB[:cap(wantB)]) {
				t.Errorf("%s of %d and %d limbs changes an operand: %v, %v", name, lengths[0], lengths[1], a[:cap(a)], b[:cap(b)])
			}
		}
	}
}

// limbsBefore returns a number with a highest limb, and with spare capacity that is not 0.
func limbsBefore(highest uint32, length int) natural {
	n := make(natural, length+2)
	for i := range n {
		n[i] = 999_999_990 - uint32(i)
	}
	n[length-1] = highest
	return n[:length]
}
