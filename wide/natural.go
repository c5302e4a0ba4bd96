package wide

import (
	"cmp"
	"slices"
	"strconv"
)

// Nine digits are the most that fit a limb of 32 bits, and two limbs the most that fit a word of 64 bits.
const (
	base       = 1_000_000_000
	limbDigits = 9
	wordLimbs  = 2
	wordLimit  = base * base
)

// natural is a natural number as limbs of nine digits each, the lowest first; the highest one is not 0, and 0 has none.
type natural []uint32

// readNatural returns the number that a text of decimal digits stands for.
func readNatural(digits string) natural {
	n := make(natural, (len(digits)+limbDigits-1)/limbDigits)
	for i := range len(n) {
		end := len(digits) - i*limbDigits
		begin := max(end-limbDigits, 0)
		for j := range end - begin {
			n[i] = n[i]*10 + uint32(digits[begin+j]-'0')
		}
	}
	return n.trim()
}

// naturalOf returns the number of a machine word.
func naturalOf(word uint64) natural {
	return natural{uint32(word % base), uint32(word / base % base), uint32(word / base / base)}.trim()
}

// word returns the number of at most two limbs as a machine word.
func (n natural) word() uint64 {
	value := uint64(0)
	for i := range len(n) {
		value = value*base + uint64(n[len(n)-1-i])
	}
	return value
}

// appendTo appends the decimal digits of n to a text.
func (n natural) appendTo(text []byte) []byte {
	if len(n) == 0 {
		return append(text, '0')
	}
	top := len(n) - 1
	text = strconv.AppendUint(text, uint64(n[top]), 10)
	for i := range top {
		// The base has a 1 before nine zeros: added to a limb, it keeps the zeros with which the limb begins.
		text = append(text, strconv.Itoa(base + int(n[top-1-i]))[1:]...)
	}
	return text
}

// trim leaves out the highest limbs that are 0.
func (n natural) trim() natural {
	for len(n) > 0 && n[len(n)-1] == 0 {
		n = n[:len(n)-1]
	}
	return n
}

// extended returns a copy of n with at least as many limbs as asked for, which may be changed.
func (n natural) extended(limbs int) natural {
	wide := make(natural, max(limbs, len(n)))
	copy(wide, n)
	return wide
}

// addMultiple adds count times other to n, in place, and returns the carry beyond the limbs of n. Both count and the carry may be negative; other must not have more limbs than n.
func (n natural) addMultiple(other natural, count int64) int64 {
	carry := int64(0)
	for i := range len(n) {
		total := int64(n[i]) + carry
		if i < len(other) {
			total += int64(other[i]) * count
		} else if carry == 0 {
			return 0
		}
		limb := (total%base + base) % base
		n[i] = uint32(limb)
		carry = (total - limb) / base
	}
	return carry
}

// compare returns -1, 0 or 1 if a is less than, equal to, or greater than b.
func compare(a, b natural) int {
	if len(a) != len(b) {
		return cmp.Compare(len(a), len(b))
	}
	for i := range len(a) {
		at := len(a) - 1 - i
		if a[at] != b[at] {
			return cmp.Compare(a[at], b[at])
		}
	}
	return 0
}

func sum(a, b natural) natural {
	out := a.extended(max(len(a), len(b)) + 1)
	out.addMultiple(b, 1)
	return out.trim()
}

// difference returns a - b, where b is at most a.
func difference(a, b natural) natural {
	out := a.extended(len(a))
	out.addMultiple(b, -1)
	return out.trim()
}

func product(a, b natural) natural {
	out := make(natural, len(a)+len(b))
	for i := range len(a) {
		// The limb above the window has not been reached yet, so there is room for the carry.
		out[i:i+len(b)+1].addMultiple(b, int64(a[i]))
	}
	return out.trim()
}

// divide returns the quotient and the remainder of a and b, where b is not 0.
func divide(a, b natural) (natural, natural) {
	if compare(a, b) < 0 {
		return nil, slices.Clone(a)
	}
	if len(b) == 1 {
		quotient, rest := divideByLimb(a, b[0])
		return quotient, natural{rest}.trim()
	}
	// With a divisor whose highest limb is at least half of the base, an estimate of a limb of the quotient is at most 2 too great.
	scale := natural{base / (b[len(b)-1] + 1)}
	divisor := product(b, scale)
	rest := product(a, scale).extended(len(a) + 1)
	quotient := make(natural, len(a)-len(b)+1)
	for i := range len(quotient) {
		at := len(quotient) - 1 - i
		quotient[at] = reduce(rest[at:at+len(b)+1], divisor)
	}
	rest, _ = divideByLimb(rest, scale[0])
	return quotient.trim(), rest
}

// divideByLimb returns the quotient and the remainder of a number and a divisor of one limb, which is not 0.
func divideByLimb(a natural, divisor uint32) (natural, uint32) {
	quotient := a.extended(len(a))
	rest := uint64(0)
	for i := range len(a) {
		at := len(a) - 1 - i
		part := rest*base + uint64(a[at])
		quotient[at] = uint32(part / uint64(divisor))
		rest = part % uint64(divisor)
	}
	return quotient.trim(), uint32(rest)
}

// reduce takes the divisor away from rest, in place, as often as possible, and returns how often. The rest has one limb more than the divisor and is less than the divisor times the base.
func reduce(rest, divisor natural) uint32 {
	n := len(divisor)
	head := uint64(rest[n])*base + uint64(rest[n-1])
	times := int64(min(head/uint64(divisor[n-1]), base-1))
	over := int64(rest[n]) + rest[:n].addMultiple(divisor, -times)
	for over < 0 {
		over += rest[:n].addMultiple(divisor, 1)
		times--
	}
	rest[n] = 0
	return uint32(times)
}
