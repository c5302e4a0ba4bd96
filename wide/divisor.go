package wide

// commonDivisor returns the greatest common divisor of two numbers. It follows Lehmer: most quotients of Euclid's algorithm depend on the leading digits alone, so that many of its steps take one pass over the limbs.
func commonDivisor(a, b natural) natural {
	if compare(a, b) < 0 {
		a, b = b, a
	}
	for len(b) > 0 && len(a) > wordLimbs {
		first, second := leadingSteps(leadingDigits(a, b))
		if first.ofB == 0 {
			_, rest := divide(a, b)
			a, b = b, rest
		} else {
			a, b = first.sum(a, b), second.sum(a, b)
		}
	}
	if len(b) == 0 {
		return a
	}
	return naturalOf(commonDivisorOfWords(a.word(), b.word()))
}

// commonDivisorOfWords returns the greatest common divisor of two machine words.
func commonDivisorOfWords(a, b uint64) uint64 {
	for b > 0 {
		a, b = b, a%b
	}
	return a
}

// leadingDigits returns the 18 highest digits of a, which has more than two limbs, and the digits of b at the same places.
func leadingDigits(a, b natural) (int64, int64) {
	top := len(a) - 1
	shift := int64(1)
	for int64(a[top])*shift*10 < base {
		shift *= 10
	}
	digits := func(n natural) int64 {
		limb := func(at int) int64 {
			if at < len(n) {
				return int64(n[at])
			}
			return 0
		}
		return (limb(top)*base+limb(top-1))*shift + limb(top-2)/(base/shift)
	}
	return digits(a), digits(b)
}

// multiples stands for a remainder of Euclid's algorithm, as a sum of multiples of the two numbers with which it began.
type multiples struct {
	ofA, ofB int64
}

// leadingSteps takes steps of Euclid's algorithm for two numbers of which it has the leading digits, where x is not less than y, and returns the last two remainders. It goes on while, by Collins' condition, the digits that it does not have make no difference; ofB of the first remainder is 0 if they make one at once. No result is as great as the base.
func leadingSteps(x, y int64) (multiples, multiples) {
	first, second, third := multiples{}, multiples{ofA: 1}, multiples{ofB: 1}
	for y >= abs(third.ofB) && x-y >= abs(second.ofB)+abs(third.ofB) {
		quotient := x / y
		next := multiples{second.ofA - quotient*third.ofA, second.ofB - quotient*third.ofB}
		x, y = y, x%y
		first, second, third = second, third, next
	}
	return first, second
}

// sum returns the remainder that m stands for, which is not negative and has no more limbs than a.
func (m multiples) sum(a, b natural) natural {
	out := make(natural, len(a))
	// What is carried beyond the limbs cancels out.
	out.addMultiple(a, m.ofA)
	out.addMultiple(b, m.ofB)
	return out.trim()
}

func abs(n int64) int64 {
	return max(n, -n)
}
