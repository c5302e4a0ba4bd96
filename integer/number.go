package integer

// number is an integer: its size, and whether it is less than 0.
type number struct {
	negative bool
	size     natural
}

// signed returns the number with a sign and a size; 0 has no sign.
func signed(negative bool, size natural) number {
	return number{negative: negative && len(size) > 0, size: size}
}

// read returns the number of a text, and whether the text is canonical.
func read(s string) (number, bool) {
	if !Valid(s) {
		return number{}, false
	}
	if s[0] == '-' {
		return signed(true, readNatural(s[1:])), true
	}
	return signed(false, readNatural(s)), true
}

// readBoth returns the numbers of two texts, and whether both texts are canonical.
func readBoth(a, b string) (number, number, bool) {
	x, okA := read(a)
	y, okB := read(b)
	return x, y, okA && okB
}

func (x number) text() string {
	text := make([]byte, 0, 1+limbDigits*max(len(x.size), 1))
	if x.negative {
		text = append(text, '-')
	}
	return string(x.size.appendTo(text))
}

func (x number) negated() number {
	return signed(!x.negative, x.size)
}

func (x number) plus(y number) number {
	if x.negative == y.negative {
		return signed(x.negative, sum(x.size, y.size))
	}
	if compare(x.size, y.size) < 0 {
		return signed(y.negative, difference(y.size, x.size))
	}
	return signed(x.negative, difference(x.size, y.size))
}

func (x number) minus(y number) number {
	return x.plus(y.negated())
}

func (x number) times(y number) number {
	return signed(x.negative != y.negative, product(x.size, y.size))
}

// divideDown returns the greatest integer that is at most x/y, and the remainder, where y is not 0.
func (x number) divideDown(y number) (number, number) {
	size, restSize := divide(x.size, y.size)
	quotient := signed(x.negative != y.negative, size)
	rest := signed(x.negative, restSize)
	if len(rest.size) > 0 && rest.negative != y.negative {
		one := signed(false, natural{1})
		return quotient.minus(one), rest.plus(y)
	}
	return quotient, rest
}
