// Package field is layer 1: a field of 65536 numbers; see shared/doc/01-field.md.
package field

// order is how many powers of x there are that are not the same.
const order = 65535

// The small and the large steps of a log: 257 times 255 are order, so that each power is reached by just one of each.
const (
	smallSteps = 257
	largeSteps = 255
)

// Field is the field. It keeps nothing, so that New costs nothing and many may use one at the same time.
type Field struct{}

// New is the field.
func New() *Field { return &Field{} }

// Add is a sum.
func (f *Field) Add(a, b uint16) uint16 {
	if f == nil {
		return 0
	}
	return a ^ b
}

// Mul is a product.
func (f *Field) Mul(a, b uint16) uint16 {
	if f == nil {
		return 0
	}
	return times(a, b)
}

// Inv is the number whose product with a is 1.
func (f *Field) Inv(a uint16) (uint16, bool) {
	if f == nil || a == 0 {
		return 0, false
	}
	return power(a, order-1), true
}

// Exp is a power of x.
func (f *Field) Exp(n int) uint16 {
	if f == nil {
		return 0
	}
	n %= order
	if n < 0 {
		n += order
	}
	return power(2, n)
}

// Log is the log of a number.
func (f *Field) Log(a uint16) (int, bool) {
	if f == nil || a == 0 {
		return 0, false
	}
	small := smallPowers()
	back := power(2, order-smallSteps)
	for large := range largeSteps {
		if n, is := small[a]; is {
			return large*smallSteps + n, true
		}
		a = times(a, back)
	}
	return 0, false
}

// smallPowers tells of each of the first powers of x which one it is.
func smallPowers() map[uint16]int {
	powers := make(map[uint16]int, smallSteps)
	a := uint16(1)
	for n := range smallSteps {
		powers[a] = n
		a = times(a, 2)
	}
	return powers
}

// power is a taken n times as a factor, n being from 0 on.
func power(a uint16, n int) uint16 {
	p := uint16(1)
	for ; n > 0; n >>= 1 {
		if n&1 == 1 {
			p = times(p, a)
		}
		a = times(a, a)
	}
	return p
}

// times is the product in the field.
func times(a, b uint16) uint16 {
	return reduce(product[uint16, uint32](a, b))
}

// width is how wide a number is whose bits are a polynomial's coefficients.
type width interface{ uint16 | uint32 }

// product is that of two polynomials over bits, as it is: it has up to twice their bits, so it is told in a wider number than they are.
func product[Narrow, Wide width](a, b Narrow) Wide {
	var sum Wide
	for shifted := Wide(a); b != 0; b >>= 1 {
		// A product with the bit, not a branch: which bits are set can't be foreseen.
		sum ^= shifted * Wide(b&1)
		shifted <<= 1
	}
	return sum
}

// reduce takes x^16 + x^12 + x^3 + x + 1 away till less than x^16 is left. What stands at x^16 and above goes down by 4 powers or more each time, so there are few times.
func reduce(wide uint32) uint16 {
	for wide > 0xFFFF {
		high := wide >> 16
		wide = wide&0xFFFF ^ high<<12 ^ high<<3 ^ high<<1 ^ high
	}
	return uint16(wide)
}
