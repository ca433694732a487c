package poly

import (
	"slices"
	"sync"
	"testing"

	"hamper/api"
	"hamper/field"
	"hamper/sample"
)

// some are polynomials of all sorts: none, 0s alone, 0s at the end, in front and within, the chapter's own, and others.
func some() [][]uint16 {
	all := [][]uint16{
		nil, {}, {0}, {0, 0, 0},
		{1}, {1, 0}, {65535}, {0, 1}, {0, 0, 0, 1, 0},
		{1, 1}, {1, 0, 1}, {3, 0, 1}, {5, 6, 7, 8}, {6, 1, 1},
		{7, 0, 300, 1}, {9, 40000}, {9, 40000, 0, 0}, {0, 0, 65535, 32768, 0, 2},
	}
	s := sample.From(7)
	for _, n := range []int{2, 3, 4, 5, 8, 13, 31} {
		all = append(all, s.List(n))
	}
	return all
}

// points are symbols at which values are asked for.
func points() []uint16 {
	return []uint16{0, 1, 2, 3, 6, 300, 4107, 32768, 40000, 65535}
}

// shortest is p shortened, in its own memory.
func shortest(p []uint16) []uint16 {
	short := []uint16{}
	for i := range p {
		if p[i] != 0 {
			short = append([]uint16{}, p[:i+1]...)
		}
	}
	return short
}

// degree is that of p; -1 of none.
func degree(p []uint16) int { return len(shortest(p)) - 1 }

// coefficient is that of z^i: 0 past the end.
func coefficient(p []uint16, i int) uint16 {
	if i < 0 || i >= len(p) {
		return 0
	}
	return p[i]
}

// longhandSum is the sum, one coefficient by one.
func longhandSum(a, b []uint16) []uint16 {
	sum := make([]uint16, len(a)+len(b))
	for i := range sum {
		sum[i] = field.New().Add(coefficient(a, i), coefficient(b, i))
	}
	return shortest(sum)
}

// longhandProduct is the product: each coefficient is the sum of the products of those whose places are its own together.
func longhandProduct(a, b []uint16) []uint16 {
	f := field.New()
	product := make([]uint16, len(a)+len(b))
	for k := range product {
		for i := 0; i <= k; i++ {
			product[k] = f.Add(product[k], f.Mul(coefficient(a, i), coefficient(b, k-i)))
		}
	}
	return shortest(product)
}

// longhandValue is the value, by the powers of x from the lowest on.
func longhandValue(p []uint16, x uint16) uint16 {
	f := field.New()
	value, power := uint16(0), uint16(1)
	for _, c := range p {
		value = f.Add(value, f.Mul(c, power))
		power = f.Mul(power, x)
	}
	return value
}

// same fails if what is told is not just what is asked for, and so short.
func same(t *testing.T, what string, is, asked []uint16) {
	t.Helper()
	if !slices.Equal(is, asked) {
		t.Errorf("%s: %v, not %v", what, is, asked)
	}
}

// mustDiv is a division that has to be.
func mustDiv(t *testing.T, a, b []uint16) (q, r []uint16) {
	t.Helper()
	q, r, e := Div(a, b)
	if e != api.OK {
		t.Fatalf("Div(%v; %v): %v", a, b, e)
	}
	return q, r
}

func TestExamples(t *testing.T) {
	same(t, "Mul", Mul([]uint16{1, 1}, []uint16{1, 1}), []uint16{1, 0, 1})
	q, r := mustDiv(t, []uint16{1, 0, 1}, []uint16{1, 1})
	same(t, "quotient", q, []uint16{1, 1})
	same(t, "rest", r, nil)
	if v := At([]uint16{3, 0, 1}, 2); v != 7 {
		t.Errorf("At: %d", v)
	}
	same(t, "Slope", Slope([]uint16{5, 6, 7, 8}), []uint16{6, 0, 8})
	same(t, "Of", Of([]uint16{2, 3}), []uint16{6, 1, 1})
}

// P2.1: Short.
func TestShort(t *testing.T) {
	for _, p := range some() {
		same(t, "Short", Short(p), shortest(p))
		same(t, "Short with 0s", Short(append(shortest(p), 0, 0, 0)), shortest(p))
	}
	same(t, "Short of 0s in front", Short([]uint16{0, 0, 9, 0}), []uint16{0, 0, 9})
	same(t, "Short of what is short", Short([]uint16{0, 0, 9}), []uint16{0, 0, 9})
	same(t, "Short of 0s", Short([]uint16{0, 0, 0}), nil)
	same(t, "Short of none", Short(nil), nil)
}

// P2.1: Add, with sums in which the highest coefficients go away.
func TestAdd(t *testing.T) {
	for _, a := range some() {
		for _, b := range some() {
			same(t, "Add", Add(a, b), longhandSum(a, b))
		}
		same(t, "Add to itself", Add(a, a), nil)
		same(t, "Add none", Add(a, nil), shortest(a))
		same(t, "Add to none", Add(nil, a), shortest(a))
	}
	same(t, "Add", Add([]uint16{5, 6, 7}, []uint16{5, 3, 7}), []uint16{0, 5})
	same(t, "Add with 0s", Add([]uint16{1, 0, 0, 0}, []uint16{2, 3}), []uint16{3, 3})
}

// P2.1: Mul.
func TestMul(t *testing.T) {
	for _, a := range some() {
		for _, b := range some() {
			same(t, "Mul", Mul(a, b), longhandProduct(a, b))
		}
		same(t, "Mul by 1", Mul(a, []uint16{1}), shortest(a))
		same(t, "Mul by 1 with 0s", Mul([]uint16{1, 0, 0}, a), shortest(a))
		same(t, "Mul by 0", Mul(a, []uint16{0, 0}), nil)
		same(t, "Mul by none", Mul(nil, a), nil)
	}
	same(t, "Mul", Mul([]uint16{2}, []uint16{32768}), []uint16{4107})
}

// P2.1: Div; the quotient and the rest are the only ones, so that they have to come out of what is made of them.
func TestDiv(t *testing.T) {
	for _, b := range some() {
		if degree(b) < 0 {
			continue
		}
		for _, asked := range some() {
			for _, rest := range some() {
				if degree(rest) >= degree(b) {
					continue
				}
				a := append(longhandSum(longhandProduct(asked, b), rest), 0)
				q, r := mustDiv(t, a, b)
				same(t, "quotient", q, shortest(asked))
				same(t, "rest", r, shortest(rest))
			}
		}
	}
}

// P2.1: a lesser degree, the same one, and divisors with 0s at their end.
func TestDivEdges(t *testing.T) {
	q, r := mustDiv(t, []uint16{5, 6}, []uint16{1, 2, 3})
	same(t, "quotient by a greater one", q, nil)
	same(t, "rest by a greater one", r, []uint16{5, 6})
	q, r = mustDiv(t, []uint16{5, 6, 0, 0, 0, 0}, []uint16{1, 2, 3})
	same(t, "quotient with 0s", q, nil)
	same(t, "rest with 0s", r, []uint16{5, 6})
	q, r = mustDiv(t, []uint16{5, 6, 3}, []uint16{1, 2, 3, 0, 0, 0, 0})
	same(t, "quotient by one of the same degree", q, []uint16{1})
	same(t, "rest by one of the same degree", r, []uint16{4, 4})
	q, r = mustDiv(t, nil, []uint16{7})
	same(t, "quotient of none", q, nil)
	same(t, "rest of none", r, nil)
	q, r = mustDiv(t, []uint16{0, 0}, []uint16{7, 0})
	same(t, "quotient of 0", q, nil)
	same(t, "rest of 0", r, nil)
	q, r = mustDiv(t, []uint16{4, 2, 2}, []uint16{2})
	same(t, "quotient by a number", q, []uint16{2, 1, 1})
	same(t, "rest by a number", r, nil)
	p := []uint16{9, 8, 7}
	q, r = mustDiv(t, p, p)
	same(t, "quotient by itself", q, []uint16{1})
	same(t, "rest by itself", r, nil)
}

// P2.1, R4: by 0 nothing is divided, and nothing is told beside the error.
func TestDivByNought(t *testing.T) {
	for _, a := range some() {
		for _, b := range [][]uint16{nil, {}, {0}, {0, 0, 0}} {
			q, r, e := Div(a, b)
			if e != api.ErrArg || len(q) != 0 || len(r) != 0 {
				t.Errorf("Div(%v; %v): %v, %v, %v", a, b, q, r, e)
			}
		}
	}
}

// P2.1: At.
func TestAt(t *testing.T) {
	for _, p := range some() {
		for _, x := range points() {
			if v := At(p, x); v != longhandValue(p, x) {
				t.Errorf("At(%v; %d): %d, not %d", p, x, v, longhandValue(p, x))
			}
		}
		if v := At(p, 0); v != coefficient(p, 0) {
			t.Errorf("At(%v; 0): %d", p, v)
		}
	}
}

// P2.1: Slope.
func TestSlope(t *testing.T) {
	for _, p := range some() {
		slope := make([]uint16, len(p))
		for i, c := range p {
			if i%2 == 1 {
				slope[i-1] = c
			}
		}
		same(t, "Slope", Slope(p), shortest(slope))
	}
	same(t, "Slope of a number", Slope([]uint16{9}), nil)
	same(t, "Slope of a square", Slope([]uint16{9, 0, 9}), nil)
	same(t, "Slope with 0s", Slope([]uint16{9, 8, 7, 0, 0}), []uint16{8})
}

// P2.1: Of.
func TestOf(t *testing.T) {
	same(t, "Of none", Of(nil), []uint16{1})
	same(t, "Of none", Of([]uint16{}), []uint16{1})
	same(t, "Of 0", Of([]uint16{0}), []uint16{0, 1})
	same(t, "Of 0s", Of([]uint16{0, 0, 0}), []uint16{0, 0, 0, 1})
	same(t, "Of one twice", Of([]uint16{2, 2}), []uint16{4, 0, 1})
	for _, roots := range some() {
		product := []uint16{1}
		for _, x := range roots {
			product = longhandProduct(product, []uint16{x, 1})
		}
		same(t, "Of", Of(roots), product)
		back := slices.Clone(roots)
		slices.Reverse(back)
		same(t, "Of in another row", Of(back), product)
	}
}

// P2.2: sums and products in any row and any brackets.
func TestRing(t *testing.T) {
	for _, a := range some() {
		for _, b := range some() {
			same(t, "a + b", Add(a, b), Add(b, a))
			same(t, "a b", Mul(a, b), Mul(b, a))
			for _, c := range some() {
				same(t, "a + b + c", Add(Add(a, b), c), Add(a, Add(b, c)))
				same(t, "a b c", Mul(Mul(a, b), c), Mul(a, Mul(b, c)))
				same(t, "a (b + c)", Mul(a, Add(b, c)), Add(Mul(a, b), Mul(a, c)))
			}
		}
	}
}

// P2.2: values of sums and products.
func TestRingValues(t *testing.T) {
	f := field.New()
	for _, a := range some() {
		for _, b := range some() {
			for _, x := range points() {
				if At(Add(a, b), x) != f.Add(At(a, x), At(b, x)) {
					t.Errorf("sum of %v and %v at %d", a, b, x)
				}
				if At(Mul(a, b), x) != f.Mul(At(a, x), At(b, x)) {
					t.Errorf("product of %v and %v at %d", a, b, x)
				}
			}
		}
	}
}

// P2.3: quotients and rests put together, and what divides without a rest.
func TestDivided(t *testing.T) {
	for _, b := range some() {
		if degree(b) < 0 {
			continue
		}
		for _, a := range some() {
			q, r := mustDiv(t, a, b)
			same(t, "q b + r", Add(Mul(q, b), r), shortest(a))
			if degree(r) >= degree(b) {
				t.Errorf("Div(%v; %v): rest %v", a, b, r)
			}
			q, r = mustDiv(t, Mul(a, b), b)
			same(t, "quotient of a product", q, shortest(a))
			same(t, "rest of a product", r, nil)
		}
	}
}

// P2.3: one of roots is 0 at each of them and at no other symbol of the whole field.
func TestRootsAlone(t *testing.T) {
	s := sample.From(3)
	for _, roots := range [][]uint16{{}, {0}, {65535}, {5, 6, 7}, {9, 9, 0, 1}, s.List(8)} {
		p := Of(roots)
		for x := range 1 << 16 {
			if is := At(p, uint16(x)) == 0; is != slices.Contains(roots, uint16(x)) {
				t.Errorf("Of(%v) at %d: 0 is %v", roots, x, is)
			}
		}
	}
}

// P2.4: slopes of sums and products.
func TestSlopes(t *testing.T) {
	for _, a := range some() {
		for _, b := range some() {
			same(t, "slope of a sum", Slope(Add(a, b)), Add(Slope(a), Slope(b)))
			same(t, "slope of a product", Slope(Mul(a, b)), Add(Mul(a, Slope(b)), Mul(b, Slope(a))))
		}
	}
}

// P2.5: degrees of products and sums; len tells them, so that what is told has to be short.
func TestDegrees(t *testing.T) {
	for _, a := range some() {
		for _, b := range some() {
			da, db := degree(a), degree(b)
			if d := len(Mul(a, b)) - 1; da >= 0 && db >= 0 && d != da+db {
				t.Errorf("product of %v and %v: degree %d", a, b, d)
			}
			d := len(Add(a, b)) - 1
			if d > max(da, db) || da != db && d != max(da, db) {
				t.Errorf("sum of %v and %v: degree %d", a, b, d)
			}
		}
	}
}

// P2.6: no more roots than the degree.
func TestFewRoots(t *testing.T) {
	for _, p := range [][]uint16{{4}, {0, 4}, {1, 0, 1}, {7, 0, 300, 1}, {1, 1, 1}, {0, 1, 0, 0, 1}, Mul([]uint16{9}, Of([]uint16{1, 2, 3, 4}))} {
		roots := 0
		for x := range 1 << 16 {
			if At(p, uint16(x)) == 0 {
				roots++
			}
		}
		if roots > degree(p) {
			t.Errorf("%v: %d roots", p, roots)
		}
	}
}

// P2.6: what is left by z + x, and multiples of it.
func TestRootDivides(t *testing.T) {
	for _, p := range some() {
		for _, x := range points() {
			_, r := mustDiv(t, p, []uint16{x, 1})
			same(t, "rest by z + x", r, shortest([]uint16{At(p, x)}))
			// With its value added it is 0 at x, so it has to be a multiple.
			rooted := Add(p, []uint16{At(p, x)})
			if At(rooted, x) != 0 {
				t.Errorf("%v at %d: not 0", rooted, x)
			}
			q, r := mustDiv(t, rooted, Of([]uint16{x}))
			same(t, "rest by a root", r, nil)
			same(t, "multiple", Mul(q, []uint16{x, 1}), rooted)
		}
	}
}

// P2.7: noughts ahead.
func TestHigher(t *testing.T) {
	for _, p := range some() {
		for n := range 5 {
			power := append(make([]uint16, n), 1)
			higher := append(make([]uint16, n), p...)
			same(t, "noughts ahead", Short(higher), Mul(p, power))
			same(t, "power of z", Of(make([]uint16, n)), power)
		}
	}
}

// answers are all lists that are told of a and b.
func answers(a, b []uint16) [][]uint16 {
	q, r, _ := Div(a, b)
	return [][]uint16{Short(a), Add(a, b), Mul(a, b), q, r, Slope(a), Of(a)}
}

// R3, P2.1: what is handed in stays as it is, and so does what was told, whatever is written into what else was told.
func TestNewMemory(t *testing.T) {
	for _, p := range some() {
		for _, o := range some() {
			a, b := sample.Roomy(p, 11), sample.Roomy(o, 11)
			wholeA, wholeB := slices.Clone(sample.Whole(a)), slices.Clone(sample.Whole(b))
			asked, told := answers(slices.Clone(p), slices.Clone(o)), answers(a, b)
			for i := range told {
				same(t, "told", told[i], asked[i])
				for j := range sample.Whole(told[i]) {
					sample.Whole(told[i])[j] = 999
				}
				for k := i + 1; k < len(told); k++ {
					same(t, "told beside it", told[k], asked[k])
				}
			}
			for i := range told {
				for j := range told[i] {
					if told[i][j] != 999 {
						t.Errorf("list %d of %v and %v shares memory with another one", i, p, o)
					}
				}
			}
			same(t, "a with its room", sample.Whole(a), wholeA)
			same(t, "b with its room", sample.Whole(b), wholeB)
		}
	}
}

// R3: one list as both arguments.
func TestSameTwice(t *testing.T) {
	for _, p := range some() {
		a, kept := sample.Roomy(p, 11), slices.Clone(p)
		same(t, "square", Mul(a, a), longhandProduct(p, p))
		same(t, "twice", Add(a, a), nil)
		if q, r, e := Div(a, a); degree(p) >= 0 && (e != api.OK || !slices.Equal(q, []uint16{1}) || len(r) != 0) {
			t.Errorf("Div(%v; itself): %v, %v, %v", p, q, r, e)
		}
		same(t, "a", a, kept)
	}
}

// R2: the same answers from many at once.
func TestMany(t *testing.T) {
	a, b := []uint16{7, 0, 300, 1}, []uint16{9, 40000}
	asked := answers(a, b)
	var all sync.WaitGroup
	for range 8 {
		all.Go(func() {
			for range 50 {
				for i, p := range answers(a, b) {
					same(t, "told", p, asked[i])
				}
			}
		})
	}
	all.Wait()
}

// Long ones, whose lists outgrow any fixed room.
func TestLong(t *testing.T) {
	s := sample.From(5)
	a, b := append(s.List(700), 1), append(s.List(255), 9)
	product := Mul(a, b)
	same(t, "long product", product, longhandProduct(a, b))
	q, r := mustDiv(t, Add(product, []uint16{3, 4}), b)
	same(t, "long quotient", q, a)
	same(t, "long rest", r, []uint16{3, 4})
	roots := s.List(255)
	p := Of(roots)
	if len(p) != 256 || p[255] != 1 {
		t.Errorf("Of 255: %d coefficients", len(p))
	}
	for _, x := range roots {
		if At(p, x) != 0 {
			t.Errorf("Of 255 at %d: not 0", x)
		}
	}
}

func BenchmarkMul(b *testing.B) {
	s := sample.From(5)
	p, q := s.List(128), s.List(128)
	for b.Loop() {
		Mul(p, q)
	}
}

func BenchmarkAt(b *testing.B) {
	s := sample.From(5)
	p := s.List(255)
	for b.Loop() {
		At(p, 777)
	}
}
