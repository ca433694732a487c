package field

import (
	"math"
	"sync"
	"testing"
)

// edges are numbers whose bits are at the ends, or all of one kind, and the chapter's own.
func edges() []uint16 {
	return []uint16{0, 1, 2, 3, 5, 6, 255, 256, 777, 4107, 21845, 32767, 32768, 43690, 65534, 65535}
}

// some are the edges and numbers from all over the field, the same ones each time.
func some(count int) []uint16 {
	list := edges()
	for s := uint32(1); len(list) < count; {
		s = s*1664525 + 1013904223
		list = append(list, uint16(s>>16))
	}
	return list
}

// longhand is the product as the chapter's words have it: all bits of both, and then the polynomial taken away from the highest bit down.
func longhand(a, b uint16) uint16 {
	const polynomial = 1<<16 | 1<<12 | 1<<3 | 1<<1 | 1
	wide := uint64(0)
	for i := range 16 {
		for j := range 16 {
			if a>>i&1 == 1 && b>>j&1 == 1 {
				wide ^= 1 << (i + j)
			}
		}
	}
	for i := 30; i >= 16; i-- {
		if wide>>i&1 == 1 {
			wide ^= polynomial << (i - 16)
		}
	}
	return uint16(wide)
}

// powers are x^0 to x^65534, each by a shift of the one ahead of it.
func powers() []uint16 {
	list := make([]uint16, 65535)
	wide := uint32(1)
	for n := range list {
		list[n] = uint16(wide)
		wide <<= 1
		if wide > 65535 {
			wide ^= 1<<16 | 1<<12 | 1<<3 | 1<<1 | 1
		}
	}
	return list
}

// mustInv is an inverse that has to be there.
func mustInv(t *testing.T, f *Field, a uint16) uint16 {
	t.Helper()
	x, is := f.Inv(a)
	if !is {
		t.Fatalf("Inv(%d): no", a)
	}
	return x
}

// mustLog is a log that has to be there.
func mustLog(t *testing.T, f *Field, a uint16) int {
	t.Helper()
	n, is := f.Log(a)
	if !is {
		t.Fatalf("Log(%d): no", a)
	}
	return n
}

func TestExamples(t *testing.T) {
	f := New()
	if f == nil {
		t.Fatal("New: nil")
	}
	if p := f.Mul(2, 32768); p != 4107 {
		t.Errorf("Mul(2, 32768): %d", p)
	}
	if p := f.Exp(16); p != 4107 {
		t.Errorf("Exp(16): %d", p)
	}
	if n, is := f.Log(4107); n != 16 || !is {
		t.Errorf("Log(4107): %d %v", n, is)
	}
	if s := f.Add(5, 3); s != 6 {
		t.Errorf("Add(5, 3): %d", s)
	}
	if p := f.Mul(f.Exp(-1), 2); p != 1 {
		t.Errorf("Exp(-1) times 2: %d", p)
	}
	if x, is := f.Inv(0); x != 0 || is {
		t.Errorf("Inv(0): %d %v", x, is)
	}
}

// P1.1

func TestAddIsExclusiveOr(t *testing.T) {
	f := New()
	for _, a := range edges() {
		for b := range 65536 {
			b := uint16(b)
			if s := f.Add(a, b); s != a^b {
				t.Fatalf("Add(%d, %d): %d", a, b, s)
			}
		}
	}
}

func TestMulIsTheProduct(t *testing.T) {
	f := New()
	for _, a := range edges() {
		for b := range 65536 {
			b := uint16(b)
			want := longhand(a, b)
			if p := f.Mul(a, b); p != want {
				t.Fatalf("Mul(%d, %d): %d, not %d", a, b, p, want)
			}
			if p := f.Mul(b, a); p != want {
				t.Fatalf("Mul(%d, %d): %d, not %d", b, a, p, want)
			}
		}
	}
	for _, a := range some(400) {
		for _, b := range some(400) {
			if p, want := f.Mul(a, b), longhand(a, b); p != want {
				t.Fatalf("Mul(%d, %d): %d, not %d", a, b, p, want)
			}
		}
	}
}

func TestInv(t *testing.T) {
	f := New()
	for a := 1; a < 65536; a++ {
		x := mustInv(t, f, uint16(a))
		if p := longhand(uint16(a), x); p != 1 {
			t.Fatalf("Inv(%d): %d, the product is %d", a, x, p)
		}
	}
	if x := mustInv(t, f, 1); x != 1 {
		t.Errorf("Inv(1): %d", x)
	}
	if x, is := f.Inv(0); x != 0 || is {
		t.Errorf("Inv(0): %d %v", x, is)
	}
}

// P1.2

func TestExp(t *testing.T) {
	f := New()
	list := powers()
	for n := -2 * 65535; n <= 2*65535; n++ {
		if p, want := f.Exp(n), list[(n+2*65535)%65535]; p != want {
			t.Fatalf("Exp(%d): %d, not %d", n, p, want)
		}
	}
}

func TestExpAtTheEdges(t *testing.T) {
	f := New()
	for _, c := range []struct {
		n    int
		want uint16
	}{
		{0, 1}, {1, 2}, {15, 32768}, {16, 4107}, {65535, 1}, {65536, 2}, {-65535, 1}, {-65534, 2},
		{65535 * 65535, 1}, {-65535*65535 + 1, 2},
	} {
		if p := f.Exp(c.n); p != c.want {
			t.Errorf("Exp(%d): %d, not %d", c.n, p, c.want)
		}
	}
	if p := f.Mul(f.Exp(65534), 2); p != 1 || f.Exp(65534) != f.Exp(-1) {
		t.Errorf("Exp(65534) times 2: %d", p)
	}
	list := powers()
	if p := f.Exp(math.MaxInt); p != list[math.MaxInt%65535] {
		t.Errorf("Exp of the greatest: %d", p)
	}
	if p := f.Exp(math.MinInt); p != list[65535+math.MinInt%65535] {
		t.Errorf("Exp of the least: %d", p)
	}
}

func TestExpIsOneOnlyAtMultiples(t *testing.T) {
	f := New()
	for n := 1; n < 65535; n++ {
		if f.Exp(n) == 1 {
			t.Fatalf("Exp(%d): 1", n)
		}
	}
}

func TestLog(t *testing.T) {
	f := New()
	for want, a := range powers() {
		if n := mustLog(t, f, a); n != want {
			t.Fatalf("Log(%d): %d, not %d", a, n, want)
		}
	}
	if n, is := f.Log(0); n != 0 || is {
		t.Errorf("Log(0): %d %v", n, is)
	}
}

// P1.3

func TestSumsAndProductsInAnyRow(t *testing.T) {
	f := New()
	list := some(64)
	for _, a := range list {
		for _, b := range list {
			if f.Add(a, b) != f.Add(b, a) || f.Mul(a, b) != f.Mul(b, a) {
				t.Fatalf("%d, %d: another row", a, b)
			}
			for _, c := range list {
				if f.Add(f.Add(a, b), c) != f.Add(a, f.Add(b, c)) || f.Mul(f.Mul(a, b), c) != f.Mul(a, f.Mul(b, c)) {
					t.Fatalf("%d, %d, %d: other brackets", a, b, c)
				}
				if f.Mul(a, f.Add(b, c)) != f.Add(f.Mul(a, b), f.Mul(a, c)) {
					t.Fatalf("%d, %d, %d: a product does not go over a sum", a, b, c)
				}
			}
		}
	}
}

func TestNoughtAndOne(t *testing.T) {
	f := New()
	for a := range 65536 {
		a := uint16(a)
		if f.Add(a, a) != 0 || f.Add(a, 0) != a || f.Mul(a, 1) != a || f.Mul(1, a) != a {
			t.Fatalf("%d: with itself, 0 and 1", a)
		}
		if f.Mul(a, 0) != 0 || f.Mul(0, a) != 0 {
			t.Fatalf("%d times 0", a)
		}
		if _, is := f.Inv(a); is != (a != 0) {
			t.Fatalf("Inv(%d): %v", a, is)
		}
	}
}

func TestAProductIsNoughtOnlyOfNought(t *testing.T) {
	f := New()
	for _, a := range some(64) {
		for b := range 65536 {
			if b := uint16(b); (f.Mul(a, b) == 0) != (a == 0 || b == 0) {
				t.Fatalf("Mul(%d, %d): %d", a, b, f.Mul(a, b))
			}
		}
	}
}

// P1.4

func TestExpOfASum(t *testing.T) {
	f := New()
	list := []int{0, 1, -1, 2, 15, 16, 255, 256, 257, 32767, 32768, 65533, 65534, 65535, 65536, 131070, -65534, -65535, -65536, 1 << 40, -1 << 40}
	for _, a := range some(100) {
		list = append(list, int(a)-32768)
	}
	for _, m := range list {
		for _, n := range list {
			if f.Exp(m+n) != f.Mul(f.Exp(m), f.Exp(n)) {
				t.Fatalf("Exp(%d + %d)", m, n)
			}
		}
	}
}

func TestLogOfAProduct(t *testing.T) {
	f := New()
	list := some(150)
	list = append(list, f.Exp(32767), f.Exp(32768), f.Exp(65534))
	for _, a := range list {
		for _, b := range list {
			if a == 0 || b == 0 {
				continue
			}
			want := mustLog(t, f, a) + mustLog(t, f, b)
			if want >= 65535 {
				want -= 65535
			}
			if n := mustLog(t, f, f.Mul(a, b)); n != want {
				t.Fatalf("Log(%d times %d): %d, not %d", a, b, n, want)
			}
		}
	}
}

func TestExpOfLog(t *testing.T) {
	f := New()
	for a := 1; a < 65536; a++ {
		n := mustLog(t, f, uint16(a))
		if n < 0 || n > 65534 || f.Exp(n) != uint16(a) {
			t.Fatalf("Log(%d): %d, of which Exp is %d", a, n, f.Exp(n))
		}
	}
}

// P1.5

func TestSquareOfASum(t *testing.T) {
	f := New()
	list := some(500)
	for _, a := range list {
		for _, b := range list {
			s := f.Add(a, b)
			if f.Mul(s, s) != f.Add(f.Mul(a, a), f.Mul(b, b)) {
				t.Fatalf("the square of %d + %d", a, b)
			}
		}
	}
}

func TestEachIsTheSquareOfJustOne(t *testing.T) {
	f := New()
	roots := make([]int, 65536)
	for a := range 65536 {
		roots[f.Mul(uint16(a), uint16(a))]++
	}
	for a, n := range roots {
		if n != 1 {
			t.Fatalf("%d is the square of %d numbers", a, n)
		}
	}
}

func TestSquaredSixteenTimes(t *testing.T) {
	f := New()
	for a := range 65536 {
		s := uint16(a)
		for range 16 {
			s = f.Mul(s, s)
		}
		if s != uint16(a) {
			t.Fatalf("%d squared sixteen times: %d", a, s)
		}
	}
}

// P1.6

func TestQuotients(t *testing.T) {
	f := New()
	for _, a := range some(64) {
		if a == 0 {
			continue
		}
		inverse := mustInv(t, f, a)
		met := make([]bool, 65536)
		for q := range 65536 {
			b := f.Mul(a, uint16(q))
			if met[b] {
				t.Fatalf("%d divided by %d: more than one", b, a)
			}
			met[b] = true
			if f.Mul(b, inverse) != uint16(q) {
				t.Fatalf("%d divided by %d: %d, not %d", b, a, f.Mul(b, inverse), q)
			}
		}
	}
}

// R1 and R2

func TestNil(t *testing.T) {
	var f *Field
	if f.Add(5, 3) != 0 || f.Mul(2, 3) != 0 || f.Exp(0) != 0 || f.Exp(-1) != 0 {
		t.Error("a number of nil is not 0")
	}
	if x, is := f.Inv(1); x != 0 || is {
		t.Errorf("Inv of nil: %d %v", x, is)
	}
	if n, is := f.Log(2); n != 0 || is {
		t.Errorf("Log of nil: %d %v", n, is)
	}
}

// use calls all of a field's methods with numbers at the edges.
func use(f *Field) {
	for _, a := range edges() {
		f.Add(a, a)
		f.Mul(a, a)
		f.Inv(a)
		f.Log(a)
		f.Exp(int(a))
		f.Exp(-int(a))
	}
}

func TestMadeOtherwiseDoesNotPanic(t *testing.T) {
	use(&Field{})
	use(new(Field))
}

func TestUsedByManyAtOnce(t *testing.T) {
	f := New()
	var group sync.WaitGroup
	for range 8 {
		group.Go(func() { use(f) })
	}
	group.Wait()
	if n := mustLog(t, f, 4107); n != 16 {
		t.Errorf("Log(4107): %d", n)
	}
}

func BenchmarkMul(b *testing.B) {
	f := New()
	a := uint16(777)
	for b.Loop() {
		a = f.Mul(a, 60001)
	}
}

func BenchmarkLog(b *testing.B) {
	f := New()
	for b.Loop() {
		f.Log(60001)
	}
}
