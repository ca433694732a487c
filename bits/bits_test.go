package bits

import (
	"encoding/binary"
	"encoding/hex"
	"math"
	"strconv"
	"strings"
	"sync"
	"testing"

	"hamper/api"
	"hamper/sample"
)

// number is one of n bits.
type number struct {
	v uint32
	n int
}

// digits are a number's bits, each as a digit.
func (x number) digits() string {
	if x.n == 0 {
		return ""
	}
	all := strings.Repeat("0", x.n) + strconv.FormatUint(uint64(x.v), 2)
	return all[len(all)-x.n:]
}

// digitsOf are those of all numbers.
func digitsOf(all []number) string {
	var digits strings.Builder
	for _, x := range all {
		digits.WriteString(x.digits())
	}
	return digits.String()
}

// longhand are the bytes whose bits are digits.
func longhand(t *testing.T, digits string) string {
	t.Helper()
	for len(digits)%8 != 0 {
		digits += "0"
	}
	var text []byte
	for at := 0; at < len(digits); at += 8 {
		b, err := strconv.ParseUint(digits[at:at+8], 2, 8)
		if err != nil {
			t.Fatal(err)
		}
		text = append(text, byte(b))
	}
	return string(text)
}

// bitsOf are the digits of all of a text's bits.
func bitsOf(text string) string {
	var digits strings.Builder
	for _, b := range []byte(text) {
		digits.WriteString(number{uint32(b), 8}.digits())
	}
	return digits.String()
}

// greatest is that of so many bits.
func greatest(n int) uint32 { return uint32(1<<n - 1) }

// numbersOf are some of so many bits: the least and the greatest ones, with one bit, and others.
func numbersOf(n int) []number {
	top := greatest(n)
	all := []number{{0, n}, {top, n}, {top / 2, n}, {top - top/2, n}, {0x55555555 & top, n}, {0xaaaaaaaa & top, n}, {0x12345678 & top, n}}
	for i := range n {
		all = append(all, number{1 << i, n})
	}
	return all
}

// some are count numbers, of as many bits as it falls.
func some(s *sample.Numbers, count int) []number {
	all := make([]number, count)
	for i := range all {
		n := int(s.Next()>>4) % 33
		all[i] = number{(uint32(s.Next())<<16 | uint32(s.Next())) & greatest(n), n}
	}
	return all
}

// filling are numbers, and one behind them by which they fill whole bytes.
func filling(all []number) []number {
	lacking := -len(digitsOf(all)) & 7
	return append(all, number{greatest(lacking) / 3, lacking})
}

// beyond are how many bits no number has.
func beyond() []int {
	return []int{-1, -2, -8, -31, -32, -64, 33, 34, 40, 63, 64, 65, 256, 1 << 32, 1<<32 + 1, math.MaxInt32, math.MinInt32, math.MaxInt, math.MinInt, math.MinInt + 1}
}

// put puts numbers.
func put(t *testing.T, w *Writer, all ...number) {
	t.Helper()
	for _, x := range all {
		if e := w.Put(x.v, x.n); e != api.OK {
			t.Fatalf("Put(%#x, %d): %v", x.v, x.n, e)
		}
	}
}

// written is a writer of numbers.
func written(t *testing.T, all ...number) *Writer {
	t.Helper()
	w := &Writer{}
	put(t, w, all...)
	return w
}

// take takes numbers, which must be these.
func take(t *testing.T, r *Reader, all ...number) {
	t.Helper()
	for _, x := range all {
		if v, e := r.Take(x.n); v != x.v || e != api.OK {
			t.Fatalf("Take(%d): %#x, %v, not %#x", x.n, v, e, x.v)
		}
	}
}

// holds fails if a writer does not hold just these digits.
func holds(t *testing.T, w *Writer, digits string) {
	t.Helper()
	if w.Bits() != len(digits) {
		t.Fatalf("Bits: %d, not %d", w.Bits(), len(digits))
	}
	same(t, "Bytes", w.Bytes(), longhand(t, digits))
}

// has fails if a reader has not just these digits left.
func has(t *testing.T, r *Reader, digits string) {
	t.Helper()
	end := len(digits) < 8 && !strings.Contains(digits, "1")
	if r.Left() != len(digits) || r.End() != end {
		t.Fatalf("Left: %d, not %d; End: %v, not %v", r.Left(), len(digits), r.End(), end)
	}
}

// noPut fails if a number is not refused by this error, or anything is another afterwards.
func noPut(t *testing.T, w *Writer, v uint32, n int, asked api.Errno) {
	t.Helper()
	bits, bytes := w.Bits(), w.Bytes()
	if e := w.Put(v, n); e != asked {
		t.Errorf("Put(%#x, %d): %v, not %v", v, n, e, asked)
	}
	if w.Bits() != bits || w.Bytes() != bytes {
		t.Errorf("Put(%#x, %d): %d bits, %x, and %d bits, %x, before", v, n, w.Bits(), w.Bytes(), bits, bytes)
	}
}

// noTake fails if a number is not refused by this error, or anything is another afterwards.
func noTake(t *testing.T, r *Reader, n int, asked api.Errno) {
	t.Helper()
	left, end := r.Left(), r.End()
	if v, e := r.Take(n); v != 0 || e != asked {
		t.Errorf("Take(%d): %#x, %v, not %v", n, v, e, asked)
	}
	if r.Left() != left || r.End() != end {
		t.Errorf("Take(%d): %d left, %v, and %d, %v, before", n, r.Left(), r.End(), left, end)
	}
}

// same fails if two texts are not one.
func same(t *testing.T, what, is, asked string) {
	t.Helper()
	if is != asked {
		t.Fatalf("%s: %d bytes, %.80x, not %d bytes, %.80x", what, len(is), is, len(asked), asked)
	}
}

func TestExamples(t *testing.T) {
	w := written(t, number{5, 3}, number{1, 2})
	if w.Bits() != 5 || w.Bytes() != "\xa8" {
		t.Errorf("5 of 3 bits, 1 of 2: %d bits, %x", w.Bits(), w.Bytes())
	}
	noPut(t, w, 8, 3, api.ErrArg)
	r := Open("\xa8")
	take(t, r, number{5, 3}, number{1, 2})
	if r.Left() != 3 || !r.End() {
		t.Errorf("behind them: Left %d, End %v", r.Left(), r.End())
	}
	noTake(t, Open("\xa8"), 9, api.ErrForm)
}

// P11.1, P11.2: numbers whose bytes another program has reckoned.
func TestKnown(t *testing.T) {
	var growing []number
	for n := 1; n <= 32; n++ {
		growing = append(growing, number{1, n})
	}
	for _, known := range []struct {
		all   []number
		bits  int
		bytes string
	}{
		{nil, 0, ""},
		{[]number{{0, 0}}, 0, ""},
		{[]number{{0, 1}}, 1, "00"},
		{[]number{{1, 1}}, 1, "80"},
		{[]number{{0xff, 8}}, 8, "ff"},
		{[]number{{0x7fffffff, 31}}, 31, "fffffffe"},
		{[]number{{0xffffffff, 32}}, 32, "ffffffff"},
		{[]number{{0x12345678, 32}}, 32, "12345678"},
		{[]number{{1, 1}, {0x12345678, 32}, {1, 1}}, 34, "891a2b3c40"},
		{[]number{{0x2a, 7}, {0x1234567, 25}, {3, 2}, {0x9b, 8}, {0, 5}, {0x1ffff, 17}}, 64, "55234567e6c1ffff"},
		{growing, 528, "a44208101008020040040020008001000100008000200004000040000200000800001000001000000800000200000040000004000000200000008000000100000001"},
	} {
		w := written(t, known.all...)
		if bytes := hex.EncodeToString([]byte(w.Bytes())); w.Bits() != known.bits || bytes != known.bytes {
			t.Errorf("%v: %d bits, %s, not %d, %s", known.all, w.Bits(), bytes, known.bits, known.bytes)
		}
		r := Open(w.Bytes())
		take(t, r, known.all...)
		has(t, r, strings.Repeat("0", -known.bits&7))
	}
}

// P11.1, P11.2, P11.3: numbers of all lengths, from each bit of a byte on, and behind many bytes: they end one ahead of a byte's end, at it and one behind it, and go over several.
func TestEachNumber(t *testing.T) {
	for n := range 33 {
		for _, x := range numbersOf(n) {
			for ahead := range 26 {
				for _, full := range []uint32{0, 1, greatest(ahead)} {
					first := number{full & greatest(ahead), ahead}
					all := []number{first, x, {1, 1}}
					w := written(t, all...)
					digits := digitsOf(all)
					holds(t, w, digits)
					r := Open(w.Bytes())
					take(t, r, all...)
					has(t, r, strings.Repeat("0", -len(digits)&7))
				}
			}
		}
	}
}

// P11.1: each number fits into as many bits as it has, and into more, and into no fewer.
func TestJustFits(t *testing.T) {
	w := &Writer{}
	digits := ""
	for n := range 33 {
		for _, x := range numbersOf(n) {
			put(t, w, x)
			digits += x.digits()
		}
		for more := n; more < 32; more++ {
			noPut(t, w, 1<<more, n, api.ErrArg)
			noPut(t, w, 1<<more|greatest(n), n, api.ErrArg)
			noPut(t, w, 1<<more|1<<31, n, api.ErrArg)
		}
	}
	holds(t, w, digits)
}

// P11.1: of nil there is nothing, and nothing can be put; so it is, whatever else is wrong.
func TestNilWriter(t *testing.T) {
	var w *Writer
	if w.Bits() != 0 || w.Bytes() != "" {
		t.Errorf("nil: %d bits, %x", w.Bits(), w.Bytes())
	}
	for n := range 33 {
		noPut(t, w, 0, n, api.ErrNil)
		noPut(t, w, math.MaxUint32, n, api.ErrNil)
	}
	for _, n := range beyond() {
		noPut(t, w, 0, n, api.ErrNil)
		noPut(t, w, math.MaxUint32, n, api.ErrNil)
	}
}

// P11.2: of nil there is nothing, which is the end, and nothing can be taken; so it is, whatever else is wrong.
func TestNilReader(t *testing.T) {
	var r *Reader
	if r.Left() != 0 || !r.End() {
		t.Errorf("nil: Left %d, End %v", r.Left(), r.End())
	}
	for n := range 33 {
		noTake(t, r, n, api.ErrNil)
	}
	for _, n := range beyond() {
		noTake(t, r, n, api.ErrNil)
	}
}

// P11.1: a writer's zero value is an empty one.
func TestZeroWriter(t *testing.T) {
	var w Writer
	holds(t, &w, "")
	holds(t, new(Writer), "")
	noPut(t, &w, 1, 0, api.ErrArg)
	put(t, &w, number{0, 0})
	holds(t, &w, "")
	put(t, &w, number{5, 3})
	holds(t, &w, "101")
}

// P11.2: of no bytes there are no bits to be taken, but none of them.
func TestNoBytes(t *testing.T) {
	for _, r := range []*Reader{Open(""), {}} {
		has(t, r, "")
		take(t, r, number{0, 0})
		for n := 1; n <= 32; n++ {
			noTake(t, r, n, api.ErrForm)
		}
		for _, n := range beyond() {
			noTake(t, r, n, api.ErrArg)
		}
		has(t, r, "")
	}
}

// The row of errors: numbers of fewer bits than none and of more than 32, and those of more bits than are asked for; what is put afterwards stands behind what was there.
func TestNoPut(t *testing.T) {
	for _, x := range numbersOf(13) {
		for ahead := range 18 {
			w := written(t, number{greatest(ahead), ahead})
			for _, n := range beyond() {
				noPut(t, w, 0, n, api.ErrArg)
				noPut(t, w, 1, n, api.ErrArg)
				noPut(t, w, math.MaxUint32, n, api.ErrArg)
			}
			noPut(t, w, x.v|1<<13, 13, api.ErrArg)
			noPut(t, w, 1, 0, api.ErrArg)
			put(t, w, x)
			holds(t, w, number{greatest(ahead), ahead}.digits()+x.digits())
		}
	}
}

// The row of errors: more bits than are left are not taken, nor any of them; fewer than none, and more than 32, are refused ahead of that.
func TestNoTake(t *testing.T) {
	text := sample.From(401).Text(7)
	digits := bitsOf(text)
	for taken := range len(digits) + 1 {
		r := Open(text)
		for range taken {
			if _, e := r.Take(1); e != api.OK {
				t.Fatal(e)
			}
		}
		has(t, r, digits[taken:])
		for _, n := range beyond() {
			noTake(t, r, n, api.ErrArg)
		}
		for n := range 33 {
			if n > len(digits)-taken {
				noTake(t, r, n, api.ErrForm)
			}
		}
		for _, digit := range digits[taken:] {
			take(t, r, number{uint32(digit - '0'), 1})
		}
		has(t, r, "")
	}
}

// P11.2: the end is where fewer than 8 bits are left, all of them 0.
func TestEnd(t *testing.T) {
	for _, text := range []string{"\x00", "\x00\x00", "\xff\x00", "\xff\xff", "\x80\x00\x00\x00", "\x00\xff\x00\x00\x00"} {
		ends(t, text)
	}
	for bit := range 24 {
		one := []byte{0, 0, 0}
		one[bit/8] = 0x80 >> (bit % 8)
		ends(t, string(one))
	}
	for b := range 256 {
		ends(t, string([]byte{byte(b)}))
		ends(t, string([]byte{byte(b), byte(b)}))
	}
	r := Open("\x00\x00")
	take(t, r, number{0, 8})
	if r.Left() != 8 || r.End() {
		t.Errorf("eight bits 0: Left %d, End %v", r.Left(), r.End())
	}
	take(t, r, number{0, 1})
	if r.Left() != 7 || !r.End() {
		t.Errorf("seven bits 0: Left %d, End %v", r.Left(), r.End())
	}
}

// ends takes a text bit by bit, and holds what is left against its digits.
func ends(t *testing.T, text string) {
	t.Helper()
	r := Open(text)
	digits := bitsOf(text)
	for at, digit := range digits {
		has(t, r, digits[at:])
		take(t, r, number{uint32(digit - '0'), 1})
	}
	has(t, r, "")
}

// P11.2: whatever bytes there are, their bits are taken as numbers, up to the last one.
func TestWhateverThereIs(t *testing.T) {
	s := sample.From(403)
	for length := range 200 {
		text := s.Text(length)
		r, digits := Open(text), bitsOf(text)
		for _, x := range some(s, 1000) {
			if x.n > len(digits) {
				noTake(t, r, x.n, api.ErrForm)
				x.n = len(digits)
			}
			take(t, r, number{valueOf(t, digits[:x.n]), x.n})
			digits = digits[x.n:]
			has(t, r, digits)
		}
	}
}

// valueOf is the number of digits.
func valueOf(t *testing.T, digits string) uint32 {
	t.Helper()
	v, err := strconv.ParseUint("0"+digits, 2, 32)
	if err != nil {
		t.Fatal(err)
	}
	return uint32(v)
}

// P11.3, P11.4: many numbers, put and taken, and taken by other lengths; they take an eighth of their bits, rounded up.
func TestBack(t *testing.T) {
	s := sample.From(405)
	for count := range 150 {
		all := some(s, count)
		digits := digitsOf(all)
		w := written(t, all...)
		holds(t, w, digits)
		if bits := len(digits); w.Bits() != bits || len(w.Bytes()) != (bits+7)/8 {
			t.Fatalf("%d bits: %d bits, %d bytes", bits, w.Bits(), len(w.Bytes()))
		}
		r := Open(w.Bytes())
		take(t, r, all...)
		if !r.End() {
			t.Fatalf("%d numbers: behind them is no end", count)
		}
		takenOtherwise(t, w.Bytes(), digits, s)
	}
}

// takenOtherwise takes bytes by lengths as they fall, and fails if they are not these digits, and an end.
func takenOtherwise(t *testing.T, bytes, digits string, s *sample.Numbers) {
	t.Helper()
	r := Open(bytes)
	for len(digits) > 0 {
		n := min(int(s.Next()>>4)%33, len(digits))
		take(t, r, number{valueOf(t, digits[:n]), n})
		digits = digits[n:]
	}
	if !r.End() {
		t.Fatal("behind all that was put is no end")
	}
}

// P11.4: numbers of no bits take none.
func TestNothingMany(t *testing.T) {
	w := &Writer{}
	for range 1000 {
		put(t, w, number{0, 0})
	}
	holds(t, w, "")
	put(t, w, number{1, 1})
	for range 1000 {
		put(t, w, number{0, 0})
	}
	holds(t, w, "1")
}

// P11.4: as many bits as a long stream has.
func TestLong(t *testing.T) {
	const count = api.MaxStream / 4
	w, bytes := &Writer{}, []byte(nil)
	s := sample.From(407)
	for range count {
		v := uint32(s.Next())<<16 | uint32(s.Next())
		put(t, w, number{v, 32})
		bytes = binary.BigEndian.AppendUint32(bytes, v)
	}
	if w.Bits() != 32*count {
		t.Errorf("%d bits, not %d", w.Bits(), 32*count)
	}
	same(t, "Bytes", w.Bytes(), string(bytes))
	r := Open(w.Bytes())
	for at := 0; at < len(bytes); at += 4 {
		take(t, r, number{binary.BigEndian.Uint32(bytes[at:]), 32})
	}
	has(t, r, "")
}

// P11.5: behind what fills whole bytes, others stand as they stand alone.
func TestSideBySide(t *testing.T) {
	s := sample.From(409)
	for count := range 60 {
		first, others := filling(some(s, count)), some(s, count%7)
		w := written(t, first...)
		alone := w.Bytes()
		put(t, w, others...)
		same(t, "the bytes of all", w.Bytes(), alone+written(t, others...).Bytes())
		r := Open(alone + written(t, others...).Bytes())
		take(t, r, first...)
		take(t, r, others...)
		if !r.End() {
			t.Fatal("behind all is no end")
		}
	}
}

// P11.6: a number is its upper bits, and its lower ones behind them.
func TestInParts(t *testing.T) {
	for n := range 33 {
		for _, x := range numbersOf(n) {
			for lower := range n + 1 {
				for _, ahead := range []number{{0, 0}, {1, 1}, {5, 7}, {6, 9}} {
					upper := number{uint32(uint64(x.v) >> lower), n - lower}
					rest := number{x.v & greatest(lower), lower}
					w := written(t, ahead, upper, rest)
					holds(t, w, digitsOf([]number{ahead, x}))
					take(t, Open(w.Bytes()), ahead, x)
					take(t, Open(written(t, ahead, x).Bytes()), ahead, upper, rest)
				}
			}
		}
	}
}

// R2: what is asked in between is not seen, and what was told stays.
func TestAsked(t *testing.T) {
	s := sample.From(411)
	all := some(s, 300)
	w := &Writer{}
	var told []string
	for i, x := range all {
		told = append(told, w.Bytes())
		put(t, w, x)
		holds(t, w, digitsOf(all[:i+1]))
	}
	for i, bytes := range told {
		same(t, "what was told", bytes, longhand(t, digitsOf(all[:i])))
	}
}

// R2: writers do not see one another, nor do readers of one text.
func TestApart(t *testing.T) {
	s := sample.From(413)
	one, other := some(s, 200), some(s, 200)
	v, w := &Writer{}, &Writer{}
	for i := range one {
		put(t, v, one[i])
		put(t, w, other[i])
	}
	holds(t, v, digitsOf(one))
	holds(t, w, digitsOf(other))
	text := v.Bytes()
	p, q := Open(text), Open(text)
	for _, x := range one {
		take(t, p, x)
	}
	take(t, q, one...)
	has(t, p, strings.Repeat("0", -v.Bits()&7))
	has(t, q, strings.Repeat("0", -v.Bits()&7))
}

// R2: the same from many at once, each with its own, and of one that all ask.
func TestMany(t *testing.T) {
	text := sample.From(415).Text(100)
	w, r := written(t, number{5, 3}), Open("\x00")
	told := make([]string, 16)
	var all sync.WaitGroup
	for i := range told {
		all.Go(func() {
			own, from := &Writer{}, Open(text)
			for from.Left() > 0 {
				n := min(1+i, from.Left())
				v, _ := from.Take(n)
				own.Put(v, n)
			}
			if w.Bits() == 3 && w.Bytes() == "\xa0" && r.Left() == 8 && !r.End() {
				told[i] = own.Bytes()
			}
		})
	}
	all.Wait()
	for _, is := range told {
		same(t, "what was taken and put", is, text)
	}
}

func BenchmarkPut(b *testing.B) {
	b.SetBytes(4096)
	for b.Loop() {
		w := &Writer{}
		for i := range 4096 {
			w.Put(uint32(i&255), 8)
		}
	}
}

func BenchmarkTake(b *testing.B) {
	text := sample.Counting(4096)
	b.SetBytes(4096)
	for b.Loop() {
		r := Open(text)
		for range len(text) {
			r.Take(8)
		}
	}
}
