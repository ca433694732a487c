package rs

import (
	"math"
	"slices"
	"sync"
	"testing"

	"hamper/api"
	"hamper/field"
	"hamper/sample"
)

// datas are rows of symbols of all sorts: none, noughts alone, in front, within and at the end, the chapter's own, and others.
func datas() [][]uint16 {
	all := [][]uint16{
		nil, {}, {0}, {0, 0, 0},
		{1}, {7}, {65535}, {0, 1}, {1, 0}, {1, 1},
		{0, 0, 9, 0, 40000}, {1, 2, 3, 65535, 0, 9},
	}
	s := sample.From(11)
	for _, n := range []int{2, 3, 5, 17, 64} {
		all = append(all, s.List(n))
	}
	return all
}

// counts are how many checks are asked for.
func counts() []int { return []int{0, 1, 2, 3, 4, 7, 16, 32} }

// longhandValue is a word's value at Exp(n): each symbol times the power that its place asks for.
func longhandValue(word []uint16, n int) uint16 {
	f := field.New()
	value := uint16(0)
	for i, symbol := range word {
		value = f.Add(value, f.Mul(symbol, f.Exp((len(word)-1-i)*n)))
	}
	return value
}

// longhandRight says whether all of the first r values are 0.
func longhandRight(word []uint16, r int) bool {
	for n := range r {
		if longhandValue(word, n) != 0 {
			return false
		}
	}
	return true
}

// joined is one list of two, in new memory.
func joined(data, checks []uint16) []uint16 { return slices.Concat(data, checks) }

// must is what a call tells that has to be.
func must(t *testing.T, call func([]uint16, int) ([]uint16, api.Errno), row []uint16, r int) []uint16 {
	t.Helper()
	told, e := call(row, r)
	if e != api.OK || len(told) != r {
		t.Fatalf("of %v, %d: %v, %v", row, r, told, e)
	}
	return told
}

func mustCheck(t *testing.T, data []uint16, r int) []uint16 {
	t.Helper()
	return must(t, Check, data, r)
}

func mustSums(t *testing.T, word []uint16, r int) []uint16 {
	t.Helper()
	return must(t, Sums, word, r)
}

// rightWord is data with their checks behind them.
func rightWord(t *testing.T, data []uint16, r int) []uint16 {
	t.Helper()
	return joined(data, mustCheck(t, data, r))
}

// same fails if what is told is not just what is asked for.
func same(t *testing.T, what string, is, asked []uint16) {
	t.Helper()
	if !slices.Equal(is, asked) {
		t.Errorf("%s: %v, not %v", what, is, asked)
	}
}

// isRight fails if a word is not as right as is asked.
func isRight(t *testing.T, word []uint16, r int, asked bool) {
	t.Helper()
	if is := Right(word, r); is != asked {
		t.Errorf("Right(%v, %d): %v", word, r, is)
	}
}

func TestExamples(t *testing.T) {
	same(t, "Check of 7", mustCheck(t, []uint16{7}, 1), []uint16{7})
	same(t, "Check of none", mustCheck(t, nil, 2), []uint16{0, 0})
	isRight(t, []uint16{0, 0, 0}, 2, true)
	isRight(t, []uint16{1}, 1, false)
	isRight(t, []uint16{1, 1}, 1, true)
	if checks, e := Check([]uint16{1}, 255); e != api.ErrArg || len(checks) != 0 {
		t.Errorf("Check of 1 with 255: %v, %v", checks, e)
	}
}

// P3.1: Check; there is just one row of checks, so that by whose values it is found does not matter.
func TestCheck(t *testing.T) {
	for _, data := range datas() {
		for _, r := range counts() {
			checks := mustCheck(t, data, r)
			if !longhandRight(joined(data, checks), r) {
				t.Errorf("Check(%v, %d): %v", data, r, checks)
			}
		}
	}
}

// P3.1: checks by hand: those of 1 are the coefficients of (z + 1)(z + 2)(z + 4), the highest first.
func TestCheckByHand(t *testing.T) {
	same(t, "of 1", mustCheck(t, []uint16{1}, 2), []uint16{3, 2})
	same(t, "of 1", mustCheck(t, []uint16{1}, 3), []uint16{7, 14, 8})
	same(t, "of 1 0", mustCheck(t, []uint16{1, 0}, 2), []uint16{7, 6})
	same(t, "of 5", mustCheck(t, []uint16{5}, 2), []uint16{15, 10})
}

// P3.1: no data, no checks, and words that are as long as they may be.
func TestCheckEdges(t *testing.T) {
	same(t, "of none, none", mustCheck(t, nil, 0), nil)
	same(t, "of some, none", mustCheck(t, []uint16{1, 2, 3}, 0), nil)
	for _, r := range []int{1, 2, 100, api.MaxWord} {
		same(t, "of none", mustCheck(t, nil, r), make([]uint16, r))
		same(t, "of none", mustCheck(t, []uint16{}, r), make([]uint16, r))
	}
	full := sample.From(3).List(api.MaxWord)
	for _, r := range []int{0, 1, 2, 127, 128, 254, 255} {
		word := rightWord(t, full[:api.MaxWord-r], r)
		if len(word) != api.MaxWord || !longhandRight(word, r) {
			t.Errorf("a word of %d symbols with %d checks", len(word), r)
		}
		isRight(t, word, r, true)
	}
}

// P3.1, R4: r below 0, or more symbols than a word has; nothing is told beside the error.
func TestCheckErrors(t *testing.T) {
	full := sample.From(3).List(api.MaxWord + 2)
	for _, wrong := range []struct{ length, r int }{
		{0, -1}, {0, 256}, {0, math.MaxInt}, {0, math.MinInt},
		{1, -1}, {1, 255}, {1, math.MaxInt}, {1, math.MinInt},
		{100, 156}, {254, 2}, {255, 1}, {255, -1}, {255, math.MaxInt}, {255, math.MinInt},
		{256, 0}, {256, -1}, {256, -2}, {257, -2}, {257, 0}, {257, math.MaxInt}, {257, math.MinInt},
	} {
		checks, e := Check(full[:wrong.length], wrong.r)
		if e != api.ErrArg || len(checks) != 0 {
			t.Errorf("Check of %d symbols, %d: %v, %v", wrong.length, wrong.r, checks, e)
		}
	}
}

// P3.1: Right, of words that are and that are not.
func TestRight(t *testing.T) {
	for _, data := range datas() {
		for _, made := range counts() {
			word := rightWord(t, data, made)
			for _, r := range counts() {
				isRight(t, word, r, r <= len(word) && longhandRight(word, r))
				isRight(t, data, r, r <= len(data) && longhandRight(data, r))
			}
		}
	}
}

// P3.1: each value counts, the first one and the last one too: a multiple of all but one of the factors is not right.
func TestRightByEachValue(t *testing.T) {
	f := field.New()
	const r = 5
	for missing := range r {
		word := []uint16{1}
		for n := range r {
			if n == missing {
				continue
			}
			// Times z + Exp(n).
			times := append(slices.Clone(word), 0)
			for i, symbol := range word {
				times[i+1] = f.Add(times[i+1], f.Mul(symbol, f.Exp(n)))
			}
			word = times
		}
		for asked := range r + 1 {
			isRight(t, word, asked, asked <= missing)
		}
	}
}

// P3.1: what is no word with so many checks; and none is right with none.
func TestRightEdges(t *testing.T) {
	isRight(t, nil, 0, true)
	isRight(t, []uint16{}, 0, true)
	isRight(t, []uint16{5}, 0, true)
	isRight(t, nil, 1, false)
	isRight(t, nil, -1, false)
	isRight(t, nil, math.MaxInt, false)
	isRight(t, nil, math.MinInt, false)
	for _, length := range []int{1, 2, 3, 254, 255} {
		noughts := make([]uint16, length)
		for _, r := range []int{0, 1, length} {
			isRight(t, noughts, r, true)
		}
		for _, r := range []int{-1, length + 1, 256, math.MaxInt, math.MinInt} {
			isRight(t, noughts, r, false)
		}
	}
	for _, length := range []int{256, 257, 1000} {
		for _, r := range []int{-1, 0, 1, 255, 256, length} {
			isRight(t, make([]uint16, length), r, false)
		}
	}
	full := sample.From(5).List(api.MaxWord)
	isRight(t, full, 0, true)
	isRight(t, full, api.MaxWord, false)
}

// P3.1: Sums, also by more powers than the word has symbols.
func TestSums(t *testing.T) {
	for _, data := range datas() {
		for _, r := range append(counts(), 100) {
			asked := make([]uint16, r)
			for n := range asked {
				asked[n] = longhandValue(data, n)
			}
			same(t, "Sums", mustSums(t, data, r), asked)
		}
	}
	same(t, "of one symbol", mustSums(t, []uint16{9}, 3), []uint16{9, 9, 9})
	same(t, "of 1 0", mustSums(t, []uint16{1, 0}, 4), []uint16{1, 2, 4, 8})
	same(t, "of 1 0 5", mustSums(t, []uint16{1, 0, 5}, 3), []uint16{4, 1, 21})
	same(t, "of none", mustSums(t, nil, 3), []uint16{0, 0, 0})
	same(t, "of none, none", mustSums(t, nil, 0), nil)
}

// P3.1: Sums of the longest word by the most powers.
func TestSumsFull(t *testing.T) {
	full := sample.From(9).List(api.MaxWord)
	for n, sum := range mustSums(t, full, api.MaxWord) {
		if sum != longhandValue(full, n) {
			t.Errorf("value %d: %d, not %d", n, sum, longhandValue(full, n))
		}
	}
	same(t, "by none", mustSums(t, full, 0), nil)
}

// P3.1, R4: a word that is too long, r below 0 or above MaxWord; nothing is told beside the error.
func TestSumsErrors(t *testing.T) {
	full := sample.From(3).List(api.MaxWord + 2)
	for _, wrong := range []struct{ length, r int }{
		{0, -1}, {0, 256}, {0, math.MaxInt}, {0, math.MinInt},
		{3, -1}, {3, 256}, {255, -1}, {255, 256},
		{256, 0}, {256, 1}, {256, 255}, {256, -1}, {256, 256}, {257, 0}, {257, math.MaxInt}, {257, math.MinInt},
	} {
		sums, e := Sums(full[:wrong.length], wrong.r)
		if e != api.ErrArg || len(sums) != 0 {
			t.Errorf("Sums of %d symbols, %d: %v, %v", wrong.length, wrong.r, sums, e)
		}
	}
}

// P3.2: right with their checks, and with no other row.
func TestOnlyThese(t *testing.T) {
	s := sample.From(21)
	for _, data := range datas() {
		for _, r := range counts() {
			checks := mustCheck(t, data, r)
			isRight(t, joined(data, checks), r, true)
			for i := range checks {
				for _, by := range []uint16{1, 2, 32768, 65535} {
					other := slices.Clone(checks)
					other[i] ^= by
					isRight(t, joined(data, other), r, false)
				}
			}
			for range 5 {
				other := s.List(r)
				isRight(t, joined(data, other), r, slices.Equal(other, checks))
			}
		}
	}
	for last := range 1 << 16 {
		isRight(t, []uint16{9, 40000, uint16(last)}, 1, uint16(last) == 9^40000)
	}
}

// sum is that of two words of one length, symbol by symbol.
func sum(a, b []uint16) []uint16 {
	all := slices.Clone(a)
	for i := range all {
		all[i] = field.New().Add(all[i], b[i])
	}
	return all
}

// times is a word with each symbol taken c times.
func times(word []uint16, c uint16) []uint16 {
	all := slices.Clone(word)
	for i := range all {
		all[i] = field.New().Mul(all[i], c)
	}
	return all
}

// P3.3: sums of right words, and products with numbers.
func TestLinear(t *testing.T) {
	s := sample.From(31)
	for _, length := range []int{0, 1, 2, 5, 40} {
		for _, r := range counts() {
			a, b := s.List(length), s.List(length)
			wordA, wordB := rightWord(t, a, r), rightWord(t, b, r)
			isRight(t, sum(wordA, wordB), r, true)
			same(t, "checks of a sum", rightWord(t, sum(a, b), r), sum(wordA, wordB))
			for _, c := range []uint16{0, 1, 2, 300, 65535} {
				isRight(t, times(wordA, c), r, true)
				same(t, "checks of a product", rightWord(t, times(a, c), r), times(wordA, c))
			}
		}
	}
}

// P3.4: two right words whose data differ at one place differ at all checks, as they have no other places left.
func TestApartByOne(t *testing.T) {
	data := sample.From(41).List(20)
	for _, r := range counts() {
		word := rightWord(t, data, r)
		for i := range data {
			for _, by := range []uint16{1, 32768, 65535} {
				other := slices.Clone(data)
				other[i] ^= by
				if n := differences(word, rightWord(t, other, r)); n <= r {
					t.Errorf("%d checks, symbol %d: %d places differ", r, i, n)
				}
			}
		}
	}
}

// differences are at how many places two words of one length differ.
func differences(a, b []uint16) int {
	n := 0
	for i := range a {
		if a[i] != b[i] {
			n++
		}
	}
	return n
}

// P3.4: of right words and all choices of up to r of their places: with other symbols there none is right.
func TestApartEverywhere(t *testing.T) {
	s := sample.From(43)
	const length = 9
	for _, r := range []int{1, 2, 3, 5, 8, 9} {
		word := rightWord(t, s.List(length-r), r)
		for chosen := 1; chosen < 1<<length; chosen++ {
			other := slices.Clone(word)
			for i := range other {
				if chosen>>i&1 == 1 {
					other[i] ^= s.Next() | 1
				}
			}
			if n := differences(word, other); n <= r {
				isRight(t, other, r, false)
			}
		}
	}
}

// P3.5: noughts ahead.
func TestNoughtsAhead(t *testing.T) {
	for _, data := range datas() {
		for _, r := range counts() {
			word := rightWord(t, data, r)
			for _, n := range []int{1, 2, 10, api.MaxWord - len(word)} {
				noughts := make([]uint16, n)
				same(t, "checks with noughts ahead", mustCheck(t, joined(noughts, data), r), mustCheck(t, data, r))
				isRight(t, joined(noughts, word), r, true)
				if r > 0 {
					wrong := slices.Clone(word)
					wrong[len(wrong)-1] ^= 1
					isRight(t, wrong, r, false)
					isRight(t, joined(noughts, wrong), r, false)
				}
			}
		}
	}
}

// P3.6: fewer checks, and fewer values.
func TestFewer(t *testing.T) {
	for _, data := range datas() {
		for _, r := range counts() {
			word := rightWord(t, data, r)
			for fewer := range r + 1 {
				isRight(t, word, fewer, true)
			}
			more := mustSums(t, data, r)
			for fewer := range r + 1 {
				same(t, "fewer values", mustSums(t, data, fewer), more[:fewer])
			}
		}
	}
}

// P3.7: one check is the sum of all, and the checks of one symbol are it, times those of 1.
func TestOneMore(t *testing.T) {
	f := field.New()
	for _, data := range datas() {
		all := uint16(0)
		for _, symbol := range data {
			all = f.Add(all, symbol)
		}
		same(t, "one check", mustCheck(t, data, 1), []uint16{all})
	}
	for _, r := range append(counts(), 100, 254) {
		ofOne := mustCheck(t, []uint16{1}, r)
		for _, symbol := range []uint16{0, 1, 2, 7, 4107, 32768, 65535} {
			same(t, "checks of one symbol", mustCheck(t, []uint16{symbol}, r), times(ofOne, symbol))
		}
	}
}

// R3: what is handed in stays as it is, and what was told too, whatever is written into it, into its room, and behind it.
func TestNewMemory(t *testing.T) {
	for _, data := range datas() {
		for _, r := range counts() {
			given := sample.Roomy(data, 11)
			kept := slices.Clone(sample.Whole(given))
			checks, sums := mustCheck(t, given, r), mustSums(t, given, r)
			askedChecks, askedSums := slices.Clone(checks), slices.Clone(sums)
			for i := range sample.Whole(checks) {
				sample.Whole(checks)[i] = 999
			}
			same(t, "values beside checks", sums, askedSums)
			for i := range sample.Whole(sums) {
				sample.Whole(sums)[i] = 998
			}
			same(t, "checks once more", mustCheck(t, given, r), askedChecks)
			same(t, "values once more", mustSums(t, given, r), askedSums)
			Right(given, r)
			same(t, "data with their room", sample.Whole(given), kept)
		}
	}
}

// What is told of a division has no room behind its end: nothing runs into it.
func TestNoRoom(t *testing.T) {
	for _, data := range datas() {
		for _, r := range counts() {
			if checks := mustCheck(t, data, r); cap(checks) != r {
				t.Errorf("Check(%v, %d): room for %d", data, r, cap(checks))
			}
		}
	}
}

// R2: the same answers from many at once.
func TestMany(t *testing.T) {
	data := sample.From(51).List(60)
	word := rightWord(t, data, 20)
	sums := mustSums(t, data, 20)
	var all sync.WaitGroup
	for range 8 {
		all.Go(func() {
			for range 20 {
				checks, _ := Check(data, 20)
				same(t, "word", joined(data, checks), word)
				isRight(t, word, 20, true)
				values, _ := Sums(data, 20)
				same(t, "values", values, sums)
			}
		})
	}
	all.Wait()
}

func BenchmarkCheck(b *testing.B) {
	data := sample.From(61).List(64)
	for b.Loop() {
		Check(data, 32)
	}
}

func BenchmarkRight(b *testing.B) {
	data := sample.From(61).List(64)
	checks, _ := Check(data, 32)
	word := joined(data, checks)
	for b.Loop() {
		Right(word, 32)
	}
}

func BenchmarkSums(b *testing.B) {
	word := sample.From(61).List(api.MaxWord)
	for b.Loop() {
		Sums(word, 32)
	}
}
