package decode

import (
	"math"
	"slices"
	"sync"
	"testing"

	"hamper/api"
	"hamper/field"
	"hamper/rs"
	"hamper/sample"
)

// rightWord is one of n symbols that is right with r checks.
func rightWord(t testing.TB, s *sample.Numbers, n, r int) []uint16 {
	t.Helper()
	data := s.List(n - r)
	checks, e := rs.Check(data, r)
	if e != api.OK {
		t.Fatalf("Check of %d symbols, %d: %v", n-r, r, e)
	}
	return slices.Concat(data, checks)
}

// spoilt is a word with other symbols at some places, none of them what it was.
func spoilt(s *sample.Numbers, word []uint16, places []int) []uint16 {
	other := slices.Clone(word)
	for _, place := range places {
		by := s.Next()
		for by == 0 {
			by = s.Next()
		}
		other[place] ^= by
	}
	return other
}

// differences are at how many places, but for some, two words of one length differ.
func differences(a, b []uint16, but []int) int {
	n := 0
	for i := range a {
		if a[i] != b[i] && !slices.Contains(but, i) {
			n++
		}
	}
	return n
}

// isMade fails if a word is not made what is asked for.
func isMade(t *testing.T, word []uint16, r int, gone []int, asked []uint16) {
	t.Helper()
	made, e := Word(word, r, gone)
	if e != api.OK || !slices.Equal(made, asked) {
		t.Fatalf("Word(%v, %d, %v): %v, %v, not %v", word, r, gone, made, e, asked)
	}
}

// isRefused fails if a call does not answer that error, and nothing beside it.
func isRefused(t *testing.T, word []uint16, r int, gone []int, asked api.Errno) {
	t.Helper()
	made, e := Word(word, r, gone)
	if e != asked || len(made) != 0 {
		t.Fatalf("Word of %d symbols, %d, %v: %v, %v, not %v", len(word), r, gone, made, e, asked)
	}
}

// isNear fails if what is told is neither a right word that is near enough, nor ErrLost.
func isNear(t *testing.T, word []uint16, r int, gone []int) {
	t.Helper()
	made, e := Word(word, r, gone)
	if e == api.ErrLost && len(made) == 0 {
		return
	}
	if e != api.OK || len(made) != len(word) || !rs.Right(made, r) || 2*differences(made, word, gone)+len(gone) > r {
		t.Fatalf("Word(%v, %d, %v): %v, %v", word, r, gone, made, e)
	}
}

// shapes are how many symbols and how many checks words have.
func shapes() [][2]int {
	var all [][2]int
	for _, n := range []int{1, 2, 3, 4, 9, 40, 96, api.MaxWord} {
		for _, r := range []int{0, 1, 2, 3, 4, 9, 16, 32, n - 1, n} {
			if pair := [2]int{n, r}; r <= n && !slices.Contains(all, pair) {
				all = append(all, pair)
			}
		}
	}
	return all
}

// few are some of the numbers from 0 to n: both ends, what is beside them, and the middle.
func few(n int) []int {
	all := []int{0, 1, 2, n / 2, n - 1, n}
	slices.Sort(all)
	return slices.DeleteFunc(slices.Compact(all), func(i int) bool { return i < 0 || i > n })
}

func TestExamples(t *testing.T) {
	word := []uint16{1, 3, 2}
	isMade(t, []uint16{1, 3, 3}, 2, nil, word)
	isMade(t, []uint16{1, 77, 2}, 2, nil, word)
	isMade(t, []uint16{65535, 3, 2}, 2, nil, word)
	isMade(t, []uint16{0, 0, 2}, 2, []int{0, 1}, word)
	isMade(t, []uint16{9, 3, 9}, 2, []int{2, 0}, word)
	isMade(t, []uint16{1, 9, 9}, 2, []int{1, 2}, word)
	isMade(t, []uint16{5, 6, 7}, 0, nil, []uint16{5, 6, 7})
}

// P4.1: how many there are at most.
func TestMost(t *testing.T) {
	for _, c := range []struct{ r, gone, most int }{
		{0, 0, 0}, {1, 0, 0}, {2, 0, 1}, {3, 0, 1}, {4, 0, 2}, {255, 0, 127},
		{1, 1, 0}, {2, 1, 0}, {3, 1, 1}, {4, 1, 1}, {5, 1, 2}, {10, 3, 3}, {255, 254, 0}, {255, 253, 1},
		{2, 2, 0}, {3, 2, 0}, {4, 2, 1}, {255, 255, 0},
		{0, 1, -1}, {0, 2, -1}, {1, 2, -1}, {1, 9, -1}, {255, 256, -1}, {-1, 0, -1}, {-9, 0, -1}, {-9, 9, -1},
		{0, -1, 0}, {0, -2, 1}, {0, -3, 1}, {-1, -1, 0}, {-1, -2, 0}, {-1, -3, 1}, {-1, -4, 1}, {3, -3, 3},
		{math.MaxInt, 0, math.MaxInt / 2}, {math.MaxInt, math.MaxInt, 0}, {math.MaxInt - 1, math.MaxInt, -1},
		{math.MinInt, math.MinInt, 0}, {math.MinInt, math.MinInt + 1, -1}, {math.MinInt, 0, -1}, {math.MinInt, math.MaxInt, -1},
		{math.MaxInt, -1, math.MaxInt/2 + 1}, {-1, math.MinInt, math.MaxInt / 2}, {0, math.MinInt, math.MaxInt/2 + 1},
		{math.MaxInt, math.MinInt, math.MaxInt}, {math.MaxInt - 1, math.MinInt, math.MaxInt}, {math.MaxInt - 2, math.MinInt, math.MaxInt - 1},
	} {
		if most := Most(c.r, c.gone); most != c.most {
			t.Errorf("Most(%d, %d): %d, not %d", c.r, c.gone, most, c.most)
		}
	}
}

// P4.1, P4.2: wrong symbols and places that are gone, up to as many as can be made right, in words of all lengths.
func TestMadeRight(t *testing.T) {
	s := sample.From(7)
	for _, shape := range shapes() {
		n, r := shape[0], shape[1]
		for _, g := range few(r) {
			for _, e := range few(Most(r, g)) {
				word := rightWord(t, s, n, r)
				places := s.Places(n, e+g)
				isMade(t, spoilt(s, word, places), r, places[e:], word)
			}
		}
	}
}

// P4.2: each number of both.
func TestEachNumber(t *testing.T) {
	s := sample.From(17)
	for _, n := range []int{12, 30} {
		for r := range 13 {
			for g := range r + 1 {
				for e := range Most(r, g) + 1 {
					for range 3 {
						word := rightWord(t, s, n, r)
						places := s.Places(n, e+g)
						isMade(t, spoilt(s, word, places), r, places[e:], word)
					}
				}
			}
		}
	}
}

// kinds calls with each way in which n places are good, wrong or gone.
func kinds(n int, call func(wrong, gone []int)) {
	ways := 1
	for range n {
		ways *= 3
	}
	for way := range ways {
		var wrong, gone []int
		for i := range n {
			switch way % 3 {
			case 1:
				wrong = append(wrong, i)
			case 2:
				gone = append(gone, i)
			}
			way /= 3
		}
		call(wrong, gone)
	}
}

// P4.2: all choices of places of a short word; beside that more, so that what is told has to be near (P4.3).
func TestEachPlace(t *testing.T) {
	s := sample.From(27)
	const n = 7
	for r := range n + 1 {
		kinds(n, func(wrong, gone []int) {
			word := rightWord(t, s, n, r)
			other := spoilt(s, word, wrong)
			switch most := Most(r, len(gone)); {
			case most < 0:
				isRefused(t, other, r, gone, api.ErrLost)
			case len(wrong) <= most:
				isMade(t, spoilt(s, other, gone), r, gone, word)
			default:
				isNear(t, spoilt(s, other, gone), r, gone)
			}
		})
	}
}

// P4.2: wrong symbols that are others by little, by much, by the same, and by multiples of a word that is right with fewer checks.
func TestKindsOfWrong(t *testing.T) {
	s := sample.From(37)
	const n, r = 20, 6
	word := rightWord(t, s, n, r)
	for _, by := range []uint16{1, 2, 255, 256, 4107, 32768, 65535} {
		for first := range n - 2 {
			other := slices.Clone(word)
			for i := range 3 {
				other[first+i] ^= by
			}
			isMade(t, other, r, nil, word)
		}
	}
	for first := range n - 2 {
		for many := 1; many <= 2; many++ {
			checks, _ := rs.Check([]uint16{1}, many)
			other := slices.Clone(word)
			for i, by := range slices.Concat([]uint16{1}, checks) {
				other[first+i] ^= by
			}
			isMade(t, other, r, nil, word)
		}
	}
}

// P4.2: gone places at which the right symbol stands, beside wrong ones.
func TestGoneButRight(t *testing.T) {
	s := sample.From(47)
	for _, shape := range shapes() {
		n, r := shape[0], shape[1]
		for _, g := range few(r) {
			word := rightWord(t, s, n, r)
			places := s.Places(n, g+Most(r, g))
			isMade(t, spoilt(s, word, places[g:]), r, places[:g], word)
			isMade(t, word, r, places[:g], word)
		}
	}
}

// P4.1: a right word is what it was; with no checks each one is; with as many as it has symbols only noughts are.
func TestRightWords(t *testing.T) {
	s := sample.From(57)
	for _, shape := range shapes() {
		n, r := shape[0], shape[1]
		word := rightWord(t, s, n, r)
		isMade(t, word, r, nil, word)
		isMade(t, word, r, []int{}, word)
		isMade(t, make([]uint16, n), r, nil, make([]uint16, n))
		any := s.List(n)
		isMade(t, any, 0, nil, any)
		isMade(t, any, n, s.Places(n, n), make([]uint16, n))
	}
	isMade(t, []uint16{9}, 1, []int{0}, []uint16{0})
	isRefused(t, []uint16{9}, 1, nil, api.ErrLost)
	isMade(t, []uint16{9, 0}, 2, nil, []uint16{0, 0})
}

// P4.1: what is no word, no number of checks, or no place of it.
func TestArguments(t *testing.T) {
	s := sample.From(67)
	for _, r := range []int{math.MinInt, -1, 0, 1, math.MaxInt} {
		isRefused(t, nil, r, nil, api.ErrArg)
		isRefused(t, []uint16{}, r, nil, api.ErrArg)
		isRefused(t, nil, r, []int{0}, api.ErrArg)
	}
	full := rightWord(t, s, api.MaxWord, 20)
	isMade(t, spoilt(s, full, []int{0, 254, 100}), 20, []int{254}, full)
	for _, n := range []int{api.MaxWord + 1, api.MaxWord + 2, 1000} {
		for _, r := range []int{-1, 0, 1, 20, api.MaxWord, n, n + 1} {
			isRefused(t, make([]uint16, n), r, nil, api.ErrArg)
		}
	}
	for _, n := range []int{1, 2, 40, api.MaxWord} {
		word := make([]uint16, n)
		for _, r := range []int{math.MinInt, -2, -1, n + 1, n + 2, math.MaxInt} {
			isRefused(t, word, r, nil, api.ErrArg)
		}
		for _, r := range []int{0, 1, n} {
			for _, place := range []int{math.MinInt, -2, -1, n, n + 1, math.MaxInt} {
				isRefused(t, word, r, []int{place}, api.ErrArg)
				isRefused(t, word, r, []int{0, place}, api.ErrArg)
				isRefused(t, word, r, []int{place, 0}, api.ErrArg)
			}
			for _, place := range few(n - 1) {
				isRefused(t, word, r, []int{place, place}, api.ErrArg)
				isRefused(t, word, r, slices.Concat(s.Places(n, n), []int{place}), api.ErrArg)
			}
		}
	}
	isRefused(t, make([]uint16, 9), 5, []int{1, 2, 1}, api.ErrArg)
	isRefused(t, make([]uint16, 9), 5, make([]int, 1000), api.ErrArg)
}

// P4.1: a wrong argument comes ahead of a word that is lost.
func TestOrderOfErrors(t *testing.T) {
	word := []uint16{1, 1, 1, 9}
	isRefused(t, word, 1, nil, api.ErrLost)
	isRefused(t, word, 2, []int{0, 1, 2}, api.ErrLost)
	isRefused(t, word, 2, []int{0, 1, 4}, api.ErrArg)
	isRefused(t, word, 2, []int{0, 1, -1}, api.ErrArg)
	isRefused(t, word, 2, []int{0, 1, 2, 0}, api.ErrArg)
	isRefused(t, word, 0, []int{0}, api.ErrLost)
	isRefused(t, word, 0, []int{0, 0}, api.ErrArg)
	isRefused(t, word, 1, []int{4}, api.ErrArg)
	isRefused(t, word, 5, []int{0, 1, 2, 3}, api.ErrArg)
	isRefused(t, word, -1, []int{0, 1, 2, 3}, api.ErrArg)
	isRefused(t, make([]uint16, api.MaxWord+1), 1, []int{0, 1}, api.ErrArg)
}

// P4.3: more gone than checks are lost, even if the word is right.
func TestMoreGone(t *testing.T) {
	s := sample.From(77)
	for _, shape := range shapes() {
		n, r := shape[0], shape[1]
		word := rightWord(t, s, n, r)
		for _, g := range []int{r + 1, r + 2, n} {
			if g > r && g <= n {
				isRefused(t, word, r, s.Places(n, g), api.ErrLost)
				isRefused(t, make([]uint16, n), r, s.Places(n, g), api.ErrLost)
			}
		}
	}
}

// P4.3: one more wrong than can be made right. What is left of the checks being odd, no other right word is near either (P4.4); else it may be.
func TestOneMoreWrong(t *testing.T) {
	s := sample.From(87)
	for _, shape := range shapes() {
		n, r := shape[0], shape[1]
		for _, g := range few(r) {
			e := Most(r, g) + 1
			if e+g > n {
				continue
			}
			word := rightWord(t, s, n, r)
			places := s.Places(n, e+g)
			other, gone := spoilt(s, word, places), places[e:]
			if (r-g)%2 == 1 {
				isRefused(t, other, r, gone, api.ErrLost)
			} else {
				isNear(t, other, r, gone)
			}
		}
	}
}

// filled is a word with such symbols at some places, at most as many as there are checks, that it is right; no, if there are none. It is found by taking unknowns away from equations, one for each check.
func filled(word []uint16, r int, places []int) ([]uint16, bool) {
	f := field.New()
	rows := make([][]uint16, r)
	for n := range rows {
		row := make([]uint16, len(places)+1)
		for i, symbol := range word {
			power := f.Exp((len(word) - 1 - i) * n)
			if unknown := slices.Index(places, i); unknown >= 0 {
				row[unknown] = power
			} else {
				row[len(places)] = f.Add(row[len(places)], f.Mul(symbol, power))
			}
		}
		rows[n] = row
	}
	for unknown := range places {
		pivot := unknown + slices.IndexFunc(rows[unknown:], func(row []uint16) bool { return row[unknown] != 0 })
		rows[unknown], rows[pivot] = rows[pivot], rows[unknown]
		inverse, _ := f.Inv(rows[unknown][unknown])
		for n, row := range rows {
			if by := f.Mul(row[unknown], inverse); n != unknown && by != 0 {
				for i, c := range rows[unknown] {
					row[i] = f.Add(row[i], f.Mul(c, by))
				}
			}
		}
	}
	for n, row := range rows {
		if n >= len(places) && row[len(places)] != 0 {
			return nil, false
		}
	}
	made := slices.Clone(word)
	for unknown, place := range places {
		inverse, _ := f.Inv(rows[unknown][unknown])
		made[place] = f.Mul(rows[unknown][len(places)], inverse)
	}
	return made, true
}

// searched is a word made right by trying each choice of places that may be wrong.
func searched(word []uint16, r int, gone []int) ([]uint16, bool) {
	most := Most(r, len(gone))
	for choice := range 1 << len(word) {
		places := slices.Clone(gone)
		for i := range word {
			if choice>>i&1 == 1 && !slices.Contains(gone, i) {
				places = append(places, i)
			}
		}
		if len(places)-len(gone) > most {
			continue
		}
		if made, is := filled(word, r, places); is {
			return made, true
		}
	}
	return nil, false
}

// asSearched fails if a word is not made what the search finds, or is not lost where it finds none. It says whether there is one.
func asSearched(t *testing.T, word []uint16, r int, gone []int) bool {
	t.Helper()
	asked, is := searched(word, r, gone)
	if is {
		isMade(t, word, r, gone, asked)
	} else {
		isRefused(t, word, r, gone, api.ErrLost)
	}
	return is
}

// P4.3: what is told, and what is lost, as a search through all choices of places has it.
func TestAsSearched(t *testing.T) {
	s := sample.From(97)
	found, lost := 0, 0
	for n := 1; n <= 8; n++ {
		for r := range n + 1 {
			for g := range r + 1 {
				for e := range n - g + 1 {
					places := s.Places(n, e+g)
					if asSearched(t, spoilt(s, rightWord(t, s, n, r), places), r, places[e:]) {
						found++
					} else {
						lost++
					}
				}
			}
		}
	}
	if found < 100 || lost < 100 {
		t.Errorf("%d found, %d lost", found, lost)
	}
}

// P4.3: words of few small symbols, which are near to a right word now and then.
func TestSmallSymbols(t *testing.T) {
	found, lost := 0, 0
	for _, shape := range [][2]int{{2, 1}, {3, 2}, {4, 2}, {5, 2}, {4, 3}, {5, 3}, {5, 4}} {
		n, r := shape[0], shape[1]
		for number := range 1 << (2 * n) {
			word := make([]uint16, n)
			for i := range word {
				word[i] = uint16(number >> (2 * i) & 3)
			}
			if asSearched(t, word, r, nil) {
				found++
			} else {
				lost++
			}
			asSearched(t, word, r, []int{n - 1})
		}
	}
	if found < 30 || lost < 100 {
		t.Errorf("%d found, %d lost", found, lost)
	}
}

// neighbours are two right words that are unlike at just those r + 1 places.
func neighbours(t *testing.T, s *sample.Numbers, n, r int, places []int) (a, b []uint16) {
	t.Helper()
	a = rightWord(t, s, n, r)
	b, is := filled(spoilt(s, a, places[:1]), r, places[1:])
	if !is || !rs.Right(b, r) || differences(a, b, nil) != r+1 {
		t.Fatalf("no neighbour of %v", a)
	}
	return a, b
}

// P4.3, P4.4: between two right words that are as near as can be: the nearer one is told, and in the middle there is none.
func TestBetween(t *testing.T) {
	s := sample.From(107)
	for _, n := range []int{6, 11, 40} {
		for r := 1; r < 6; r++ {
			for g := range r {
				places := s.Places(n, r+1)
				a, b := neighbours(t, s, n, r, places)
				gone, unlike := places[:g], places[g:]
				for fromB := range len(unlike) + 1 {
					word := spoilt(s, a, gone)
					for _, place := range unlike[:fromB] {
						word[place] = b[place]
					}
					switch most := Most(r, g); {
					case fromB <= most:
						isMade(t, word, r, gone, a)
					case len(unlike)-fromB <= most:
						isMade(t, word, r, gone, b)
					default:
						isRefused(t, word, r, gone, api.ErrLost)
					}
				}
			}
		}
	}
}

// P4.3: words of which nothing is right.
func TestAnyWord(t *testing.T) {
	s := sample.From(117)
	for _, shape := range shapes() {
		n, r := shape[0], shape[1]
		for _, g := range few(r) {
			isNear(t, s.List(n), r, s.Places(n, g))
		}
	}
}

// P4.4: right words that were told, of words that are near to one another too, differ at more places than there are checks.
func TestApart(t *testing.T) {
	s := sample.From(127)
	for _, shape := range [][2]int{{5, 1}, {6, 3}, {9, 4}, {9, 9}, {30, 12}} {
		n, r := shape[0], shape[1]
		word := rightWord(t, s, n, r)
		told := [][]uint16{word}
		for range 20 {
			// With as many gone as there are checks there is a right word, whatever stands at the other places.
			gone := s.Places(n, r)
			made, e := Word(spoilt(s, word, s.Places(n, n-r)), r, gone)
			if e != api.OK {
				t.Fatalf("%d gone of %d, %d checks: %v", r, n, r, e)
			}
			told = append(told, made)
		}
		for i, a := range told {
			for _, b := range told[:i] {
				if d := differences(a, b, nil); d != 0 && d <= r {
					t.Errorf("%v and %v, %d checks: %d places", a, b, r, d)
				}
			}
		}
	}
}

// P4.5: other symbols at the places that are gone, and those places told in another row: the same answers, where it is lost too.
func TestGoneDoesNotMatter(t *testing.T) {
	s := sample.From(137)
	for _, shape := range [][2]int{{1, 1}, {4, 3}, {9, 6}, {40, 7}, {96, 32}} {
		n, r := shape[0], shape[1]
		for _, g := range few(r) {
			for _, e := range []int{0, Most(r, g), Most(r, g) + 1} {
				if e+g > n {
					continue
				}
				places := s.Places(n, e+g)
				gone := places[e:]
				word := spoilt(s, rightWord(t, s, n, r), places)
				asked, error := Word(word, r, gone)
				for _, symbol := range []uint16{0, 1, 65535, s.Next()} {
					other := slices.Clone(word)
					for i, place := range gone {
						other[place] = symbol * uint16(i+1)
					}
					backwards := slices.Clone(gone)
					slices.Reverse(backwards)
					if made, e := Word(other, r, backwards); e != error || !slices.Equal(made, asked) {
						t.Fatalf("Word(%v, %d, %v): %v, %v, not %v, %v", other, r, backwards, made, e, asked, error)
					}
				}
			}
		}
	}
}

// sum is that of two words of one length, symbol by symbol.
func sum(a, b []uint16) []uint16 {
	all := slices.Clone(a)
	for i := range all {
		all[i] ^= b[i]
	}
	return all
}

// P4.6: a word and a right word, put together.
func TestPutTogether(t *testing.T) {
	s := sample.From(147)
	made, lost := 0, 0
	for _, shape := range shapes() {
		n, r := shape[0], shape[1]
		for _, g := range few(r) {
			for _, e := range few(min(Most(r, g)+2, n-g)) {
				places := s.Places(n, e+g)
				word, right := spoilt(s, rightWord(t, s, n, r), places), rightWord(t, s, n, r)
				alone, error := Word(word, r, places[e:])
				if error == api.OK {
					made++
					isMade(t, sum(word, right), r, places[e:], sum(alone, right))
				} else {
					lost++
					isRefused(t, sum(word, right), r, places[e:], error)
				}
			}
		}
	}
	if made < 100 || lost < 100 {
		t.Errorf("%d made, %d lost", made, lost)
	}
}

// R3: what is handed in stays as it is with its room, and what was told is the caller's alone.
func TestNewMemory(t *testing.T) {
	s := sample.From(157)
	for _, shape := range shapes() {
		n, r := shape[0], shape[1]
		for _, g := range few(r) {
			for _, e := range []int{0, Most(r, g), min(Most(r, g)+1, n-g)} {
				places := s.Places(n, e+g)
				word := sample.Roomy(spoilt(s, rightWord(t, s, n, r), places[:e]), 11)
				gone := sample.Roomy(places[e:], 0)
				keptWord, keptGone := slices.Clone(sample.Whole(word)), slices.Clone(sample.Whole(gone))
				made, error := Word(word, r, gone)
				asked := slices.Clone(made)
				for i := range sample.Whole(made) {
					sample.Whole(made)[i] = 999
				}
				if !slices.Equal(sample.Whole(word), keptWord) || !slices.Equal(sample.Whole(gone), keptGone) {
					t.Fatalf("%d symbols, %d checks, %d gone, %d wrong: what was handed in has changed", n, r, g, e)
				}
				if again, e := Word(word, r, gone); e != error || !slices.Equal(again, asked) {
					t.Fatalf("once more: %v, %v, not %v, %v", again, e, asked, error)
				}
			}
		}
	}
}

// R2: the same answers from many at once.
func TestMany(t *testing.T) {
	s := sample.From(167)
	word := rightWord(t, s, 96, 32)
	places := s.Places(96, 22)
	other, gone := spoilt(s, word, places), places[10:]
	var all sync.WaitGroup
	for range 8 {
		all.Go(func() {
			for range 20 {
				if made, e := Word(other, 32, gone); e != api.OK || !slices.Equal(made, word) {
					t.Errorf("%v, %v", made, e)
				}
				if made, e := Word(other, 32, gone[1:]); e != api.ErrLost || len(made) != 0 {
					t.Errorf("one more is wrong: %v, %v", made, e)
				}
			}
		})
	}
	all.Wait()
}

// measure is how long a word of 96 symbols with 32 checks takes.
func measure(b *testing.B, wrong, gone int) {
	s := sample.From(177)
	places := s.Places(96, wrong+gone)
	word := spoilt(s, rightWord(b, s, 96, 32), places)
	for b.Loop() {
		Word(word, 32, places[wrong:])
	}
}

func BenchmarkRight(b *testing.B) { measure(b, 0, 0) }
func BenchmarkWrong(b *testing.B) { measure(b, 16, 0) }
func BenchmarkGone(b *testing.B)  { measure(b, 0, 32) }
func BenchmarkBoth(b *testing.B)  { measure(b, 8, 16) }
func BenchmarkLost(b *testing.B)  { measure(b, 17, 0) }
