package tag

import (
	"encoding/hex"
	"math"
	"strconv"
	"strings"
	"sync"
	"testing"

	"hamper/api"
	"hamper/blake"
	"hamper/sample"
)

// plain is a sector's, of which nothing is at an edge.
func plain() Of {
	return Of{ID: sample.Counting(16), Volume: 0x0203, Sector: 0x0405, Data: "some data"}
}

// edges are numbers of volumes and sectors that may be: the least and the greatest, and those about a byte's end.
func edges() []int {
	return []int{0, 1, 2, 127, 128, 255, 256, 257, 32767, 32768, 65534, 65535}
}

// beyond are numbers that may not be, among them those whose lower 16 bits may.
func beyond() []int {
	return []int{-1, -2, -65535, -65536, 65536, 65537, 1 << 17, 1<<32 + 1, -1 << 32, math.MaxInt, math.MinInt}
}

// lengths are of data: none, about the ends of the sum's blocks behind the 20 bytes ahead, and a sector's.
func lengths() []int {
	return []int{0, 1, 2, 7, 8, 43, 44, 45, 46, 107, 108, 109, 511, 512, 513, 5000}
}

// refused are of what there is no tag.
func refused() []Of {
	var all []Of
	for _, n := range []int{0, 1, 8, 14, 15, 17, 18, 20, 32, 1000} {
		x := plain()
		x.ID = sample.Counting(n)
		all = append(all, x)
	}
	for _, n := range beyond() {
		volume, sector, both := plain(), plain(), plain()
		volume.Volume, sector.Sector = n, n
		both.Volume, both.Sector = n, n
		all = append(all, volume, sector, both)
	}
	// What one part has too few of another has too many of, so that the text would be as long as one that may be.
	shifted := plain()
	shifted.ID, shifted.Data = shifted.ID[:15], "\x00"+shifted.Data
	return append(all, shifted, Of{}, Of{Data: plain().ID})
}

// longhand is a text, each byte by itself.
func longhand(x Of) string {
	text := make([]byte, 20+len(x.Data))
	for i := range text {
		switch {
		case i < 16:
			text[i] = x.ID[i]
		case i == 16:
			text[i] = byte(x.Volume / 256)
		case i == 17:
			text[i] = byte(x.Volume % 256)
		case i == 18:
			text[i] = byte(x.Sector / 256)
		case i == 19:
			text[i] = byte(x.Sector % 256)
		default:
			text[i] = x.Data[i-20]
		}
	}
	return string(text)
}

// told says what something is a tag of.
func told(x Of) string {
	data := x.Data
	if len(data) > 20 {
		data = data[:20] + ".."
	}
	return strconv.Quote(x.ID) + " " + strconv.Itoa(x.Volume) + " " + strconv.Itoa(x.Sector) + " " + strconv.Quote(data)
}

// mustMake is a tag that has to be.
func mustMake(t *testing.T, x Of) string {
	t.Helper()
	tag, e := Make(x)
	if e != api.OK || len(tag) != Size {
		t.Fatalf("Make of %s: %x, %v", told(x), tag, e)
	}
	return tag
}

// mustText is a text that has to be.
func mustText(t *testing.T, x Of) string {
	t.Helper()
	text, e := Text(x)
	if e != api.OK {
		t.Fatalf("Text of %s: %v", told(x), e)
	}
	return text
}

// is fails if Is does not tell what is asked.
func is(t *testing.T, x Of, tag string, asked bool) {
	t.Helper()
	if Is(x, tag) != asked {
		t.Errorf("Is(%s, %x): %v", told(x), tag, !asked)
	}
}

// known fails if text, tag, or what Is says of it, is not as the chapter has it.
func known(t *testing.T, x Of) {
	t.Helper()
	text, tag := mustText(t, x), mustMake(t, x)
	if text != longhand(x) {
		t.Errorf("Text of %s: %x", told(x), text)
	}
	if tag != blake.Sum(longhand(x))[:8] {
		t.Errorf("Make of %s: %x", told(x), tag)
	}
	is(t, x, tag, true)
}

func TestExamples(t *testing.T) {
	if tag, e := Make(Of{ID: strings.Repeat("\x00", 15)}); e != api.ErrArg || tag != "" {
		t.Errorf("Make of an ID of 15 bytes: %x, %v", tag, e)
	}
	text, e := Text(Of{ID: strings.Repeat("\x00", 16), Volume: 1, Sector: 2, Data: "ab"})
	if e != api.OK || len(text) != 22 || text[16:] != "\x00\x01\x00\x02\x61\x62" {
		t.Errorf("Text of 16 noughts, 1, 2, ab: %x, %v", text, e)
	}
	if Size != 8 {
		t.Errorf("Size: %d", Size)
	}
}

// P6.1: tags that others have reckoned.
func TestKnown(t *testing.T) {
	noughts, full, counting := strings.Repeat("\x00", 16), strings.Repeat("\xff", 16), sample.Counting(16)
	for _, known := range []struct {
		x   Of
		tag string
	}{
		{Of{noughts, 0, 0, ""}, "60a0fb302bfdedab"},
		{Of{noughts, 1, 2, "ab"}, "ce41a15b694ef72b"},
		{Of{noughts, 65535, 0, ""}, "c596699cb3effd64"},
		{Of{noughts, 0, 65535, ""}, "8b96b5dd53c07bea"},
		{Of{full, 65535, 65535, ""}, "856f697edffcef65"},
		{Of{"0123456789abcdef", 258, 3, "some data"}, "16aae5059f99d0cf"},
		{Of{"0123456789abcdef", 3, 258, "some data"}, "763bb02ee9bcb1e0"},
		{Of{counting, 95, 127, sample.Counting(43)}, "c5c543294aadceac"},
		{Of{counting, 95, 127, sample.Counting(44)}, "db5cc637730ad383"},
		{Of{counting, 95, 127, sample.Counting(45)}, "70c67cbce67c1b52"},
		{Of{counting, 256, 1, sample.Counting(512)}, "1408246c3465d2a0"},
		{Of{counting, 1, 256, sample.Counting(512)}, "0f2aa79799020930"},
		{Of{counting, 0x1234, 0xabcd, sample.Counting(32768)}, "95c64c7800429169"},
	} {
		if tag := hex.EncodeToString([]byte(mustMake(t, known.x))); tag != known.tag {
			t.Errorf("Make of %s: %s, not %s", told(known.x), tag, known.tag)
		}
	}
}

// P6.1: many numbers and lengths of data; the digest of all their tags is one that others have reckoned.
func TestManyKnown(t *testing.T) {
	var lengths []int
	for n := range 120 {
		lengths = append(lengths, n)
	}
	lengths = append(lengths, 511, 512, 513)
	all := blake.New()
	for _, volume := range edges() {
		for _, sector := range edges() {
			for _, n := range lengths {
				all.Add(mustMake(t, Of{sample.Counting(16), volume, sector, sample.Counting(n)}))
			}
		}
	}
	const asked = "2fc6da426aba6da3a56358f99c765dd6b568986b341f7b0dc9c635c7f1db7c7d"
	if digest := hex.EncodeToString([]byte(all.Sum())); digest != asked {
		t.Errorf("of all tags: %s", digest)
	}
}

// P6.1, P6.3: texts and tags as the chapter's words have them, of parts of all sorts.
func TestAsLonghand(t *testing.T) {
	s := sample.From(71)
	for _, id := range []string{strings.Repeat("\x00", 16), strings.Repeat("\xff", 16), sample.Counting(16), s.Text(16), "äöüßäöüß"} {
		for _, n := range lengths() {
			for _, data := range []string{s.Text(n), strings.Repeat("\x00", n), strings.Repeat("\xff", n)} {
				known(t, Of{id, int(s.Next()), int(s.Next()), data})
			}
		}
		for _, volume := range edges() {
			for _, sector := range edges() {
				known(t, Of{id, volume, sector, s.Text(4)})
				known(t, Of{id, volume, sector, ""})
			}
		}
	}
}

// P6.1: each number that may be stands in 2 bytes, the higher one first.
func TestNumbers(t *testing.T) {
	x := plain()
	for n := range 65536 {
		x.Volume, x.Sector = n, 65535-n
		text := mustText(t, x)
		if volume := int(text[16])<<8 | int(text[17]); volume != n {
			t.Fatalf("volume %d: %x", n, text)
		}
		if sector := int(text[18])<<8 | int(text[19]); sector != 65535-n {
			t.Fatalf("sector %d: %x", 65535-n, text)
		}
	}
}

// P6.1: what may not be is refused, and nothing is told beside the error (R4).
func TestRefused(t *testing.T) {
	for _, x := range refused() {
		if tag, e := Make(x); e != api.ErrArg || tag != "" {
			t.Errorf("Make of %s: %x, %v", told(x), tag, e)
		}
		if text, e := Text(x); e != api.ErrArg || text != "" {
			t.Errorf("Text of %s: %x, %v", told(x), text, e)
		}
	}
}

// P6.1: of what may not be nothing is the tag: not the nothing that Make tells, nor the tag of what it would be if a part were cut or filled up, or went round.
func TestIsRefused(t *testing.T) {
	for _, x := range refused() {
		text := x.ID + string([]byte{byte(x.Volume >> 8), byte(x.Volume), byte(x.Sector >> 8), byte(x.Sector)}) + x.Data
		near := x
		near.ID = (x.ID + strings.Repeat("\x00", 16))[:16]
		near.Volume, near.Sector = x.Volume&65535, x.Sector&65535
		tags := []string{"", strings.Repeat("\x00", 8), blake.Sum(text)[:8], blake.Sum("")[:8], mustMake(t, near), mustMake(t, plain())}
		for _, tag := range tags {
			is(t, x, tag, false)
		}
	}
}

// P6.2: texts that are not of the same parts are not the same, nor are their tags: of two that differ in one part alone, or whose parts would run into one another.
func TestBound(t *testing.T) {
	texts, tags := map[string]Of{}, map[string]Of{}
	meet := func(x Of) {
		t.Helper()
		text, tag := mustText(t, x), mustMake(t, x)
		if other, met := texts[text]; met && other != x {
			t.Errorf("%s has the text of %s", told(x), told(other))
		}
		if other, met := tags[tag]; met && other != x {
			t.Errorf("%s has the tag of %s", told(x), told(other))
		}
		texts[text], tags[tag] = x, x
	}
	numbers := append(edges(), 3, 11, 12, 21, 23, 111, 112, 121, 123, 513, 515, 771, 0x3131, 0x3132)
	datas := []string{"", "\x00", "\x00\x00", "\x01", "\x00\x01", "\x01\x00", "\x02", "\x02\x03", "\x03", "1", "2", "23", "3", "11", "a", "ab", "b"}
	for _, id := range []string{strings.Repeat("\x00", 16), strings.Repeat("\x00", 15) + "\x01", strings.Repeat("1", 16), strings.Repeat("1", 15) + "2", "0123456789abcdef"} {
		for _, volume := range numbers {
			for _, sector := range numbers {
				for _, data := range datas {
					meet(Of{id, volume, sector, data})
				}
			}
		}
	}
}

// P6.2: a text tells all its parts, so that they can be read out of it again.
func TestBack(t *testing.T) {
	s := sample.From(73)
	for range 500 {
		x := Of{s.Text(16), int(s.Next()), int(s.Next()), s.Text(int(s.Next()) % 600)}
		text := mustText(t, x)
		back := Of{text[:16], int(text[16])<<8 | int(text[17]), int(text[18])<<8 | int(text[19]), text[20:]}
		if back != x {
			t.Errorf("of %s: %s", told(x), told(back))
		}
	}
}

// P6.2: a tag is not that of what is another one in one part alone, by one bit, one byte more or one less.
func TestOneOther(t *testing.T) {
	x := plain()
	tag := mustMake(t, x)
	is(t, x, tag, true)
	var others []Of
	for bit := range 16 {
		volume, sector := x, x
		volume.Volume ^= 1 << bit
		sector.Sector ^= 1 << bit
		others = append(others, volume, sector)
	}
	for i := range 8 * len(x.ID) {
		other := x
		other.ID = flipped(x.ID, i)
		others = append(others, other)
	}
	for i := range 8 * len(x.Data) {
		other := x
		other.Data = flipped(x.Data, i)
		others = append(others, other)
	}
	for _, data := range []string{"", x.Data[1:], x.Data[:len(x.Data)-1], x.Data + "\x00", "\x00" + x.Data} {
		other := x
		other.Data = data
		others = append(others, other)
	}
	swapped := x
	swapped.Volume, swapped.Sector = x.Sector, x.Volume
	for _, other := range append(others, swapped) {
		is(t, other, tag, false)
		is(t, x, mustMake(t, other), false)
		if mustText(t, other) == mustText(t, x) {
			t.Errorf("%s has the text of %s", told(other), told(x))
		}
	}
}

// flipped are bytes with one bit another one.
func flipped(s string, bit int) string {
	bytes := []byte(s)
	bytes[bit/8] ^= 1 << (bit % 8)
	return string(bytes)
}

// P6.3: 20 bytes more than the data, which stand at the end as they are; the tag is the sum's beginning.
func TestText(t *testing.T) {
	for _, n := range append(lengths(), 65536, 1<<20) {
		x := plain()
		x.Data = sample.Counting(n)
		text := mustText(t, x)
		if len(text) != 20+n || text[:20] != sample.Counting(16)+"\x02\x03\x04\x05" || text[20:] != x.Data {
			t.Errorf("of %d bytes: a text of %d", n, len(text))
		}
		if !strings.HasPrefix(blake.Sum(text), mustMake(t, x)) {
			t.Errorf("of %d bytes: %x", n, mustMake(t, x))
		}
	}
}

// P6.4: a text of other than 8 bytes is no tag, though it begins as the tag, or the tag as it.
func TestOtherLength(t *testing.T) {
	for _, n := range lengths() {
		x := plain()
		x.Data = sample.Counting(n)
		tag := mustMake(t, x)
		sum := blake.Sum(mustText(t, x))
		for length := range 33 {
			is(t, x, sum[:length], length == 8)
			is(t, x, sum[32-length:], false)
		}
		for _, other := range []string{tag + "\x00", "\x00" + tag, tag + tag, hex.EncodeToString([]byte(tag)), tag[1:], mustText(t, x), strings.Repeat("\x00", 8)} {
			is(t, x, other, false)
		}
	}
}

// P6.4: a tag with one byte another one, whichever, is not that one's.
func TestOtherByte(t *testing.T) {
	for _, n := range lengths() {
		x := plain()
		x.Data = sample.Counting(n)
		tag := []byte(mustMake(t, x))
		for i := range tag {
			for range 255 {
				tag[i]++
				is(t, x, string(tag), false)
			}
			tag[i]++
			is(t, x, string(tag), true)
		}
	}
}

// R2: the same again, whatever was asked in between, and from many at once.
func TestAgain(t *testing.T) {
	x := plain()
	text, tag := mustText(t, x), mustMake(t, x)
	tags := make([]string, 16)
	var all sync.WaitGroup
	for i := range tags {
		all.Go(func() {
			other := x
			other.Sector = i
			Make(Of{})
			tags[i], _ = Make(other)
		})
	}
	all.Wait()
	for i, told := range tags {
		other := x
		other.Sector = i
		if told != mustMake(t, other) {
			t.Errorf("at once, %d: %x", i, told)
		}
	}
	if mustText(t, x) != text || mustMake(t, x) != tag {
		t.Error("another one, once more")
	}
}

func BenchmarkSector(b *testing.B) {
	x := plain()
	x.Data = sample.Counting(api.MaxSize)
	b.SetBytes(int64(len(x.Data)))
	for b.Loop() {
		Make(x)
	}
}
