package cbc

import (
	libraryAes "crypto/aes"
	"crypto/cipher"
	"crypto/sha256"
	"encoding/binary"
	"encoding/hex"
	"math"
	"slices"
	"strings"
	"sync"
	"testing"

	"hamper/aes"
	"hamper/api"
	"hamper/sample"
)

const (
	someKey   = "0123456789abcdef0123456789abcdef"
	someFirst = "a first block .."
)

// lengths are some about the end of a block, with the number ahead and without, and others.
func lengths() []int {
	all := []int{250, 255, 256, 257, 1000, 4096}
	for length := range 100 {
		all = append(all, length)
	}
	return all
}

// keys are of all sorts.
func keys() []string {
	s := sample.From(301)
	return []string{someKey, strings.Repeat("\x00", 32), strings.Repeat("\xff", 32), s.Text(32), s.Text(32)}
}

// firsts are of all sorts.
func firsts() []string {
	s := sample.From(303)
	return []string{someFirst, strings.Repeat("\x00", 16), strings.Repeat("\xff", 16), s.Text(16)}
}

// dataOf are data of a length, of all sorts.
func dataOf(length int) []string {
	return []string{sample.Counting(length), strings.Repeat("\x00", length), strings.Repeat("\xff", length), sample.From(uint32(length)).Text(length)}
}

// call is Seal or Open.
type call func(key, first, text string) (string, api.Errno)

// told is what a call tells, which must be there.
func told(t *testing.T, c call, key, first, text string) string {
	t.Helper()
	to, e := c(key, first, text)
	if e != api.OK {
		t.Fatalf("of %d bytes: %v", len(text), e)
	}
	return to
}

// seal are data, sealed.
func seal(t *testing.T, key, first, data string) string {
	t.Helper()
	return told(t, Seal, key, first, data)
}

// open are the data of a sealed text.
func open(t *testing.T, key, first, s string) string {
	t.Helper()
	return told(t, Open, key, first, s)
}

// refused fails if what a call tells is not this error alone.
func refused(t *testing.T, c call, key, first, text string, asked api.Errno) {
	t.Helper()
	if to, e := c(key, first, text); to != "" || e != asked {
		t.Errorf("of %d bytes: %d bytes, %v, not %v", len(text), len(to), e, asked)
	}
}

// noSeal fails if data are not refused by this error.
func noSeal(t *testing.T, key, first, data string, asked api.Errno) {
	t.Helper()
	refused(t, Seal, key, first, data, asked)
}

// noOpen fails if a text is not refused by this error.
func noOpen(t *testing.T, key, first, s string, asked api.Errno) {
	t.Helper()
	refused(t, Open, key, first, s, asked)
}

// same fails if two texts are not one.
func same(t *testing.T, what, is, asked string) {
	t.Helper()
	if is != asked {
		t.Fatalf("%s: %d bytes, %.80x, not %d bytes, %.80x", what, len(is), is, len(asked), asked)
	}
}

// isText fails if a text is not that of these hexadecimal digits.
func isText(t *testing.T, what, text, asked string) {
	t.Helper()
	same(t, what, hex.EncodeToString([]byte(text)), asked)
}

// numbered is a frame with whatever number ahead, and whatever behind it.
func numbered(number uint64, rest string) string {
	return string(binary.BigEndian.AppendUint64(nil, number)) + rest
}

// longFrame are data, framed by the words of the chapter.
func longFrame(data string) string {
	frame := numbered(uint64(len(data)), data)
	for len(frame)%16 != 0 {
		frame += "\x00"
	}
	return frame
}

// library are a frame's blocks in a chain, by the language's own library, which the program itself does not call.
func library(t *testing.T, key, first, frame string) string {
	t.Helper()
	c, err := libraryAes.NewCipher([]byte(key))
	if err != nil {
		t.Fatal(err)
	}
	text := make([]byte, len(frame))
	cipher.NewCBCEncrypter(c, []byte(first)).CryptBlocks(text, []byte(frame))
	return string(text)
}

func TestExamples(t *testing.T) {
	same(t, "Frame of ab", Frame("ab"), "\x00\x00\x00\x00\x00\x00\x00\x02ab\x00\x00\x00\x00\x00\x00")
	same(t, "Frame of nothing", Frame(""), strings.Repeat("\x00", 16))
	if s := seal(t, someKey, someFirst, ""); len(s) != 16 {
		t.Errorf("Seal of nothing: %x", s)
	}
	noOpen(t, someKey, someFirst, sample.Counting(15), api.ErrForm)
}

// P10.1: what another program has sealed.
func TestKnown(t *testing.T) {
	noughts, full := strings.Repeat("\x00", 32), strings.Repeat("\xff", 32)
	for _, known := range []struct{ key, first, data, sealed string }{
		{someKey, someFirst, "", "a93b0aa3c6bda751df19028a9fed1535"},
		{someKey, someFirst, "ab", "1fd45cdd09c4a7e84bbb78b3eb0e09d4"},
		{noughts, noughts[:16], "", "dc95c078a2408989ad48a21492842087"},
		{full, full[:16], full[:8], "e29a454cdb8c7748b0436707f273491f"},
		{full, full[:16], full[:9], "9c83ef7b322461c5648600db9e0378968fb99dba56d1e4e6bb9dc118eaceb018"},
		{someKey, someFirst, "some data that are longer than one block, and than two", "07a7a9577cdd8c65de629c4b2d507ef70fd5d20c2eea155607bf78a2cebdca30da2bd7ba1c0e1edd7ef2abd4631bc21203c70c641360a958b3f38e02ebfa8b67"},
	} {
		s := seal(t, known.key, known.first, known.data)
		isText(t, "Seal", s, known.sealed)
		same(t, "Open", open(t, known.key, known.first, s), known.data)
	}
}

// P10.1, P10.2: as many data as there may be, which another program has sealed, there and back; one byte more is refused.
func TestMost(t *testing.T) {
	data := sample.Counting(api.MaxStream)
	s := seal(t, someKey, someFirst, data)
	digest := sha256.Sum256([]byte(s))
	isText(t, "the digest of what is sealed", string(digest[:]), "469ce5c034a7c70641bf199793e26dd1b62ac4ef6a530f9a4b748ae1816438e0")
	isText(t, "its last block", s[len(s)-16:], "ead375182e264fe555f2ab3cf8073c3e")
	same(t, "Open", open(t, someKey, someFirst, s), data)
	noSeal(t, someKey, someFirst, data+"\x00", api.ErrTooLarge)
	noSeal(t, someKey, someFirst, data+data, api.ErrTooLarge)
}

// P10.2: more data than are sealed are framed as others are, but what their frame is sealed to by another program is not opened, as Seal tells nothing for them.
func TestMoreThanMost(t *testing.T) {
	for _, more := range []int{1, 9} {
		data := sample.Counting(api.MaxStream + more)
		frame := longFrame(data)
		same(t, "Frame", Frame(data), frame)
		noOpen(t, someKey, someFirst, library(t, someKey, someFirst, frame), api.ErrForm)
	}
}

// P10.1: framed data: their number, they themselves, and as few bytes 0 as there may be.
func TestFrame(t *testing.T) {
	for _, length := range append(lengths(), 65535, 65536, 65537, 1<<18+7, 1<<18+8, 1<<18+9) {
		for _, data := range dataOf(length) {
			frame := Frame(data)
			if len(frame)%16 != 0 || len(frame) < 8+length || len(frame) > 8+length+15 {
				t.Fatalf("Frame of %d bytes has %d", length, len(frame))
			}
			same(t, "the number", frame[:8], numbered(uint64(length), ""))
			same(t, "the data", frame[8:8+length], data)
			same(t, "what is behind them", frame[8+length:], strings.Repeat("\x00", len(frame)-length-8))
		}
	}
	for length, size := range map[int]int{0: 16, 7: 16, 8: 16, 9: 32, 23: 32, 24: 32, 25: 48, 40: 48, 41: 64} {
		if is := len(Frame(strings.Repeat("d", length))); is != size {
			t.Errorf("Frame of %d bytes has %d, not %d", length, is, size)
		}
	}
}

// P10.1, P10.2: keys, first blocks and data of all sorts, there and back, and back and there.
func TestAsLibrary(t *testing.T) {
	for _, length := range lengths() {
		for i, data := range dataOf(length) {
			key, first := keys()[(length+i)%len(keys())], firsts()[(length/3+i)%len(firsts())]
			sealed := library(t, key, first, longFrame(data))
			same(t, "Seal", seal(t, key, first, data), sealed)
			same(t, "Open", open(t, key, first, sealed), data)
			same(t, "Seal of Open", seal(t, key, first, open(t, key, first, sealed)), sealed)
			same(t, "Open of Seal", open(t, key, first, seal(t, key, first, data)), data)
		}
	}
	for _, key := range keys() {
		for _, first := range firsts() {
			data := sample.Counting(50)
			sealed := library(t, key, first, longFrame(data))
			same(t, "Seal", seal(t, key, first, data), sealed)
			same(t, "Open", open(t, key, first, sealed), data)
		}
	}
}

// P10.1: what is opened by another first block is unlike at the bits that are unlike there; a number that is unlike is refused.
func TestEachBitOfFirsts(t *testing.T) {
	data := sample.Counting(40)
	s := seal(t, someKey, someFirst, data)
	met := map[string]int{s: -1}
	for bit := range 128 {
		other := flipped(someFirst, bit)
		meet(t, met, seal(t, someKey, other, data), bit)
		if bit < 64 {
			noOpen(t, someKey, other, s, api.ErrForm)
			continue
		}
		same(t, "Open by another first block", open(t, someKey, other, s), flipped(data, bit-64))
	}
}

// P10.1: each bit of a key makes another one.
func TestEachBitOfKeys(t *testing.T) {
	data := sample.Counting(30)
	met := map[string]int{}
	for bit := range 256 {
		key := flipped(someKey, bit)
		s := seal(t, key, someFirst, data)
		meet(t, met, s, bit)
		noOpen(t, someKey, someFirst, s, api.ErrForm)
	}
}

// meet fails if a sealed text was met already, and keeps that it was now, and of what.
func meet(t *testing.T, met map[string]int, sealed string, of int) {
	t.Helper()
	if last, is := met[sealed]; is {
		t.Errorf("%d and %d are sealed alike", last, of)
	}
	met[sealed] = of
}

// flipped is a text with another bit.
func flipped(text string, bit int) string {
	all := []byte(text)
	all[bit/8] ^= 0x80 >> (bit % 8)
	return string(all)
}

// P10.3: data that are unlike from one block on are sealed alike up to it, and that one to another.
func TestInAChain(t *testing.T) {
	for _, length := range []int{1, 8, 9, 24, 25, 40, 100} {
		data := sample.From(307).Text(length)
		s := seal(t, someKey, someFirst, data)
		for bit := range 8 * length {
			unlike(t, s, seal(t, someKey, someFirst, flipped(data, bit)), (8+bit/8)/16)
		}
		for other := range length {
			unlike(t, s, seal(t, someKey, someFirst, data[:other]), 0)
		}
		for at := range length / 2 {
			tail := flipped(data[:at+1], 8*at) + sample.From(309).Text(length-at-1)
			unlike(t, s, seal(t, someKey, someFirst, tail), (8+at)/16)
		}
	}
}

// unlike fails if two sealed texts do not have so many blocks alike at their beginning, and the next one unlike.
func unlike(t *testing.T, one, other string, alike int) {
	t.Helper()
	same(t, "the blocks so far", other[:16*alike], one[:16*alike])
	if other[16*alike:16*alike+16] == one[16*alike:16*alike+16] {
		t.Fatalf("block %d is sealed to %x twice", alike, one[16*alike:16*alike+16])
	}
}

// P10.3: what lies ahead in a chain is seen in each block: the same one over and over is sealed to unlike ones.
func TestNoTwoBlocksAlike(t *testing.T) {
	s := seal(t, someKey, someFirst, strings.Repeat("\x00", 8+16*100))
	met := map[string]int{}
	for at := 0; at < len(s); at += 16 {
		meet(t, met, s[at:at+16], at)
	}
}

// P10.3: without its last block, or any more of its end, a sealed text is refused; so it is with a block behind it.
func TestCut(t *testing.T) {
	for _, length := range lengths() {
		for _, data := range dataOf(length) {
			s := seal(t, someKey, someFirst, data)
			noOpen(t, someKey, someFirst, s[:len(s)-16], api.ErrForm)
			noOpen(t, someKey, someFirst, s[:len(s)/32*16], api.ErrForm)
			noOpen(t, someKey, someFirst, s[:len(s)-1], api.ErrForm)
			noOpen(t, someKey, someFirst, s+s[:1], api.ErrForm)
			noOpen(t, someKey, someFirst, s+s[len(s)-16:], api.ErrForm)
			noOpen(t, someKey, someFirst, library(t, someKey, someFirst, longFrame(data)+strings.Repeat("\x00", 16)), api.ErrForm)
		}
	}
}

// P10.4: each block of a sealed text, deciphered, is that of the frame, put together with the block ahead of it.
func TestBlockByBlock(t *testing.T) {
	for _, key := range keys() {
		c, e := aes.New(key)
		if e != api.OK {
			t.Fatal(e)
		}
		for _, length := range lengths()[6:] {
			data := sample.From(uint32(length)).Text(length)
			frame, ahead := Frame(data), someFirst
			s := seal(t, key, someFirst, data)
			if len(s) != len(frame) {
				t.Fatalf("Seal of %d bytes has %d, its frame %d", length, len(s), len(frame))
			}
			for at := 0; at < len(s); at += 16 {
				b, e := c.Decrypt(s[at : at+16])
				if e != api.OK {
					t.Fatal(e)
				}
				both := []byte(b)
				for i := range both {
					both[i] ^= ahead[i]
				}
				same(t, "a block of the frame", string(both), frame[at:at+16])
				ahead = s[at : at+16]
			}
		}
	}
}

// The row of errors: keys and first blocks of other lengths, which are told ahead of all else.
func TestRefused(t *testing.T) {
	tooLong := strings.Repeat("d", api.MaxStream+1)
	s := seal(t, someKey, someFirst, "some data")
	key, first := strings.Repeat("k", 1<<16), strings.Repeat("f", 1<<16)
	for _, length := range []int{0, 1, 15, 16, 17, 24, 31, 33, 48, 64, 256 + 32, 1<<16 - 1, 1 << 16} {
		for _, data := range []string{"", "some data", tooLong} {
			noSeal(t, key[:length], someFirst, data, api.ErrArg)
			noOpen(t, key[:length], someFirst, data, api.ErrArg)
		}
		noOpen(t, key[:length], someFirst, s, api.ErrArg)
		noOpen(t, key[:length], first[:15], s, api.ErrArg)
	}
	for _, length := range []int{0, 1, 8, 15, 17, 31, 32, 33, 256 + 16, 1<<16 - 1, 1 << 16} {
		for _, data := range []string{"", "some data", tooLong} {
			noSeal(t, someKey, first[:length], data, api.ErrArg)
			noOpen(t, someKey, first[:length], data, api.ErrArg)
		}
		noOpen(t, someKey, first[:length], s, api.ErrArg)
		noSeal(t, key[:33], first[:length], tooLong, api.ErrArg)
	}
	noSeal(t, someFirst, someKey, "", api.ErrArg)
	noOpen(t, someFirst, someKey, s, api.ErrArg)
}

// The row of errors: bytes that are none, or no multiple of 16.
func TestNoBlocks(t *testing.T) {
	s := seal(t, someKey, someFirst, sample.Counting(100))
	for length := range len(s) {
		noOpen(t, someKey, someFirst, s[:length], api.ErrForm)
		noOpen(t, someKey, someFirst, s[len(s)-length:], api.ErrForm)
	}
	for behind := 1; behind < 40; behind++ {
		noOpen(t, someKey, someFirst, s+sample.Counting(behind), api.ErrForm)
	}
}

// The row of errors: what is undone no frame, though it is whole blocks: by whatever number ahead, and whatever stands behind the data.
func TestNoFrame(t *testing.T) {
	for _, length := range []int{0, 1, 7, 8, 9, 23, 24, 25, 39, 40, 41} {
		for _, data := range dataOf(length) {
			rest := Frame(data)[8:]
			for number := range uint64(64) {
				opens(t, number, rest)
				opens(t, uint64(length)^1<<number, rest)
				opens(t, -number, rest)
			}
			for _, number := range []uint64{math.MaxInt32, 1 << 31, math.MaxUint32, math.MaxInt64 - 8, math.MaxInt64, 1 << 63} {
				opens(t, number, rest)
				opens(t, number+uint64(length), rest)
			}
			for at := length; at < len(rest); at++ {
				for _, bit := range []int{0, 3, 7} {
					opens(t, uint64(length), flipped(rest, 8*at+bit))
				}
			}
			opens(t, uint64(length), rest+strings.Repeat("\x00", 16))
			opens(t, uint64(length), rest+strings.Repeat("\x00", 160))
		}
	}
}

// opens fails if a number and what is behind it are opened, sealed, though no data are framed to it, or refused though some are.
func opens(t *testing.T, number uint64, rest string) {
	t.Helper()
	frame := numbered(number, rest)
	s := library(t, someKey, someFirst, frame)
	if number <= uint64(len(rest)) && longFrame(rest[:number]) == frame {
		same(t, "Open", open(t, someKey, someFirst, s), rest[:number])
		return
	}
	noOpen(t, someKey, someFirst, s, api.ErrForm)
}

// R1, and the row of errors: whatever bytes there are, they are no sealed text, but by more luck than there is.
func TestWhateverThereIs(t *testing.T) {
	s := sample.From(311)
	for range 300 {
		noOpen(t, s.Text(32), s.Text(16), s.Text(16*(1+int(s.Next())%20)), api.ErrForm)
	}
}

// P10.1: blocks are told one behind the other, and no more of them than are asked for.
func TestBlocks(t *testing.T) {
	text := sample.Counting(160)
	for length := 0; length <= len(text); length += 16 {
		var all []byte
		for b := range blocks(text[:length]) {
			all = append(all, b[:]...)
		}
		same(t, "all blocks", string(all), text[:length])
	}
	for b := range blocks(text) {
		if b.text() == text[32:48] {
			break
		}
	}
}

// R2: the same once more, whatever was asked in between, and refused.
func TestAgain(t *testing.T) {
	s := sample.From(313)
	for range 300 {
		key, first, data := s.Text(32), s.Text(16), s.Text(int(s.Next())%200)
		sealed := library(t, key, first, longFrame(data))
		switch s.Next() % 4 {
		case 0:
			same(t, "Seal", seal(t, key, first, data), sealed)
		case 1:
			same(t, "Open", open(t, key, first, sealed), data)
		case 2:
			noSeal(t, key[1:], first, data, api.ErrArg)
			noOpen(t, key, first+"f", sealed, api.ErrArg)
		default:
			noOpen(t, key, first, sealed[1:], api.ErrForm)
		}
	}
}

// R2: the same from many at once.
func TestMany(t *testing.T) {
	both := make([][2]string, 16)
	var all sync.WaitGroup
	for i := range both {
		all.Go(func() {
			for range 20 {
				both[i][0], _ = Seal(someKey, someFirst, sample.Counting(10*i))
				both[i][1], _ = Open(someKey, someFirst, both[i][0])
			}
		})
	}
	all.Wait()
	for i, is := range both {
		data := sample.Counting(10 * i)
		if !slices.Equal(is[:], []string{library(t, someKey, someFirst, longFrame(data)), data}) {
			t.Errorf("%d bytes: %x", len(data), is)
		}
	}
}

func BenchmarkSeal(b *testing.B) {
	data := sample.Counting(1 << 16)
	b.SetBytes(int64(len(data)))
	for b.Loop() {
		Seal(someKey, someFirst, data)
	}
}

func BenchmarkOpen(b *testing.B) {
	data := sample.Counting(1 << 16)
	s, _ := Seal(someKey, someFirst, data)
	b.SetBytes(int64(len(data)))
	for b.Loop() {
		Open(someKey, someFirst, s)
	}
}
