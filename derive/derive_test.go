package derive

import (
	"crypto/hmac"
	"crypto/pbkdf2"
	"crypto/sha256"
	"encoding/binary"
	"encoding/hex"
	"math"
	"strings"
	"sync"
	"testing"

	"hamper/api"
	"hamper/sample"
	"hamper/sha"
)

const someSalt = "sixteen bytes .."

// blockEdges are blocks whose numbers have their bits at all bytes.
func blockEdges() []int {
	return []int{1, 2, 3, 127, 128, 255, 256, 257, 65535, 65536, 65537, 1<<24 - 1, 1 << 24, 0x01020304, 0x7f808182, 1<<31 - 2, 1<<31 - 1}
}

// passwords are of all sorts, of lengths up to the longest.
func passwords() []string {
	s := sample.From(101)
	all := []string{"", "\x00", "secret", "pass\x00word", "p\xc3\xa4ss", strings.Repeat("\xff", 64), strings.Repeat("\x36", 64), strings.Repeat("\x5c", 63)}
	for _, length := range []int{1, 2, 15, 31, 32, 33, 62, 63, 64} {
		all = append(all, s.Text(length))
	}
	return all
}

// salts are of all sorts.
func salts() []string {
	s := sample.From(103)
	return []string{someSalt, strings.Repeat("\x00", 16), strings.Repeat("\xff", 16), s.Text(16), s.Text(16)}
}

// keyOf is a key and its check, which must be there.
func keyOf(t *testing.T, password, salt string, rounds int) (key, check string) {
	t.Helper()
	key, check, e := Key(password, salt, rounds)
	if e != api.OK || len(key) != 32 || len(check) != 8 {
		t.Fatalf("Key(%q, %q, %d): %x, %x, %v", password, salt, rounds, key, check, e)
	}
	return key, check
}

// stretch is what is stretched, which must be there.
func stretch(t *testing.T, password, salt string, rounds, block int) string {
	t.Helper()
	text, e := Stretch(password, salt, rounds, block)
	if e != api.OK || len(text) != 32 {
		t.Fatalf("Stretch(%q, %q, %d, %d): %x, %v", password, salt, rounds, block, text, e)
	}
	return text
}

// same fails if two texts are not one.
func same(t *testing.T, what, is, asked string) {
	t.Helper()
	if is != asked {
		t.Fatalf("%s: %x, not %x", what, is, asked)
	}
}

// isText fails if a text is not that of these hexadecimal digits.
func isText(t *testing.T, what, text, asked string) {
	t.Helper()
	if is := hex.EncodeToString([]byte(text)); is != asked {
		t.Errorf("%s: %s, not %s", what, is, asked)
	}
}

// both are a text's bytes put together with another one's by exclusive or.
func both(one, other string) string {
	text := []byte(one)
	for i := range text {
		text[i] ^= other[i]
	}
	return string(text)
}

// library are the key and the check that the language's own library, which the program itself does not call, has.
func library(t *testing.T, password, salt string, rounds int) (key, check string) {
	t.Helper()
	all, err := pbkdf2.Key(sha256.New, password, []byte(salt), rounds, 40)
	if err != nil {
		t.Fatal(err)
	}
	return string(all[:32]), string(all[32:])
}

// longhand is what is stretched, reckoned with the library's sums, by the last text of all ahead.
func longhand(password, salt string, rounds, block int) string {
	text := binary.BigEndian.AppendUint32([]byte(salt), uint32(block))
	all := make([]byte, 32)
	for range rounds {
		h := hmac.New(sha256.New, []byte(password))
		h.Write(text)
		text = h.Sum(nil)
		for i, b := range text {
			all[i] ^= b
		}
	}
	return string(all)
}

// noKey fails if a key is not refused, or if anything stands beside the error.
func noKey(t *testing.T, password, salt string, rounds int) {
	t.Helper()
	if key, check, e := Key(password, salt, rounds); key != "" || check != "" || e != api.ErrArg {
		t.Errorf("Key of a password of %d bytes, a salt of %d, %d rounds: %x, %x, %v", len(password), len(salt), rounds, key, check, e)
	}
}

// noStretch fails if what is stretched is not refused, or if anything stands beside the error.
func noStretch(t *testing.T, password, salt string, rounds, block int) {
	t.Helper()
	if text, e := Stretch(password, salt, rounds, block); text != "" || e != api.ErrArg {
		t.Errorf("Stretch of a password of %d bytes, a salt of %d, %d rounds, block %d: %x, %v", len(password), len(salt), rounds, block, text, e)
	}
}

func TestExamples(t *testing.T) {
	noKey(t, "secret", someSalt[:15], 1)
	noKey(t, "secret", someSalt, 0)
	keyOf(t, "secret", someSalt, 1)
}

// P8.1: keys and checks that others have reckoned.
func TestKnown(t *testing.T) {
	up, down := sample.Counting(64), []byte(sample.Counting(16))
	for i := range down {
		down[i] = ^down[i]
	}
	for _, known := range []struct {
		password, salt string
		rounds         int
		key, check     string
	}{
		{"secret", someSalt, 1, "cf8a798864f045bfb05bc3562ff73a5a813e5ee37dec9c130403b461d877d5b2", "5c501046284aad79"},
		{"secret", someSalt, 3, "6de8075751dd3dbd828f966231e7832dfd403264bb6f320ac0815c88548c1ebf", "50338d766475b484"},
		{"secret", someSalt, 4, "8760c32478b6f11a4805b583f7b6ca92f03a64ef02d2edf815bc1f5b32780098", "4245500674d65bfd"},
		{"secret", someSalt, 64, "064ce012aa034444a905c44e3bbeda07a00bfb790aaf86947fe00e36252a42fc", "ae575f31e2cc6dbd"},
		{"", strings.Repeat("\x00", 16), 1, "c8c2ef93624f53f746ad5664441f9e04f1dde6c84f8f0a06689d9f4ef61ec1bd", "24935b3d1cf00874"},
		{"", strings.Repeat("\x00", 16), 64, "c65c6417202c40b8e5a53eda000d61d12a5e951e5215a447aa1d1e1e961223c6", "b4fcf8e2d627eed6"},
		{up, string(down), 17, "96d9255de566e97e5df51163c6e456bd8ee982029d20f0e7f4cfdcc84d523bcd", "d0170507daba870b"},
		{strings.Repeat("\xff", 63), strings.Repeat("\x80", 16), 2, "319e9a0c754ab35f1636eecda2913e8ec3c22df231bc2e3dfd0ccea50efdbdb5", "0bcb1d3e9eb58afa"},
	} {
		key, check := keyOf(t, known.password, known.salt, known.rounds)
		isText(t, "key", key, known.key)
		isText(t, "check", check, known.check)
	}
}

// P8.1: what others have reckoned of blocks.
func TestKnownBlocks(t *testing.T) {
	for _, known := range []struct {
		rounds, block int
		text          string
	}{
		{1, 1, "cf8a798864f045bfb05bc3562ff73a5a813e5ee37dec9c130403b461d877d5b2"},
		{1, 2, "5c501046284aad791d371c35c0cb774164e921af3be4a58731d0da7bf446ccc2"},
		{1, 3, "bff6216b653508c195f23df06604ad9e7ff0433b4bf2b5aa10c7843e7a90fadf"},
		{3, 2, "50338d766475b4848b1906ac4e5dc3372886937aa10e6bde5e94f8895f31449c"},
		{5, 256, "8789d59b711807b7099cd812548a10710934f9f8b4c9c7cf86b98cc7a1e1cb8c"},
		{5, 65536, "d185d737f5ea51ad36e45e9a908ccab697494a7b64df217d666150ae63930096"},
		{2, 0x01020304, "00be361697471498fd7f11682dca1779b53bb4c656027b768882a8ce6ca794ee"},
		{2, 1 << 24, "3f8be749086537594a03606351b837572a62cf6d14a734e5f41eb9331ea4bc6a"},
		{64, 1<<31 - 1, "72bfca0ff1a9b244e801042837cce62edb2106f68e170d9609536da0e0813c2d"},
	} {
		isText(t, "Stretch", stretch(t, "secret", someSalt, known.rounds, known.block), known.text)
	}
}

// P8.1: passwords, salts and rounds of all sorts.
func TestAsLibrary(t *testing.T) {
	for _, password := range passwords() {
		for _, salt := range salts() {
			for _, rounds := range []int{1, 2, 7, 64} {
				key, check := keyOf(t, password, salt, rounds)
				wantKey, wantCheck := library(t, password, salt, rounds)
				same(t, "key", key, wantKey)
				same(t, "check", check, wantCheck)
			}
		}
	}
}

// P8.1: the number of the block stands behind the salt.
func TestBlocks(t *testing.T) {
	for _, password := range passwords() {
		for _, block := range blockEdges() {
			for _, rounds := range []int{1, 2, 9} {
				same(t, "Stretch", stretch(t, password, someSalt, rounds, block), longhand(password, someSalt, rounds, block))
			}
		}
	}
}

// P8.1: the key is what is stretched by 1, the check the beginning of what is stretched by 2.
func TestOfStretch(t *testing.T) {
	for _, salt := range salts() {
		for rounds := 1; rounds <= api.MaxRounds; rounds++ {
			key, check := keyOf(t, "secret", salt, rounds)
			same(t, "key", key, stretch(t, "secret", salt, rounds, 1))
			same(t, "check", check, stretch(t, "secret", salt, rounds, 2)[:8])
		}
	}
}

// P8.1: each round, each password, each salt and each block makes others.
func TestNoTwoAlike(t *testing.T) {
	met := map[string]string{}
	meet := func(what, text string) {
		t.Helper()
		if other, is := met[text]; is {
			t.Errorf("%s is %s", what, other)
		}
		met[text] = what
	}
	for rounds := 1; rounds <= api.MaxRounds; rounds++ {
		key, check := keyOf(t, "secret", someSalt, rounds)
		meet("a key of other rounds", key)
		meet("a check of other rounds", check)
	}
	for _, block := range blockEdges()[1:] {
		meet("another block", stretch(t, "secret", someSalt, 2, block))
	}
	for bit := range 8 * len(someSalt) {
		salt := []byte(someSalt)
		salt[bit/8] ^= 1 << (bit % 8)
		meet("another salt", stretch(t, "secret", string(salt), 2, 1))
	}
	for bit := range 8 * api.MaxPass {
		password := []byte(sample.Counting(api.MaxPass))
		password[bit/8] ^= 1 << (bit % 8)
		meet("another password", stretch(t, string(password), someSalt, 2, 1))
	}
}

// P8.2: what is stretched by one more round is, but for the last text, what was stretched.
func TestRoundByRound(t *testing.T) {
	for _, password := range []string{"", "secret", sample.Counting(api.MaxPass)} {
		for _, block := range []int{1, 2, 1<<31 - 1} {
			last := sha.Hmac(password, someSalt+string(binary.BigEndian.AppendUint32(nil, uint32(block))))
			ahead := stretch(t, password, someSalt, 1, block)
			same(t, "by one round", ahead, last)
			for rounds := 2; rounds <= api.MaxRounds; rounds++ {
				text := stretch(t, password, someSalt, rounds, block)
				last = sha.Hmac(password, last)
				same(t, "by one more", both(text, ahead), last)
				ahead = text
			}
		}
	}
}

// P8.3: a byte 0 behind a password changes nothing, as long as there is room; ahead of it, or any other byte behind it, it does.
func TestFilledUp(t *testing.T) {
	s := sample.From(107)
	for length := range api.MaxPass {
		password := strings.Repeat("p", min(length, 1)) + s.Text(max(length-1, 0))
		for _, rounds := range []int{1, 3} {
			key, check := keyOf(t, password, someSalt, rounds)
			otherKey, otherCheck := keyOf(t, password+"\x00", someSalt, rounds)
			same(t, "the key of a byte 0 behind", otherKey, key)
			same(t, "the check of a byte 0 behind", otherCheck, check)
			otherKey, otherCheck = keyOf(t, password+strings.Repeat("\x00", api.MaxPass-length), someSalt, rounds)
			same(t, "the key of all bytes 0 behind", otherKey, key)
			same(t, "the check of all bytes 0 behind", otherCheck, check)
			otherKey, otherCheck = keyOf(t, password+"\x01", someSalt, rounds)
			if otherKey == key || otherCheck == check {
				t.Errorf("%d bytes have the key, or the check, of them with a byte 1 behind", length)
			}
		}
		if length > 0 && stretch(t, "\x00"+password, someSalt, 2, 1) == stretch(t, password, someSalt, 2, 1) {
			t.Errorf("%d bytes have the key of them with a byte 0 ahead", length)
		}
	}
	noKey(t, strings.Repeat("p", api.MaxPass)+"\x00", someSalt, 1)
	noStretch(t, strings.Repeat("p", api.MaxPass)+"\x00", someSalt, 1, 1)
}

// P8.4: whatever goes in, so many bytes come out (keyOf and stretch ask it), and by one round it is the sum itself.
func TestAsLong(t *testing.T) {
	s := sample.From(109)
	for length := range api.MaxPass + 1 {
		password, salt := s.Text(length), s.Text(16)
		for _, rounds := range []int{1, 2, api.MaxRounds} {
			keyOf(t, password, salt, rounds)
		}
		for _, block := range blockEdges() {
			behind := string([]byte{byte(block >> 24), byte(block >> 16), byte(block >> 8), byte(block)})
			same(t, "by one round", stretch(t, password, salt, 1, block), sha.Hmac(password, salt+behind))
		}
	}
}

// The row of errors: each argument that is out of its range, alone and with others; the edges beside it are taken.
func TestRefused(t *testing.T) {
	longest, salt := strings.Repeat("p", api.MaxPass), someSalt
	keyOf(t, longest, salt, 1)
	keyOf(t, longest, salt, api.MaxRounds)
	keyOf(t, "", salt, 1)
	for _, password := range []string{longest + "p", longest + "\x00", strings.Repeat("\x00", 65), strings.Repeat("p", 128), strings.Repeat("p", 1<<20)} {
		noKey(t, password, salt, 1)
		noStretch(t, password, salt, 1, 1)
	}
	for _, salt := range []string{"", "s", salt[:15], salt + "s", salt + "\x00", salt + salt, strings.Repeat("s", 1<<20)} {
		noKey(t, "secret", salt, 1)
		noStretch(t, "secret", salt, 1, 1)
	}
	for _, rounds := range []int{0, -1, -64, api.MaxRounds + 1, 1 << 20, 1<<32 + 1, math.MinInt, math.MinInt + 1, math.MinInt32, math.MaxInt32, math.MaxInt} {
		noKey(t, "secret", salt, rounds)
		noStretch(t, "secret", salt, rounds, 1)
	}
	for _, block := range []int{0, -1, 1 << 31, 1<<31 + 1, 1<<32 - 1, 1 << 32, 1<<32 + 1, math.MinInt, math.MinInt + 1, math.MinInt32, math.MaxInt} {
		noStretch(t, "secret", salt, 1, block)
		noStretch(t, longest+"p", salt[:15], 0, block)
	}
	noKey(t, longest+"p", salt[:15], api.MaxRounds+1)
}

// P8.1: rounds are told from 0 on, and no more of them than are asked for.
func TestTold(t *testing.T) {
	for _, rounds := range []int{0, 1, 2, 64} {
		met, ahead := 0, "first"
		for round, text := range told("secret", "first", rounds) {
			if round != met {
				t.Errorf("round %d is told as %d", met, round)
			}
			same(t, "a round's text", text, sha.Hmac("secret", ahead))
			met, ahead = met+1, text
		}
		if met != rounds {
			t.Errorf("%d rounds are told, not %d", met, rounds)
		}
	}
	for round := range told("secret", "first", 64) {
		if round == 2 {
			break
		}
	}
}

// R2: the same once more, whatever was asked in between, and refused.
func TestAgain(t *testing.T) {
	s := sample.From(113)
	for range 200 {
		password, salt := s.Text(int(s.Next())%65), s.Text(16)
		rounds, block := 1+int(s.Next())%8, 1+int(s.Next())<<15
		switch s.Next() % 3 {
		case 0:
			key, check := keyOf(t, password, salt, rounds)
			wantKey, wantCheck := library(t, password, salt, rounds)
			same(t, "key", key, wantKey)
			same(t, "check", check, wantCheck)
		case 1:
			same(t, "Stretch", stretch(t, password, salt, rounds, block), longhand(password, salt, rounds, block))
		default:
			noKey(t, password, salt[1:], rounds)
			noStretch(t, password, salt, rounds, -block)
		}
	}
}

// R2: the same from many at once.
func TestMany(t *testing.T) {
	told := make([][3]string, 16)
	var all sync.WaitGroup
	for i := range told {
		all.Go(func() {
			password := strings.Repeat("p", i)
			key, check, _ := Key(password, someSalt, 1+i)
			text, _ := Stretch(password, someSalt, 1+i, 1+i)
			told[i] = [3]string{key, check, text}
		})
	}
	all.Wait()
	for i, is := range told {
		password := strings.Repeat("p", i)
		key, check := library(t, password, someSalt, 1+i)
		same(t, "key", is[0], key)
		same(t, "check", is[1], check)
		same(t, "Stretch", is[2], longhand(password, someSalt, 1+i, 1+i))
	}
}

func BenchmarkKey(b *testing.B) {
	for b.Loop() {
		Key("secret", someSalt, api.MaxRounds)
	}
}
