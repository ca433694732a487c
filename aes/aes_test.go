package aes

import (
	libraryAes "crypto/aes"
	"encoding/hex"
	"strings"
	"sync"
	"testing"

	"hamper/api"
	"hamper/sample"
)

// keys are of all sorts.
func keys() []string {
	s := sample.From(201)
	all := []string{strings.Repeat("\x00", 32), strings.Repeat("\xff", 32), strings.Repeat("\x52", 32), sample.Counting(32)}
	for range 30 {
		all = append(all, s.Text(32))
	}
	return all
}

// blocks are of all sorts: with each byte at each place, and with each bit alone.
func blocks() []string {
	s := sample.From(203)
	var all []string
	for b := range 256 {
		block := make([]byte, 16)
		for i := range block {
			block[i] = byte(b + 17*i)
		}
		all = append(all, string(block), strings.Repeat(string(block[:1]), 16))
	}
	for bit := range 128 {
		block := make([]byte, 16)
		block[bit/8] = 1 << (bit % 8)
		all = append(all, string(block))
	}
	for range 50 {
		all = append(all, s.Text(16))
	}
	return all
}

// cipherOf is the cipher of a key, which must be there.
func cipherOf(t *testing.T, key string) *Cipher {
	t.Helper()
	c, e := New(key)
	if e != api.OK || c == nil {
		t.Fatalf("New(%x): %v, %v", key, c, e)
	}
	return c
}

// encrypt is a block, enciphered, which must be there.
func encrypt(t *testing.T, c *Cipher, block string) string {
	t.Helper()
	return made(t, c.Encrypt, block)
}

// decrypt is a block, deciphered, which must be there.
func decrypt(t *testing.T, c *Cipher, block string) string {
	t.Helper()
	return made(t, c.Decrypt, block)
}

// made is what a cipher's call makes of a block, which must be there.
func made(t *testing.T, call func(block string) (string, api.Errno), block string) string {
	t.Helper()
	to, e := call(block)
	if e != api.OK || len(to) != 16 {
		t.Fatalf("of %x: %x, %v", block, to, e)
	}
	return to
}

// same fails if two texts are not one.
func same(t *testing.T, what, is, asked string) {
	t.Helper()
	if is != asked {
		t.Fatalf("%s: %x, not %x", what, is, asked)
	}
}

// bytesOf are the bytes of hexadecimal digits.
func bytesOf(t *testing.T, digits string) string {
	t.Helper()
	all, err := hex.DecodeString(digits)
	if err != nil {
		t.Fatal(err)
	}
	return string(all)
}

// library is what the language's own library, which the program itself does not call, makes of a block, and of what is there already enciphered.
func library(t *testing.T, key, block string) (to, from string) {
	t.Helper()
	c, err := libraryAes.NewCipher([]byte(key))
	if err != nil {
		t.Fatal(err)
	}
	there, back := make([]byte, 16), make([]byte, 16)
	c.Encrypt(there, []byte(block))
	c.Decrypt(back, []byte(block))
	return string(there), string(back)
}

// refused fails if a block is not refused by this error, or if anything stands beside it.
func refused(t *testing.T, c *Cipher, block string, asked api.Errno) {
	t.Helper()
	if to, e := c.Encrypt(block); to != "" || e != asked {
		t.Errorf("Encrypt of %d bytes: %x, %v, not %v", len(block), to, e, asked)
	}
	if to, e := c.Decrypt(block); to != "" || e != asked {
		t.Errorf("Decrypt of %d bytes: %x, %v, not %v", len(block), to, e, asked)
	}
}

func TestExamples(t *testing.T) {
	c := cipherOf(t, sample.Counting(32))
	block := bytesOf(t, "00112233445566778899aabbccddeeff")
	to := bytesOf(t, "8ea2b7ca516745bfeafc49904b496089")
	same(t, "Encrypt", encrypt(t, c, block), to)
	same(t, "Decrypt", decrypt(t, c, to), block)
	if c, e := New(sample.Counting(31)); c != nil || e != api.ErrArg {
		t.Errorf("New: %v, %v", c, e)
	}
	refused(t, c, block[:15], api.ErrArg)
}

// P9.1: blocks that others have enciphered.
func TestKnown(t *testing.T) {
	const other = "603deb1015ca71be2b73aef0857d77811f352c073b6108d72d9810a30914dff4"
	noughts, full := strings.Repeat("0", 64), strings.Repeat("f", 64)
	for _, known := range []struct{ key, block, to string }{
		{other, "6bc1bee22e409f96e93d7e117393172a", "f3eed1bdb5d2a03c064b5a7e3db181f8"},
		{other, "ae2d8a571e03ac9c9eb76fac45af8e51", "591ccb10d410ed26dc5ba74a31362870"},
		{other, "30c81c46a35ce411e5fbc1191a0a52ef", "b6ed21b99ca6f4f9f153e7b1beafed1d"},
		{other, "f69f2445df4f9b17ad2b417be66c3710", "23304b7a39f9f3ff067d8d8f9e24ecc7"},
		{noughts, noughts[:32], "dc95c078a2408989ad48a21492842087"},
		{noughts, full[:32], "acdace8078a32b1a182bfa4987ca1347"},
		{full, noughts[:32], "4bf85f1b5d54adbc307b0a048389adcb"},
		{full, full[:32], "d5f93d6d3311cb309f23621b02fbd5e2"},
	} {
		c := cipherOf(t, bytesOf(t, known.key))
		same(t, "Encrypt", encrypt(t, c, bytesOf(t, known.block)), bytesOf(t, known.to))
		same(t, "Decrypt", decrypt(t, c, bytesOf(t, known.to)), bytesOf(t, known.block))
	}
}

// P9.1, P9.2: keys and blocks of all sorts, there and back, and back and there.
func TestAsLibrary(t *testing.T) {
	for _, key := range keys() {
		c := cipherOf(t, key)
		for _, block := range blocks() {
			to, from := library(t, key, block)
			same(t, "Encrypt", encrypt(t, c, block), to)
			same(t, "Decrypt", decrypt(t, c, block), from)
			same(t, "Decrypt of Encrypt", decrypt(t, c, to), block)
			same(t, "Encrypt of Decrypt", encrypt(t, c, from), block)
		}
	}
}

// P9.1: each bit of a key makes another cipher.
func TestEachBitOfKeys(t *testing.T) {
	block, met := sample.Counting(16), map[string]int{}
	for bit := range 256 {
		key := []byte(sample.Counting(32))
		key[bit/8] ^= 1 << (bit % 8)
		to := encrypt(t, cipherOf(t, string(key)), block)
		asked, _ := library(t, string(key), block)
		same(t, "Encrypt", to, asked)
		if other, is := met[to]; is {
			t.Errorf("bits %d and %d make the same", other, bit)
		}
		met[to] = bit
	}
}

// P9.3: unlike blocks become unlike ones, both ways.
func TestOneToOne(t *testing.T) {
	for _, key := range keys() {
		c := cipherOf(t, key)
		there, back := map[string]string{}, map[string]string{}
		for _, block := range blocks() {
			to, from := encrypt(t, c, block), decrypt(t, c, block)
			if other, is := there[to]; is && other != block {
				t.Fatalf("%x and %x become %x", other, block, to)
			}
			if other, is := back[from]; is && other != block {
				t.Fatalf("%x and %x come of %x", other, block, from)
			}
			there[to], back[from] = block, block
		}
	}
}

// P9.4, R2: in whatever row, whatever was refused in between, by another cipher of the key, and with others beside it, a block becomes the same.
func TestAsItWas(t *testing.T) {
	s := sample.From(207)
	all := keys()
	ciphers := make([]*Cipher, len(all))
	for i, key := range all {
		ciphers[i] = cipherOf(t, key)
	}
	for range 2000 {
		i := int(s.Next()) % len(all)
		c, block := ciphers[i], s.Text(16)
		to, from := library(t, all[i], block)
		switch s.Next() % 5 {
		case 0:
			same(t, "Encrypt", encrypt(t, c, block), to)
		case 1:
			same(t, "Decrypt", decrypt(t, c, block), from)
		case 2:
			refused(t, c, block[1:], api.ErrArg)
		case 3:
			other := cipherOf(t, all[i])
			same(t, "Encrypt by another one", encrypt(t, other, block), to)
			same(t, "Decrypt by another one", decrypt(t, other, block), from)
		default:
			if c, e := New(all[i] + block[:1]); c != nil || e != api.ErrArg {
				t.Fatalf("New of 33 bytes: %v, %v", c, e)
			}
		}
	}
	for i, key := range all {
		if *ciphers[i] != *cipherOf(t, key) {
			t.Errorf("the cipher of %x is not as it was", key)
		}
	}
}

// P9.4, R2: the same from many at once, by one cipher.
func TestMany(t *testing.T) {
	const many = 16
	key, texts := sample.Counting(32), sample.From(211)
	c := cipherOf(t, key)
	blocks, told := make([]string, many), make([][2]string, many)
	for i := range blocks {
		blocks[i] = texts.Text(16)
	}
	var all sync.WaitGroup
	for i, block := range blocks {
		all.Go(func() {
			for range 50 {
				told[i][0], _ = c.Encrypt(block)
				told[i][1], _ = c.Decrypt(block)
			}
		})
	}
	all.Wait()
	for i, block := range blocks {
		to, from := library(t, key, block)
		same(t, "Encrypt", told[i][0], to)
		same(t, "Decrypt", told[i][1], from)
	}
}

// P9.5: as many steps back undo those there, one by one, and the other way about.
func TestAgainAndAgain(t *testing.T) {
	const times = 1000
	c := cipherOf(t, sample.Counting(32))
	nought := strings.Repeat("\x00", 16)
	row := []string{nought}
	for i := range times {
		row = append(row, encrypt(t, c, row[i]))
	}
	same(t, "a block that another program has enciphered so often", row[times], bytesOf(t, knownThousand))
	block := row[times]
	for i := times; i > 0; i-- {
		block = decrypt(t, c, block)
		same(t, "one step back", block, row[i-1])
	}
	for range times {
		block = decrypt(t, c, block)
	}
	for range times {
		block = encrypt(t, c, block)
	}
	same(t, "back and there", block, nought)
}

// knownThousand is what a block of bytes 0 becomes in a thousand steps by the key 00 01 .. 1f.
const knownThousand = "a5ee6799c190df6c5be35ef1efc5db1b"

// The row of errors: keys and blocks of other lengths, and a nil cipher, which is told ahead of the block.
func TestRefused(t *testing.T) {
	lengths := []int{0, 1, 8, 15, 17, 24, 31, 33, 48, 64, 255, 256, 1 << 16, 1<<16 + 16, 1<<16 + 32}
	for _, length := range append(lengths, 16) {
		if c, e := New(strings.Repeat("k", length)); c != nil || e != api.ErrArg {
			t.Errorf("New of %d bytes: %v, %v", length, c, e)
		}
	}
	var none *Cipher
	c := cipherOf(t, strings.Repeat("k", 32))
	for _, length := range append(lengths, 32) {
		refused(t, c, strings.Repeat("b", length), api.ErrArg)
		refused(t, none, strings.Repeat("b", length), api.ErrNil)
	}
	refused(t, none, strings.Repeat("b", 16), api.ErrNil)
}

// R1: a cipher that did not come from New answers something.
func TestOfNoKey(t *testing.T) {
	encrypt(t, &Cipher{}, sample.Counting(16))
	decrypt(t, &Cipher{}, sample.Counting(16))
	refused(t, &Cipher{}, "", api.ErrArg)
}

// longProduct is that of two bytes, as polynomials over bits of which those of the field are taken away from the highest bit down.
func longProduct(a, b int) int {
	var all int
	for i := range 8 {
		all ^= a << i * (b >> i & 1)
	}
	for i := 14; i >= 8; i-- {
		if all>>i&1 > 0 {
			all ^= 283 << (i - 8)
		}
	}
	return all
}

// Bytes as numbers of a small field: all products and inverses, and that of 0.
func TestSmallField(t *testing.T) {
	found := inverses()
	for a := range 256 {
		inverse := 0
		for b := range 256 {
			is, asked := int(product(byte(a), byte(b))), longProduct(a, b)
			if is != asked {
				t.Fatalf("%d times %d: %d, not %d", a, b, is, asked)
			}
			if asked == 1 {
				inverse = b
			}
		}
		if int(found[a]) != inverse {
			t.Errorf("the inverse of %d: %d, not %d", a, found[a], inverse)
		}
	}
}

// Stand-ins, bit by bit, and the other way about.
func TestStandIns(t *testing.T) {
	c, inverse := cipherOf(t, sample.Counting(32)), inverses()
	for b, standIn := range c.standIns {
		for bit := range 8 {
			asked := 99 >> bit & 1
			for turned := range 5 {
				asked ^= int(inverse[b]) >> ((bit + 8 - turned) % 8) & 1
			}
			if is := int(standIn) >> bit & 1; is != asked {
				t.Errorf("bit %d of the stand-in of %d: %d", bit, b, is)
			}
		}
		if int(c.originals[standIn]) != b {
			t.Errorf("%d is the stand-in of %d, not of %d", standIn, b, c.originals[standIn])
		}
	}
}

func BenchmarkNew(b *testing.B) {
	key := sample.Counting(32)
	for b.Loop() {
		New(key)
	}
}

func BenchmarkEncrypt(b *testing.B) {
	c, _ := New(sample.Counting(32))
	block := sample.Counting(16)
	for b.Loop() {
		block, _ = c.Encrypt(block)
	}
}

func BenchmarkDecrypt(b *testing.B) {
	c, _ := New(sample.Counting(32))
	block := sample.Counting(16)
	for b.Loop() {
		block, _ = c.Decrypt(block)
	}
}
