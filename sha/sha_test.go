package sha

import (
	"crypto/hmac"
	"crypto/sha256"
	"encoding"
	"encoding/binary"
	"encoding/hex"
	"math/big"
	"strings"
	"sync"
	"testing"

	"hamper/api"
	"hamper/hashes"
	"hamper/sample"
)

// keyEdges are lengths of keys.
func keyEdges() []int {
	return []int{0, 1, 2, 20, 31, 32, 33, 62, 63, 64, 65, 66, 127, 128, 129, 1000}
}

// isDigest fails if a digest is not that of these hexadecimal digits.
func isDigest(t *testing.T, what, digest, asked string) {
	t.Helper()
	if is := hex.EncodeToString([]byte(digest)); is != asked {
		t.Errorf("%s: %s, not %s", what, is, asked)
	}
}

// same fails if two digests are not one, of 32 bytes.
func same(t *testing.T, what, digest, asked string) {
	t.Helper()
	if len(digest) != 32 || digest != asked {
		t.Fatalf("%s: %x, not %x", what, digest, asked)
	}
}

// library is the digest that the language's own library, which the program itself does not call, has.
func library(s string) string {
	digest := sha256.Sum256([]byte(s))
	return string(digest[:])
}

// libraryKeyed is that by a key.
func libraryKeyed(key, s string) string {
	h := hmac.New(sha256.New, []byte(key))
	h.Write([]byte(s))
	return string(h.Sum(nil))
}

// longhandKeyed is the digest by a key, made of Sum alone, byte by byte.
func longhandKeyed(key, s string) string {
	if len(key) > 64 {
		key = Sum(key)
	}
	inner, outer := "", ""
	for i := range 64 {
		b := byte(0)
		if i < len(key) {
			b = key[i]
		}
		inner += string([]byte{b ^ 54})
		outer += string([]byte{b ^ 92})
	}
	return Sum(outer + Sum(inner+s))
}

// of is a hash of a text.
func of(t *testing.T, text string) *Hash {
	t.Helper()
	h := New()
	if e := h.Add(text); e != api.OK {
		t.Fatalf("Add of %d bytes: %v", len(text), e)
	}
	return h
}

// kind is what the tests of all hashes ask for.
func kind(t *testing.T) hashes.Kind[*Hash] {
	return hashes.Kind[*Hash]{New: New, Sum: library, Fail: t.Fatal}
}

func TestExamples(t *testing.T) {
	isDigest(t, "of none", Sum("")[:8], "e3b0c44298fc1c14")
	isDigest(t, "of abc", Sum("abc")[:8], "ba7816bf8f01cfea")
	isDigest(t, "by twenty bytes 11", Hmac(strings.Repeat("\x0b", 20), "Hi There")[:8], "b0344c61d8db3853")
	isDigest(t, "by Jefe", Hmac("Jefe", "what do ya want for nothing?")[:8], "5bdcc146bf60754e")
}

// P7.1: the numbers of the primes are bits of their roots.
func TestRoots(t *testing.T) {
	h, n := New(), int64(1)
	for i := range 64 {
		n++
		for !big.NewInt(n).ProbablyPrime(0) {
			n++
		}
		if is := uint64(primes()[i]); is != uint64(n) {
			t.Fatalf("prime %d: %d, not %d", i, is, n)
		}
		if is := uint64(h.cubes[i]); is != rootOf(n, 3) {
			t.Errorf("cube root of %d: %x, not %x", n, is, rootOf(n, 3))
		}
		if i < 8 && uint64(h.numbers[i]) != rootOf(n, 2) {
			t.Errorf("square root of %d: %x, not %x", n, h.numbers[i], rootOf(n, 2))
		}
	}
}

// rootOf are the first 32 bits behind the point of the square, or cube, root of n: those of the greatest number whose power is not past n, moved up by as many bits as are asked for.
func rootOf(n, power int64) uint64 {
	moved := new(big.Int).Lsh(big.NewInt(n), uint(32*power))
	low, high := big.NewInt(0), new(big.Int).Set(moved)
	for new(big.Int).Sub(high, low).Cmp(big.NewInt(1)) > 0 {
		middle := new(big.Int).Rsh(new(big.Int).Add(low, high), 1)
		if new(big.Int).Exp(middle, big.NewInt(power), nil).Cmp(moved) > 0 {
			high = middle
		} else {
			low = middle
		}
	}
	return new(big.Int).Mod(low, big.NewInt(1<<32)).Uint64()
}

// P7.1: digests that others have reckoned.
func TestKnown(t *testing.T) {
	isDigest(t, "of abc", Sum("abc"), "ba7816bf8f01cfea414140de5dae2223b00361a396177a9cb410ff61f20015ad")
	isDigest(t, "of two blocks", Sum("abcdbcdecdefdefgefghfghighijhijkijkljklmklmnlmnomnopnopq"), "248d6a61d20638b8e5c026930c3e6039a33ce45964ff2167f6ecedd419db06c1")
	isDigest(t, "of a million a", Sum(strings.Repeat("a", 1000000)), "cdc76e5c9914fb9281a1c7e284d73e67f1809a48a497200e046d39ccc7112cd0")
	for _, known := range []struct {
		length int
		digest string
	}{
		{0, "e3b0c44298fc1c149afbf4c8996fb92427ae41e4649b934ca495991b7852b855"},
		{1, "6e340b9cffb37a989ca544e6bb780a2c78901d3fb33738768511a30617afa01d"},
		{3, "ae4b3280e56e2faf83f414a6e3dabe9d5fbe18976544c05fed121accb85b53fc"},
		{55, "463eb28e72f82e0a96c0a4cc53690c571281131f672aa229e0d45ae59b598b59"},
		{56, "da2ae4d6b36748f2a318f23e7ab1dfdf45acdc9d049bd80e59de82a60895f562"},
		{57, "2fe741af801cc238602ac0ec6a7b0c3a8a87c7fc7d7f02a3fe03d1c12eac4d8f"},
		{63, "29af2686fd53374a36b0846694cc342177e428d1647515f078784d69cdb9e488"},
		{64, "fdeab9acf3710362bd2658cdc9a29e8f9c757fcf9811603a8c447cd1d9151108"},
		{65, "4bfd2c8b6f1eec7a2afeb48b934ee4b2694182027e6d0fc075074f2fabb31781"},
		{119, "da18797ed7c3a777f0847f429724a2d8cd5138e6ed2895c3fa1a6d39d18f7ec6"},
		{120, "f52b23db1fbb6ded89ef42a23ce0c8922c45f25c50b568a93bf1c075420bbb7c"},
		{121, "335a461692b30bba1d647cc71604e88e676c90e4c22455d0b8c83f4bd7c8ac9b"},
		{127, "92ca0fa6651ee2f97b884b7246a562fa71250fedefe5ebf270d31c546bfea976"},
		{128, "471fb943aa23c511f6f72f8d1652d9c880cfa392ad80503120547703e56a2be5"},
		{129, "5099c6a56203f9687f7d33f4bfdf576d31dc91f6b695ecea38b2770c87631135"},
		{192, "8b4a544837a1a0280fa8a7c82865c27a1064b3cc6281fda0753566b9bb104a87"},
		{1000, "4e4c294b331f7a2099a379bec34b9f9fc03dc46ab465d998f4d683da53487e6d"},
		{65536, "4b640d85ab3ba30fd02c9fc9db4a8928f416322ad27022ea58a65aaee68a4df2"},
	} {
		text := sample.Counting(known.length)
		isDigest(t, "Sum", Sum(text), known.digest)
		isDigest(t, "New, Add, Sum", of(t, text).Sum(), known.digest)
	}
}

// P7.1: digests that others have reckoned, by a key.
func TestKnownKeyed(t *testing.T) {
	for _, known := range []struct {
		key, length int
		digest      string
	}{
		{0, 0, "b613679a0814d9ec772f95d778c35fc5ff1697c493715653c6c712144292c5ad"},
		{0, 3, "d671a0ed1ee94d90a11e84aa9696b9c67c9dc989295282efe5c2a9e6c95c4590"},
		{1, 0, "b613679a0814d9ec772f95d778c35fc5ff1697c493715653c6c712144292c5ad"},
		{20, 64, "5658037e1ed326c5232d0ca2274fd53db2dd74e8775bcdd8301cbb12234ce029"},
		{32, 55, "b478e4cbd63871759702a8a4c9828359869bc9e20d3df429ecd08f5a5d3d9340"},
		{63, 56, "3ee9245352a1b2697885f523e332e3dc5a4e14820e0949579889e2ecaa68064a"},
		{64, 0, "3499f163f48604c0b15ac89e4e7c66f314fb3b203b8ac2f564828e62f6be9d9d"},
		{64, 64, "c4aaa100f785d6b12dd6fc8a0fc97db70e77ccc09cd95ba3bc1b5ebd66b5053a"},
		{65, 3, "791b977bd7ebde0fee9860865d31fde03778f6f4fd3b1e5ce1343ec32f7392ef"},
		{66, 1000, "73ee677e649066ccf37c2feadc10360eb006dce72c935a43911167f5ed1473ad"},
		{128, 65, "e4f7b6006de84f7619731646e322cb5048ce92ad153eab6d113e51bdb9951fe7"},
		{200, 120, "85929c4e00f2b05619212070f0b73809c579ede1d8af744ce8c39f734730e447"},
	} {
		isDigest(t, "Hmac", Hmac(sample.Counting(known.key), sample.Counting(known.length)), known.digest)
	}
}

// P7.1: keys and texts of all lengths up to 139; the digest of all their digests is one that others have reckoned.
func TestAllLengths(t *testing.T) {
	all := New()
	for key := range 140 {
		for length := range 140 {
			all.Add(Hmac(sample.Counting(key), sample.Counting(length)))
		}
	}
	isDigest(t, "of all digests", all.Sum(), "2f5c62fc4f54eddc5df6ed606822159a566329464640cc0accfb671c9f7170ee")
}

// P7.1: bytes of all sorts.
func TestAsLibrary(t *testing.T) {
	s := sample.From(71)
	for _, length := range append(hashes.Edges(), 4096, 65536) {
		for _, text := range []string{s.Text(length), strings.Repeat("\x00", length), strings.Repeat("\xff", length), strings.Repeat("\x80", length)} {
			same(t, "Sum", Sum(text), library(text))
			for _, key := range keyEdges() {
				for _, key := range []string{s.Text(key), strings.Repeat("\xff", key)} {
					same(t, "Hmac", Hmac(key, text), libraryKeyed(key, text))
				}
			}
		}
	}
	for length := range 300 {
		text := s.Text(length)
		same(t, "Sum", Sum(text), library(text))
	}
}

// P7.1: how many bits there are is told in 8 bytes, the highest first. So many can't be added here, so the count is set ahead, in the library's hash too.
func TestLongCount(t *testing.T) {
	for _, length := range []uint64{1<<29 - 64, 1 << 29, 1<<32 - 64, 5 << 32, 1<<31 + 64, 1<<56 + 1<<48 + 1<<40} {
		h, other := New(), sha256.New()
		h.length = length
		state, err := other.(encoding.BinaryMarshaler).MarshalBinary()
		if err != nil {
			t.Fatal(err)
		}
		binary.BigEndian.PutUint64(state[len(state)-8:], length)
		if err := other.(encoding.BinaryUnmarshaler).UnmarshalBinary(state); err != nil {
			t.Fatal(err)
		}
		for _, piece := range []string{"", "abc", sample.Counting(150)} {
			h.Add(piece)
			other.Write([]byte(piece))
			same(t, "of many bytes", h.Sum(), string(other.Sum(nil)))
		}
	}
}

// P7.2: a hash of no bytes, and one that is nil (R1).
func TestNoBytes(t *testing.T) {
	kind(t).NoBytes()
	kind(t).Nil()
}

// R1: a hash that is not of New's; nothing is promised but that each call ends and none panics.
func TestMadeOtherwise(t *testing.T) { kind(t).Ends(&Hash{}) }

// P7.2: a hash goes on behind a digest.
func TestGoesOn(t *testing.T) { kind(t).GoesOn() }

// P7.3: bytes in pieces: cut at each place, in pieces of one length, and of whatever lengths.
func TestPieces(t *testing.T) {
	kind(t).CutAnywhere()
	kind(t).OneLength()
	kind(t).AnyPieces()
}

// P7.4: noughts behind a key, up to 64 bytes together, change nothing; one more does, as do noughts ahead of it.
func TestNoughtsBehindKey(t *testing.T) {
	s := sample.From(79)
	for _, length := range []int{0, 1, 20, 32, 62, 63, 64} {
		key := s.Text(length)
		if length > 0 {
			key = key[1:] + "k"
		}
		for _, bytes := range hashes.Edges() {
			text := sample.Counting(bytes)
			digest := Hmac(key, text)
			for noughts := 0; length+noughts <= 64; noughts++ {
				same(t, "noughts behind", Hmac(key+strings.Repeat("\x00", noughts), text), digest)
			}
			if Hmac(key+strings.Repeat("\x00", 65-length), text) == digest {
				t.Errorf("a key of %d bytes has the digest of it with %d noughts behind", length, 65-length)
			}
			if length > 0 && Hmac("\x00"+key, text) == digest {
				t.Errorf("a key of %d bytes has the digest of it with a nought ahead", length)
			}
		}
	}
}

// P7.4: a key of more than 64 bytes is its digest, one of 64 is not.
func TestLongKey(t *testing.T) {
	s := sample.From(81)
	for _, length := range append(hashes.Edges(), 65536) {
		key := s.Text(length)
		for _, text := range []string{"", "abc", sample.Counting(100)} {
			is := Hmac(key, text) == Hmac(Sum(key), text)
			if is != (length > 64) {
				t.Errorf("a key of %d bytes and its digest have the same: %v", length, is)
			}
		}
	}
}

// P7.5: by a key is made of Sum alone.
func TestOfSum(t *testing.T) {
	s := sample.From(83)
	for _, length := range hashes.Edges() {
		for _, key := range keyEdges() {
			key, text := s.Text(key), s.Text(length)
			same(t, "Hmac", Hmac(key, text), longhandKeyed(key, text))
		}
	}
}

// P7.1: keys and texts are not one for the other: where the key ends is known.
func TestKeyIsNoText(t *testing.T) {
	met := map[string]string{}
	meet := func(what, digest string) {
		t.Helper()
		if other, is := met[digest]; is {
			t.Errorf("%s has the digest of %s", what, other)
		}
		met[digest] = what
	}
	all := sample.From(85).Text(100)
	for i := range len(all) + 1 {
		meet("a key and the rest", Hmac(all[:i]+"k", all[i:]))
	}
	meet("bytes alone", Sum(all))
	meet("by no key", Hmac("", all))
	for bit := range 64 * 8 {
		key := []byte(all[:64])
		key[bit/8] ^= 1 << (bit % 8)
		meet("a key with another bit", Hmac(string(key), all))
	}
}

// P7.6: a hash and its copy go their own ways, and copies of copies too.
func TestApart(t *testing.T) {
	kind(t).Apart()
	kind(t).Copies()
}

// P7.6: a digest that is asked for, and nothing that is added, changes nothing.
func TestChangesNothing(t *testing.T) { kind(t).ChangesNothing() }

// R2: digests by many keys, of many texts and of hashes, in whatever row.
func TestAgain(t *testing.T) {
	s := sample.From(91)
	open, text := New(), ""
	for range 500 {
		key, bytes := s.Text(int(s.Next())%100), s.Text(int(s.Next())%150)
		switch s.Next() % 3 {
		case 0:
			same(t, "Sum", Sum(bytes), library(bytes))
		case 1:
			same(t, "Hmac", Hmac(key, bytes), libraryKeyed(key, bytes))
		default:
			open.Add(bytes)
			text += bytes
		}
		same(t, "a hash that is open all the while", open.Sum(), library(text))
	}
}

// R2: the same from many at once, from copies of one hash, and from that hash.
func TestMany(t *testing.T) {
	text := sample.Counting(100)
	h := of(t, text)
	digests := make([][4]string, 16)
	var all sync.WaitGroup
	for i := range digests {
		all.Go(func() {
			piece := strings.Repeat(string(rune('a'+i)), i)
			other := h.Copy()
			other.Add(piece)
			digests[i] = [4]string{other.Sum(), Sum(piece), Hmac(piece, text), h.Sum()}
		})
	}
	all.Wait()
	for i, told := range digests {
		piece := strings.Repeat(string(rune('a'+i)), i)
		same(t, "a copy", told[0], library(text+piece))
		same(t, "Sum", told[1], library(piece))
		same(t, "Hmac", told[2], libraryKeyed(piece, text))
		same(t, "the hash", told[3], library(text))
	}
}

func BenchmarkShort(b *testing.B) {
	for b.Loop() {
		Hmac("key", "abc")
	}
}

func BenchmarkLong(b *testing.B) {
	text := sample.Counting(1 << 16)
	b.SetBytes(int64(len(text)))
	for b.Loop() {
		Sum(text)
	}
}
