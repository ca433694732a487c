package blake

import (
	"encoding/hex"
	"math/big"
	"strings"
	"sync"
	"testing"

	"hamper/api"
	"hamper/hashes"
	"hamper/sample"
)

// isDigest fails if a digest is not that of these hexadecimal digits.
func isDigest(t *testing.T, what, digest, asked string) {
	t.Helper()
	if is := hex.EncodeToString([]byte(digest)); is != asked {
		t.Errorf("%s: %s, not %s", what, is, asked)
	}
}

// same fails if two digests are not one, of 32 bytes.
func same(t *testing.T, what, digest, asked string) {
	t.Helper()
	if len(digest) != 32 || digest != asked {
		t.Fatalf("%s: %x, not %x", what, digest, asked)
	}
}

// mustKeyed is the digest by a key that may be.
func mustKeyed(t *testing.T, key, s string) string {
	t.Helper()
	digest, e := Keyed(key, s)
	if e != api.OK {
		t.Fatalf("Keyed by %d bytes: %v", len(key), e)
	}
	return digest
}

// of is a hash of a text.
func of(t *testing.T, text string) *Hash {
	t.Helper()
	h := New()
	if e := h.Add(text); e != api.OK {
		t.Fatalf("Add of %d bytes: %v", len(text), e)
	}
	return h
}

// kind is what the tests of all hashes ask for.
func kind(t *testing.T) hashes.Kind[*Hash] {
	return hashes.Kind[*Hash]{New: New, Sum: Sum, Fail: t.Fatal}
}

// longhandRows are the ten rows, as hexadecimal digits.
const longhandRows = "0123456789abcdef" + "ea489fd61c02b753" + "b8c052fdae367194" + "7931dcbe265a40f8" + "905724afe1bc683d" + "2c6a0b834d75fe19" + "c51fed4a0763928b" + "db7ec13950f4862a" + "6fe9b308c2d714a5" + "a2847615fb9e3cd0"

// longhandMix mixes in place, a number being turned by a product that is twice as wide.
func longhandMix(v []uint64, a, b, c, d int, x, y uint64) {
	const full = 1 << 32
	turned := func(n uint64, by int) uint64 {
		wide := n << (32 - by)
		return wide%full + wide/full
	}
	for i, z := range []uint64{x, y} {
		v[a] = (v[a] + v[b] + z) % full
		v[d] = turned(v[d]^v[a], []int{16, 8}[i])
		v[c] = (v[c] + v[d]) % full
		v[b] = turned(v[b]^v[c], []int{12, 7}[i])
	}
}

// longhand is the digest by a key, as the chapter tells it, over all bytes at once.
func longhand(key, s string) string {
	length := len(s)
	all := s
	if key != "" {
		all = key + strings.Repeat("\x00", 64-len(key)) + s
		length += 64
	}
	for all == "" || len(all)%64 != 0 {
		all += "\x00"
	}
	var first []uint64
	for _, prime := range []int64{2, 3, 5, 7, 11, 13, 17, 19} {
		first = append(first, root(prime))
	}
	h := append([]uint64{}, first...)
	h[0] ^= 0x01010020 ^ uint64(256*len(key))
	for end := 64; end <= len(all); end += 64 {
		v := append(append([]uint64{}, h...), first...)
		v[12] ^= uint64(min(end, length))
		if end == len(all) {
			v[14] ^= 1<<32 - 1
		}
		longhandRounds(v, all[end-64:end])
		for i := range h {
			h[i] ^= v[i] ^ v[i+8]
		}
	}
	digest := make([]byte, 32)
	for i := range digest {
		digest[i] = byte(h[i/4] >> (8 * (i % 4)))
	}
	return string(digest)
}

// longhandRounds are the ten rounds: four columns each, then four that go aslant.
func longhandRounds(v []uint64, block string) {
	number := func(digit byte) uint64 {
		place := 4 * strings.IndexByte(longhandRows[:16], digit)
		n := uint64(0)
		for i := 3; i >= 0; i-- {
			n = n<<8 + uint64(block[place+i])
		}
		return n
	}
	for round := range 10 {
		row := longhandRows[16*round:]
		for i := range 8 {
			aslant, column := i/4, i%4
			at := func(line int) int { return 4*line + (column+line*aslant)%4 }
			longhandMix(v, at(0), at(1), at(2), at(3), number(row[2*i]), number(row[2*i+1]))
		}
	}
}

// root are the first 32 bits behind the point of a square root.
func root(n int64) uint64 {
	square := new(big.Int).Lsh(big.NewInt(n), 64)
	return new(big.Int).Sqrt(square).Uint64() % (1 << 32)
}

func TestExamples(t *testing.T) {
	isDigest(t, "of none", Sum("")[:8], "69217a3079908094")
	isDigest(t, "of abc", Sum("abc")[:8], "508c5e8c327c14e2")
	isDigest(t, "of abc, its end", Sum("abc")[28:], "86675982")
	if digest, e := Keyed(strings.Repeat("k", 33), "abc"); e != api.ErrArg || digest != "" {
		t.Errorf("Keyed by 33 bytes: %x, %v", digest, e)
	}
}

// P5.1: the first numbers are bits of roots.
func TestFirstNumbers(t *testing.T) {
	for i, prime := range []int64{2, 3, 5, 7, 11, 13, 17, 19} {
		if is := firstNumbers()[i]; uint64(is) != root(prime) {
			t.Errorf("of %d: %x, not %x", prime, is, root(prime))
		}
	}
}

// P5.1: digests that others have reckoned, without a key.
func TestKnown(t *testing.T) {
	isDigest(t, "of abc", Sum("abc"), "508c5e8c327c14e2e1a72ba34eeb452f37458b209ed63a294d999b4c86675982")
	for _, known := range []struct {
		length int
		digest string
	}{
		{0, "69217a3079908094e11121d042354a7c1f55b6482ca1a51e1b250dfd1ed0eef9"},
		{1, "e34d74dbaf4ff4c6abd871cc220451d2ea2648846c7757fbaac82fe51ad64bea"},
		{2, "ddad9ab15dac4549ba42f49d262496bef6c0bae1dd342a8808f8ea267c6e210c"},
		{31, "aba4ad9b480b9df3d08ca5e87b0c2440d4e4ea21224c2eb42cbae469d089b931"},
		{32, "05825607d7fdf2d82ef4c3c8c2aea961ad98d60edff7d018983e21204c0d93d1"},
		{63, "e57cb79487dd57902432b250733813bd96a84efce59f650fac26e6696aefafc3"},
		{64, "56f34e8b96557e90c1f24b52d0c89d51086acf1b00f634cf1dde9233b8eaaa3e"},
		{65, "1b53ee94aaf34e4b159d48de352c7f0661d0a40edff95a0b1639b4090e974472"},
		{127, "f18417b39d617ab1c18fdf91ebd0fc6d5516bb34cf39364037bce81fa04cecb1"},
		{128, "1fa877de67259d19863a2a34bcc6962a2b25fcbf5cbecd7ede8f1fa36688a796"},
		{129, "5bd169e67c82c2c2e98ef7008bdf261f2ddf30b1c00f9e7f275bb3e8a28dc9a2"},
		{192, "58d212ad6f58aef0f80116b441e57f6195bfef26b61463edec1183cdb04fe76d"},
		{1000, "1c067a5e746fb0f6734efac9a8cdb0e11061f0077f255184365c690115392501"},
		{65536, "b274d4c4980021755013dbeb61d225268f6238998ba08c25df654277fb4cbff0"},
	} {
		text := sample.Counting(known.length)
		isDigest(t, "Sum", Sum(text), known.digest)
		isDigest(t, "Keyed by none", mustKeyed(t, "", text), known.digest)
		isDigest(t, "New, Add, Sum", of(t, text).Sum(), known.digest)
	}
}

// P5.1: digests that others have reckoned, by a key.
func TestKnownKeyed(t *testing.T) {
	for _, known := range []struct {
		key, length int
		digest      string
	}{
		{1, 0, "cdcf93dac5437c31bf1e79a8398fbbddd1cef4427428ced165264455a9c48a95"},
		{1, 3, "8fff22b9f6bc5d1f821b877d21e9351db46ebdfb9c3677a5b55f7f50f8cb90a2"},
		{5, 1000, "41bf3dd33359c415c1f1521c5795935857d9db1d3a80b10b7909601e8c0f8aee"},
		{16, 64, "02ba5ce93a26f31312dd2226e48e522df956817d30e797fc3dd232f6bfb5d6a2"},
		{31, 65, "d8edc3e43ed0375650b12a693a48093c88d1f42ce27a5e4867cd954888e90176"},
		{32, 0, "48a8997da407876b3d79c0d92325ad3b89cbb754d86ab71aee047ad345fd2c49"},
		{32, 1, "40d15fee7c328830166ac3f918650f807e7e01e177258cdc0a39b11f598066f1"},
		{32, 63, "c65382513f07460da39833cb666c5ed82e61b9e998f4b0c4287cee56c3cc9bcd"},
		{32, 64, "8975b0577fd35566d750b362b0897a26c399136df07bababbde6203ff2954ed4"},
		{32, 65, "21fe0ceb0052be7fb0f004187cacd7de67fa6eb0938d927677f2398c132317a8"},
		{32, 128, "0c311f38c35a4fb90d651c289d486856cd1413df9b0677f53ece2cd9e477c60a"},
		{32, 255, "1198d1da21a1ef3056099ef664dd9c6b06c482674dc334dbafd1627be358bfb5"},
	} {
		isDigest(t, "Keyed", mustKeyed(t, sample.Counting(known.key), sample.Counting(known.length)), known.digest)
	}
}

// P5.1: keys of all lengths and texts of many; the digest of all their digests is one that others have reckoned.
func TestAllLengths(t *testing.T) {
	all := New()
	for key := range 33 {
		for length := range 301 {
			all.Add(mustKeyed(t, sample.Counting(key), sample.Counting(length)))
		}
	}
	isDigest(t, "of all digests", all.Sum(), "b40d387e441851c72251634a40265b027e35491f9a1e30064377be90f4b6a68c")
}

// P5.1: bytes of all sorts, as the chapter's words have it.
func TestAsLonghand(t *testing.T) {
	s := sample.From(51)
	for _, length := range hashes.Edges() {
		for _, text := range []string{s.Text(length), strings.Repeat("\x00", length), strings.Repeat("\xff", length)} {
			same(t, "Sum", Sum(text), longhand("", text))
			for _, key := range []string{s.Text(1), s.Text(7), s.Text(31), s.Text(32), "\x00", strings.Repeat("\xff", 32)} {
				same(t, "Keyed", mustKeyed(t, key, text), longhand(key, text))
			}
		}
	}
}

// P5.1: a key of no bytes is none, one of 32 may be, none that is longer may, whatever the bytes are; nothing is told beside the error (R4).
func TestKeyEdges(t *testing.T) {
	for _, length := range hashes.Edges() {
		text := sample.Counting(length)
		same(t, "by none", mustKeyed(t, "", text), Sum(text))
		same(t, "by 32 bytes", mustKeyed(t, sample.Counting(32), text), longhand(sample.Counting(32), text))
		for _, key := range []int{33, 34, 63, 64, 65, 128, 256, 288, 65536} {
			if digest, e := Keyed(sample.Counting(key), text); e != api.ErrArg || digest != "" {
				t.Errorf("Keyed by %d bytes: %x, %v", key, digest, e)
			}
		}
	}
}

// P5.1: a key is not just bytes ahead, and its end is known, though it is filled up.
func TestKeyIsNoText(t *testing.T) {
	met := map[string]string{}
	meet := func(what, digest string) {
		t.Helper()
		if other, is := met[digest]; is {
			t.Errorf("%s has the digest of %s", what, other)
		}
		met[digest] = what
	}
	for n := range 33 {
		key := "k" + strings.Repeat("\x00", n)
		if n < 32 {
			meet("a key with noughts behind", mustKeyed(t, key, "abc"))
		}
		meet("a key as bytes", Sum(key+"abc"))
	}
	meet("a full key as bytes", Sum("k"+strings.Repeat("\x00", 63)+"abc"))
	meet("no key", Sum("abc"))
	meet("another key", mustKeyed(t, "l", "abc"))
	meet("text and key, the other way about", mustKeyed(t, "abc", "k"))
}

// P5.1: how many bytes were gone through is told in 64 bits, the lower ones first. So many can't be added here, so the count is set ahead; the digests are by a program of another language, with the same count.
func TestLongCount(t *testing.T) {
	h := New()
	h.state.through = 1<<32 - 64
	h.Add(sample.Counting(150))
	isDigest(t, "past 2^32", h.Sum(), "15fc5760fbcdd448a3676e0d7a0d9bf97c3fcd36ecd10d1a90c9fc4eb0174668")
	h = New()
	h.state.through = 5 << 32
	h.Add(sample.Counting(3))
	isDigest(t, "past 5 times 2^32", h.Sum(), "577721e863ccb94fad1e97b894906df1762445b7a36d0d53748669def9ef1e0d")
}

// P5.2: a hash of no bytes, and one that is nil (R1).
func TestNoBytes(t *testing.T) {
	kind(t).NoBytes()
	kind(t).Nil()
	same(t, "as the chapter has it", Sum(""), longhand("", ""))
}

// R1: a hash that is not of New's; nothing is promised but that each call ends and none panics.
func TestMadeOtherwise(t *testing.T) { kind(t).Ends(&Hash{}) }

// P5.2: a hash goes on behind a digest.
func TestGoesOn(t *testing.T) { kind(t).GoesOn() }

// P5.3: bytes in pieces: cut at each place, in pieces of one length, and of whatever lengths.
func TestPieces(t *testing.T) {
	kind(t).CutAnywhere()
	kind(t).OneLength()
	kind(t).AnyPieces()
}

// P5.4: 32 bytes, the same for the same bytes, and others for others, though they differ in little: in one bit, or in noughts at the end, by which a block would be filled up.
func TestAlways32(t *testing.T) {
	met := map[string]string{}
	meet := func(text string) {
		t.Helper()
		digest := Sum(text)
		same(t, "once more", Sum(strings.Clone(text)), digest)
		same(t, "as a hash", of(t, text).Sum(), digest)
		if other, is := met[digest]; is {
			t.Errorf("%q has the digest of %q", text, other)
		}
		met[digest] = text
	}
	for length := range 200 {
		meet(strings.Repeat("\x00", length))
		meet("x" + strings.Repeat("\x00", length))
	}
	text := []byte(sample.From(59).Text(130))
	meet(string(text))
	for i := range text {
		for bit := range 8 {
			text[i] ^= 1 << bit
			meet(string(text))
			text[i] ^= 1 << bit
		}
	}
	for key := range 33 {
		if n := len(mustKeyed(t, sample.Counting(key), "abc")); n != 32 {
			t.Errorf("Keyed by %d bytes: %d", key, n)
		}
	}
}

// P5.5: a hash and its copy go their own ways, and copies of copies too.
func TestApart(t *testing.T) {
	kind(t).Apart()
	kind(t).Copies()
}

// P5.5: a digest that is asked for, and nothing that is added, changes nothing.
func TestChangesNothing(t *testing.T) { kind(t).ChangesNothing() }

// P5.6: digests by many keys, of many texts and of hashes, in whatever row.
func TestAgain(t *testing.T) {
	s := sample.From(65)
	open, text := New(), ""
	for range 500 {
		key, bytes := sample.Counting(int(s.Next())%33), s.Text(int(s.Next())%150)
		switch s.Next() % 4 {
		case 0:
			same(t, "Sum", Sum(bytes), longhand("", bytes))
		case 1:
			same(t, "Keyed", mustKeyed(t, key, bytes), longhand(key, bytes))
		case 2:
			Keyed(bytes+sample.Counting(33), bytes)
		default:
			piece := bytes[:len(bytes)/4]
			open.Add(piece)
			text += piece
		}
		same(t, "a hash that is open all the while", open.Sum(), Sum(text))
	}
}

// P5.6, R2: the same from many at once, and from copies of one hash.
func TestMany(t *testing.T) {
	text := sample.Counting(100)
	h := of(t, text)
	digests := make([][3]string, 16)
	var all sync.WaitGroup
	for i := range digests {
		other := h.Copy()
		all.Go(func() {
			piece := strings.Repeat(string(rune('a'+i)), i)
			other.Add(piece)
			keyed, _ := Keyed(piece, text)
			digests[i] = [3]string{other.Sum(), Sum(piece), keyed}
		})
	}
	all.Wait()
	for i, told := range digests {
		piece := strings.Repeat(string(rune('a'+i)), i)
		same(t, "a copy", told[0], Sum(text+piece))
		same(t, "Sum", told[1], longhand("", piece))
		same(t, "Keyed", told[2], longhand(piece, text))
	}
	same(t, "the hash", h.Sum(), Sum(text))
}

// A hash keeps no more than a block, and no room behind it that a copy could run into.
func TestKept(t *testing.T) {
	h := New()
	for i, length := range append(hashes.Edges(), hashes.Edges()...) {
		h.Add(sample.Counting(length))
		if len(h.left) > 64 || cap(h.left) != len(h.left) {
			t.Errorf("at step %d %d bytes are kept, in room for %d", i, len(h.left), cap(h.left))
		}
	}
}

func BenchmarkSector(b *testing.B) {
	text := sample.Counting(api.MaxSize)
	b.SetBytes(int64(len(text)))
	for b.Loop() {
		Sum(text)
	}
}

func BenchmarkByteByByte(b *testing.B) {
	h, text := New(), sample.Counting(64)
	for b.Loop() {
		for i := range text {
			h.Add(text[i : i+1])
		}
	}
}
