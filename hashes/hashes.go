// Package hashes holds what the tests of several packages ask of hashes: that they go on, in pieces, and apart. The program itself does not call it.
package hashes

import (
	"strings"

	"hamper/api"
	"hamper/sample"
)

// Hash is what every hash does.
type Hash[H any] interface {
	comparable
	Add(s string) api.Errno
	Sum() string
	Copy() H
}

// Kind is a kind of hashes.
type Kind[H Hash[H]] struct {
	New  func() H
	Sum  func(s string) string // the digest of bytes at once
	Fail func(what ...any)     // takes what is wrong
}

// Edges are lengths about the end of a block of 64 bytes, and about where a block has room for nine bytes more, or for none, and others.
func Edges() []int {
	return []int{0, 1, 2, 3, 31, 32, 33, 54, 55, 56, 57, 63, 64, 65, 118, 119, 120, 121, 127, 128, 129, 183, 184, 191, 192, 193, 500, 1000}
}

// has fails if a hash has not the digest of a text.
func (k Kind[H]) has(what string, h H, text string) {
	if digest := h.Sum(); len(digest) != 32 || digest != k.Sum(text) {
		k.Fail(what, ": not the digest of the ", len(text), " bytes that were added: ", []byte(digest))
	}
}

// add adds pieces, one behind the other.
func (k Kind[H]) add(h H, pieces ...string) {
	for _, piece := range pieces {
		if e := h.Add(piece); e != api.OK {
			k.Fail("Add of ", len(piece), " bytes: ", e)
		}
	}
}

// of is a hash of pieces.
func (k Kind[H]) of(pieces ...string) H {
	h := k.New()
	k.add(h, pieces...)
	return h
}

// NoBytes asks for a hash of no bytes, and for one to which none were added.
func (k Kind[H]) NoBytes() {
	k.has("none", k.New(), "")
	k.has("nothing added", k.of("", "", ""), "")
	k.has("its copy", k.of("").Copy(), "")
}

// Nil asks for a hash that is nil.
func (k Kind[H]) Nil() {
	var none H
	for _, text := range []string{"", "abc", sample.Counting(1000)} {
		if e := none.Add(text); e != api.ErrNil {
			k.Fail("Add to nil: ", e)
		}
		k.has("nil", none, "")
	}
	if none.Copy() != none {
		k.Fail("Copy of nil is not nil")
	}
}

// Ends asks that each call ends, and none panics, of a hash that may have been made otherwise.
func (k Kind[H]) Ends(h H) {
	for _, length := range Edges() {
		h.Add(sample.Counting(length))
		h.Copy().Add(h.Sum())
	}
}

// GoesOn asks for the digest behind each byte.
func (k Kind[H]) GoesOn() {
	text := sample.Counting(400)
	h := k.New()
	for i := range text {
		k.has("so far", h, text[:i])
		k.add(h, text[i:i+1])
	}
	k.has("all", h, text)
}

// CutAnywhere asks for a text that is cut in two, and in three, at each place.
func (k Kind[H]) CutAnywhere() {
	text := sample.From(53).Text(200)
	for first := range len(text) + 1 {
		k.has("two pieces", k.of(text[:first], text[first:]), text)
		k.has("none between", k.of("", text[:first], "", text[first:], ""), text)
		for second := first; second <= len(text); second += 7 {
			k.has("three pieces", k.of(text[:first], text[first:second], text[second:]), text)
		}
	}
}

// OneLength asks for pieces of one length, among them those that end just at a block's end.
func (k Kind[H]) OneLength() {
	text := sample.From(55).Text(640)
	for length := 1; length <= 200; length++ {
		h := k.New()
		for at := 0; at < len(text); at += length {
			end := min(at+length, len(text))
			k.add(h, text[at:end])
			k.has("so far", h, text[:end])
		}
	}
}

// AnyPieces asks for pieces of whatever length, many of them none, with digests asked for in between.
func (k Kind[H]) AnyPieces() {
	s := sample.From(57)
	for range 200 {
		h, all := k.New(), ""
		for range 20 {
			piece := s.Text(int(s.Next()) % 3 * (int(s.Next()) % 70))
			all += piece
			k.add(h, piece)
			if s.Next()%4 == 0 {
				k.has("so far", h, all)
			}
		}
		k.has("all pieces", h, all)
	}
}

// Apart asks that a hash and its copy go their own ways, whichever goes first, in pieces short enough to run into one another.
func (k Kind[H]) Apart() {
	text := sample.From(61).Text(200)
	for length := range 200 {
		for _, step := range []int{1, 2, 5, 64, 100} {
			h := k.New()
			for i := range length {
				k.add(h, text[i:i+1])
			}
			k.apart(h, text[:length], step)
		}
	}
}

// apart adds pieces, of so many bytes and some more, to a hash of a text and to its copy, one about the other.
func (k Kind[H]) apart(h H, text string, step int) {
	other, textOther := h.Copy(), text
	for i := range 3 {
		more, moreOther := strings.Repeat("h", step+i), strings.Repeat("o", step)
		k.add(h, more)
		k.add(other, moreOther)
		text, textOther = text+more, textOther+moreOther
		k.has("the hash", h, text)
		k.has("its copy", other, textOther)
	}
}

// Copies asks that what is added to one hash leaves all others as they were, copies of copies too.
func (k Kind[H]) Copies() {
	s := sample.From(63)
	hashes, texts := []H{k.New()}, []string{""}
	for range 300 {
		i := int(s.Next()) % len(hashes)
		if s.Next()%3 == 0 && len(hashes) < 20 {
			hashes, texts = append(hashes, hashes[i].Copy()), append(texts, texts[i])
		} else {
			piece := s.Text(int(s.Next()) % 40)
			k.add(hashes[i], piece)
			texts[i] += piece
		}
		for j, h := range hashes {
			k.has("each", h, texts[j])
		}
	}
}

// ChangesNothing asks that a digest that is asked for, and nothing that is added, changes nothing.
func (k Kind[H]) ChangesNothing() {
	text := sample.Counting(300)
	for _, length := range Edges() {
		ahead := sample.Counting(length)
		h := k.of(ahead)
		for range 3 {
			k.has("asked for again", h, ahead)
			k.add(h, "")
			k.add(h.Copy(), "not the hash's own")
		}
		k.add(h, text)
		k.has("and then more", h, ahead+text)
	}
}
