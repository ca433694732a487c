// Package sample holds what the tests of many packages hand in. The program itself does not call it.
package sample

import "slices"

// Numbers are from all over 0 to 65535, the same ones for the same beginning.
type Numbers struct{ state uint32 }

// From are those of a beginning.
func From(beginning uint32) *Numbers { return &Numbers{state: beginning} }

// Next is the next one.
func (s *Numbers) Next() uint16 {
	s.state = s.state*1664525 + 1013904223
	return uint16(s.state >> 16)
}

// List is the next n of them.
func (s *Numbers) List(n int) []uint16 {
	list := make([]uint16, n)
	for i := range list {
		list[i] = s.Next()
	}
	return list
}

// Roomy is a copy of a list with room behind its end, full of what is not its own, so that whoever reads or writes there is found out.
func Roomy[T any](list []T, behind T) []T {
	full := slices.Concat(list, slices.Repeat([]T{behind}, 8))
	return full[:len(list)]
}

// Whole is a list with all its room.
func Whole[T any](list []T) []T { return list[:cap(list)] }

// Places are count of the places from 0 to n - 1, no two the same, in no order.
func (s *Numbers) Places(n, count int) []int {
	all := make([]int, n)
	for i := range all {
		j := int(s.Next()) % (i + 1)
		all[i], all[j] = all[j], i
	}
	return all[:count]
}

// Text are the next n of them as a text, each by its higher byte.
func (s *Numbers) Text(n int) string {
	text := make([]byte, n)
	for i := range text {
		text[i] = byte(s.Next() >> 8)
	}
	return string(text)
}

// Counting are n bytes that count up from 0 to 250, again and again.
func Counting(n int) string {
	text := make([]byte, n)
	for i := range text {
		text[i] = byte(i % 251)
	}
	return string(text)
}
