package impl

import (
	"errors"
	"strconv"
	"strings"
)

const (
	maxShown = 999999
	maxNum   = 2147483647
	numBits  = 7
	numMore  = 1 << numBits
)

// errNoNum is panicked with inside and recovered at the face: a face that
// recovers answers zero values, for its results were not set by then.
var errNoNum = errors.New("no number")

func Digits(n int) string { return strconv.Itoa(n) }

func Number(s string) (int, bool) {
	defer func() { _ = recover() }()
	return shownNum(s), true
}

// shownNum writes the number out again, since Atoi takes signs and zeros ahead
// of a number, which Digits never writes.
func shownNum(s string) int {
	n, err := strconv.Atoi(s)
	if err != nil || n < 0 || n > maxShown || Digits(n) != s {
		panic(errNoNum)
	}
	return n
}

func PutNum(n int) []byte {
	if n < 0 || n > maxNum {
		return nil
	}
	var b []byte
	for ; n >= numMore; n >>= numBits {
		b = append(b, byte(n%numMore+numMore))
	}
	return append(b, byte(n))
}

func GetNum(b []byte, at int) (int, int, bool) {
	defer func() { _ = recover() }()
	n, next := numAt(b, at)
	return n, next, true
}

// numAt writes the number out again, since these bytes may be more than it
// needs, or stand for one that is too great.
func numAt(b []byte, at int) (int, int) {
	next := numEnd(b, at)
	n := 0
	for i := next - 1; i >= at; i-- {
		n = n<<numBits + int(b[i]%numMore)
	}
	if string(PutNum(n)) != string(b[at:next]) {
		panic(errNoNum)
	}
	return n, next
}

// numEnd looks at no more bytes than the greatest number has, so that what is
// read from them can't be greater than an int.
func numEnd(b []byte, at int) int {
	if at < 0 || at >= len(b) {
		panic(errNoNum)
	}
	for i, c := range b[at:min(len(b), at+len(PutNum(maxNum)))] {
		if c < numMore {
			return at + i + 1
		}
	}
	panic(errNoNum)
}

func PutText(s string) []byte { return append(PutNum(len(s)), s...) }

func GetText(b []byte, at int) (string, int, bool) {
	defer func() { _ = recover() }()
	s, next := textAt(b, at)
	return s, next, true
}

func textAt(b []byte, at int) (string, int) {
	size, from := numAt(b, at)
	if size > len(b)-from {
		panic(errNoNum)
	}
	return string(b[from : from+size]), from + size
}

func Parts(s string, by byte) []string {
	var list []string
	from := 0
	for i := 0; i < len(s); i++ {
		if s[i] == by {
			list = append(list, strings.Clone(s[from:i]))
			from = i + 1
		}
	}
	return append(list, strings.Clone(s[from:]))
}

const (
	crcEdge = 4294967295
	crcPoly = 3988292384
)

func Crc(b []byte) int {
	sum := uint32(crcEdge)
	for _, c := range b {
		sum ^= uint32(c)
		for range 8 {
			odd := sum%2 == 1
			sum /= 2
			if odd {
				sum ^= crcPoly
			}
		}
	}
	return int(sum ^ crcEdge)
}
