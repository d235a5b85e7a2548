package tests

import (
	"bytes"
	"hash/crc32"
	"math"
	"slices"
	"strconv"
	"strings"
	"testing"
	"unsafe"

	"loop.example/g00483/impl"
)

const maxNum = 2147483647

// edgeNums are the numbers at which PutNum takes one byte more, and those
// beside them, with the bytes that the document asks for.
var edgeNums = []struct {
	n int
	b string
}{
	{0, "\x00"},
	{1, "\x01"},
	{127, "\x7f"},
	{128, "\x80\x01"},
	{129, "\x81\x01"},
	{255, "\xff\x01"},
	{256, "\x80\x02"},
	{300, "\xac\x02"},
	{16383, "\xff\x7f"},
	{16384, "\x80\x80\x01"},
	{2097151, "\xff\xff\x7f"},
	{2097152, "\x80\x80\x80\x01"},
	{268435455, "\xff\xff\xff\x7f"},
	{268435456, "\x80\x80\x80\x80\x01"},
	{maxNum - 1, "\xfe\xff\xff\xff\x07"},
	{maxNum, "\xff\xff\xff\xff\x07"},
}

// roomy gives the bytes with spare room behind them that holds other bytes,
// and a function that tells whether all of it is as it was.
func roomy(s string) ([]byte, func() bool) {
	whole := append([]byte(s), "spare room"...)
	return whole[:len(s)], func() bool { return string(whole) == s+"spare room" }
}

func TestDigits(t *testing.T) {
	for n, want := range map[int]string{
		0: "0", 1: "1", 9: "9", 10: "10", 70: "70", 1000000: "1000000",
		-1: "-1", -9: "-9", -10: "-10", -70: "-70",
		math.MaxInt: "9223372036854775807",
		math.MinInt: "-9223372036854775808",
	} {
		if got := impl.Digits(n); got != want {
			t.Errorf("Digits(%d) = %q, want %q", n, got, want)
		}
	}
}

func TestNumberReadsDigits(t *testing.T) {
	for n := range 1000000 {
		if got, ok := impl.Number(impl.Digits(n)); got != n || !ok {
			t.Fatalf("Number(%q) = %d, %t", strconv.Itoa(n), got, ok)
		}
	}
}

func TestNumberRefuses(t *testing.T) {
	for _, s := range []string{
		"", "-", "+", "-1", "+1", "-0", "+0", "00", "01", "012", "000000", "0000001", "0999999",
		"1000000", "1000001", "9999999", "2147483647", "4294967296", "9223372036854775807",
		"9223372036854775808", "18446744073709551616", "18446744073709551617",
		"-9223372036854775808", strings.Repeat("9", 1000), strings.Repeat("0", 1000),
		" 1", "1 ", "1\n", "1\x00", "\x001", "1.0", "1e3", "0x1", "0b1", "1_0", "1,0",
		"a", "1a", "a1", "/", ":", "1/", "1:", "\xff", "\u0661", "\uff11", "\u00b2",
	} {
		if n, ok := impl.Number(s); n != 0 || ok {
			t.Errorf("Number(%q) = %d, %t, want 0 and false", s, n, ok)
		}
	}
}

func TestNumberRefusesEachOtherByte(t *testing.T) {
	for c := range 256 {
		digit := c >= '0' && c <= '9'
		for _, b := range [][]byte{{byte(c)}, {'1', byte(c)}, {'1', byte(c), '2'}} {
			if n, ok := impl.Number(string(b)); ok != digit || !ok && n != 0 {
				t.Errorf("Number(%q) = %d, %t", b, n, ok)
			}
		}
	}
}

func TestPutNum(t *testing.T) {
	for _, e := range edgeNums {
		if got := impl.PutNum(e.n); string(got) != e.b {
			t.Errorf("PutNum(%d) = %q, want %q", e.n, got, e.b)
		}
	}
	for _, n := range []int{-1, -2, -128, math.MinInt, maxNum + 1, maxNum + 2, 1 << 32, 1<<32 + 5, 1 << 35, math.MaxInt} {
		if got := impl.PutNum(n); len(got) != 0 {
			t.Errorf("PutNum(%d) = %q, want nothing", n, got)
		}
	}
}

func TestGetNumReadsPutNum(t *testing.T) {
	for _, e := range edgeNums {
		for _, ahead := range []string{"", "\x05", "\x80", "\xff\xff\xff\xff\xff\xff"} {
			for _, behind := range []string{"", "\x00", "\x80", "\xff"} {
				at, b := len(ahead), []byte(ahead+e.b+behind)
				n, next, ok := impl.GetNum(b, at)
				if n != e.n || next != at+len(e.b) || !ok {
					t.Errorf("GetNum(%q, %d) = %d, %d, %t", b, at, n, next, ok)
				}
			}
		}
	}
	for n := 0; n < maxNum; n += 1 + n/40 {
		b := impl.PutNum(n)
		if got, next, ok := impl.GetNum(b, 0); got != n || next != len(b) || !ok {
			t.Fatalf("GetNum(%q, 0) = %d, %d, %t, want %d", b, got, next, ok, n)
		}
	}
}

func wantNoNum(t *testing.T, b []byte, at int) {
	t.Helper()
	if n, next, ok := impl.GetNum(b, at); n != 0 || next != 0 || ok {
		t.Errorf("GetNum(%q, %d) = %d, %d, %t, want 0, 0 and false", b, at, n, next, ok)
	}
}

func TestGetNumRefusesPlaces(t *testing.T) {
	for _, at := range []int{-1, -2, math.MinInt, math.MinInt + 1, 3, 4, math.MaxInt, math.MaxInt - 1} {
		wantNoNum(t, []byte{1, 2, 3}, at)
	}
	for _, at := range []int{-1, 0, 1, math.MinInt, math.MaxInt} {
		wantNoNum(t, nil, at)
		wantNoNum(t, []byte{}, at)
	}
	spare, _ := roomy("\x01")
	wantNoNum(t, spare, 1)
}

func TestGetNumRefusesEarlyEnds(t *testing.T) {
	for _, e := range edgeNums {
		for size := range len(e.b) {
			for _, ahead := range []string{"", "\x05\x06"} {
				b, _ := roomy(ahead + e.b[:size])
				wantNoNum(t, b, len(ahead))
			}
		}
	}
}

func TestGetNumRefusesLongOnes(t *testing.T) {
	for _, e := range edgeNums {
		last := len(e.b) - 1
		long := e.b[:last] + string([]byte{e.b[last] + 128})
		for zeros := range 8 {
			b := long + strings.Repeat("\x80", zeros) + "\x00"
			wantNoNum(t, []byte(b), 0)
			wantNoNum(t, []byte("\x07"+b+"\x07"), 1)
		}
	}
}

func TestGetNumRefusesGreatOnes(t *testing.T) {
	for _, b := range []string{
		"\x80\x80\x80\x80\x08",
		"\xff\xff\xff\xff\x08",
		"\xff\xff\xff\xff\x0f",
		"\x80\x80\x80\x80\x10",
		"\x85\x80\x80\x80\x10",
		"\xff\xff\xff\xff\x7f",
		"\x80\x80\x80\x80\x80\x01",
		"\xff\xff\xff\xff\x87\x01",
		"\xff\xff\xff\xff\xff\xff\xff\xff\x7f",
		"\xff\xff\xff\xff\xff\xff\xff\xff\xff\x01",
		"\x85\x80\x80\x80\x80\x80\x80\x80\x80\x02",
		"\x85\x80\x80\x80\x80\x80\x80\x80\x80\x80\x01",
		strings.Repeat("\x80", 40) + "\x01",
		strings.Repeat("\xff", 40),
	} {
		wantNoNum(t, []byte(b), 0)
		wantNoNum(t, []byte("\x07"+b+"\x07"), 1)
	}
}

// One and two bytes are few enough to hold every such row of bytes against
// the numbers below 16384, which are all that they can stand for.
func TestGetNumOfEachShortRow(t *testing.T) {
	known := map[string]int{}
	for n := range 16384 {
		known[string(impl.PutNum(n))] = n
	}
	for first := range 256 {
		for second := range 256 {
			b := []byte{byte(first), byte(second)}
			want, wantNext, wantOk := 0, 0, false
			for size := 1; size <= 2 && !wantOk; size++ {
				if n, ok := known[string(b[:size])]; ok {
					want, wantNext, wantOk = n, size, true
				}
			}
			if n, next, ok := impl.GetNum(b, 0); n != want || next != wantNext || ok != wantOk {
				t.Errorf("GetNum(%q, 0) = %d, %d, %t, want %d, %d, %t", b, n, next, ok, want, wantNext, wantOk)
			}
		}
	}
}

func everyByte() string {
	var b []byte
	for c := range 256 {
		b = append(b, byte(c))
	}
	return string(b)
}

func TestPutText(t *testing.T) {
	for _, c := range []struct{ s, b string }{
		{"", "\x00"},
		{"ab", "\x02ab"},
		{"\x00", "\x01\x00"},
		{"\xff\x80\n", "\x03\xff\x80\n"},
		{"\u00e9", "\x02\xc3\xa9"},
		{strings.Repeat("x", 127), "\x7f" + strings.Repeat("x", 127)},
		{strings.Repeat("x", 128), "\x80\x01" + strings.Repeat("x", 128)},
		{everyByte(), "\x80\x02" + everyByte()},
		{strings.Repeat("x", 16384), "\x80\x80\x01" + strings.Repeat("x", 16384)},
	} {
		if got := impl.PutText(c.s); string(got) != c.b {
			t.Errorf("PutText(%q) = %q", c.s, got)
		}
		for _, ahead := range []string{"", "\xff", "\x00\x01\x02"} {
			for _, behind := range []string{"", "\x00", "more"} {
				at, b := len(ahead), []byte(ahead+c.b+behind)
				s, next, ok := impl.GetText(b, at)
				if s != c.s || next != at+len(c.b) || !ok {
					t.Errorf("GetText(%q, %d) = %q, %d, %t", b, at, s, next, ok)
				}
			}
		}
	}
}

func wantNoText(t *testing.T, b []byte, at int) {
	t.Helper()
	if s, next, ok := impl.GetText(b, at); s != "" || next != 0 || ok {
		t.Errorf("GetText(%q, %d) = %q, %d, %t, want empty, 0 and false", b, at, s, next, ok)
	}
}

func TestGetTextRefuses(t *testing.T) {
	for _, at := range []int{-1, 3, 4, math.MinInt, math.MaxInt} {
		wantNoText(t, []byte("\x00\x00\x00"), at)
		wantNoText(t, nil, at)
	}
	wantNoText(t, nil, 0)
	for _, b := range []string{
		"\x01", "\x02a", "\x80", "\x80\x00", "\x81\x00a", "\x82\x80\x00ab",
		"\xff\xff\xff\xff\x07", "\xff\xff\xff\xff\x07abc",
		"\x80\x80\x80\x80\x08", "\xff\xff\xff\xff\xff\xff\xff\xff\x7f",
		"\xff\xff\xff\xff\xff\xff\xff\xff\xff\x01",
	} {
		wantNoText(t, []byte(b), 0)
		wantNoText(t, []byte("\x00"+b), 1)
	}
}

func TestGetTextRefusesFewerBytes(t *testing.T) {
	for _, size := range []int{1, 2, 127, 128, 300} {
		whole := impl.PutText(strings.Repeat("x", size))
		for end := range whole {
			wantNoText(t, whole[:end], 0)
		}
	}
}

func TestTextsBehindEachOther(t *testing.T) {
	list := []string{"a", "", "bc", strings.Repeat("d", 200), "\x00\xff", ""}
	var b []byte
	for _, s := range list {
		b = append(b, impl.PutText(s)...)
		b = append(b, impl.PutNum(len(b))...)
	}
	at := 0
	for _, want := range list {
		s, next, ok := impl.GetText(b, at)
		if s != want || !ok {
			t.Fatalf("GetText at %d = %q, %t, want %q", at, s, ok, want)
		}
		n, behind, ok := impl.GetNum(b, next)
		if n != next || !ok {
			t.Fatalf("GetNum at %d = %d, %t", next, n, ok)
		}
		at = behind
	}
	if at != len(b) {
		t.Errorf("%d of %d bytes were read", at, len(b))
	}
}

func TestParts(t *testing.T) {
	for _, c := range []struct {
		s    string
		by   byte
		want []string
	}{
		{"", ',', []string{""}},
		{"", 0, []string{""}},
		{"a", ',', []string{"a"}},
		{",", ',', []string{"", ""}},
		{",,", ',', []string{"", "", ""}},
		{"a,b", ',', []string{"a", "b"}},
		{",a", ',', []string{"", "a"}},
		{"a,", ',', []string{"a", ""}},
		{"a,,b,", ',', []string{"a", "", "b", ""}},
		{",,ab,,cd,,", ',', []string{"", "", "ab", "", "cd", "", ""}},
		{"/a/b", '/', []string{"", "a", "b"}},
		{"a b", ',', []string{"a b"}},
		{"a\x00b", 0, []string{"a", "b"}},
		{"a\nb\n", '\n', []string{"a", "b", ""}},
		{"a\xffb", 0xff, []string{"a", "b"}},
		{"\u00e9", 0xa9, []string{"\xc3", ""}},
		{"\u00e9", 0xe9, []string{"\u00e9"}},
		{"\x80\x80", 0x80, []string{"", "", ""}},
	} {
		if got := impl.Parts(c.s, c.by); !slices.Equal(got, c.want) {
			t.Errorf("Parts(%q, %q) = %q, want %q", c.s, c.by, got, c.want)
		}
	}
}

func TestPartsByEachByte(t *testing.T) {
	all := everyByte()
	for c := range 256 {
		want := []string{all[:c], all[c+1:]}
		if got := impl.Parts(all, byte(c)); !slices.Equal(got, want) {
			t.Errorf("Parts by %d = %q", c, got)
		}
	}
}

func TestCrc(t *testing.T) {
	for s, want := range map[string]int{
		"":          0,
		"\x00":      3523407757,
		"\xff":      4278190080,
		"a":         3904355907,
		"abc":       891568578,
		"123456789": 3421780262,
		"The quick brown fox jumps over the lazy dog": 1095738169,
	} {
		if got := impl.Crc([]byte(s)); got != want {
			t.Errorf("Crc(%q) = %d, want %d", s, got, want)
		}
	}
	if impl.Crc(nil) != 0 {
		t.Error("Crc of nil")
	}
	all := []byte(everyByte())
	for from := range all {
		for to := from; to <= len(all); to += 5 {
			if got, want := impl.Crc(all[from:to]), int(crc32.ChecksumIEEE(all[from:to])); got != want {
				t.Fatalf("Crc of %d to %d = %d, want %d", from, to, got, want)
			}
		}
	}
}

func TestNumsLeaveArguments(t *testing.T) {
	for _, s := range []string{"", "\x00", "\x03abc", "\x03ab", "\x80\x00", "\xff\xff\xff\xff\x07", "\xff\xff\xff"} {
		b, same := roomy(s)
		for _, at := range []int{math.MinInt, -1, 0, 1, len(s), len(s) + 1, math.MaxInt} {
			impl.GetNum(b, at)
			impl.GetText(b, at)
			impl.Crc(b)
		}
		if !same() {
			t.Errorf("the argument %q was changed", s)
		}
	}
}

func overlap(whole string, part string) bool {
	if len(whole) == 0 || len(part) == 0 {
		return false
	}
	from := uintptr(unsafe.Pointer(unsafe.StringData(whole)))
	at := uintptr(unsafe.Pointer(unsafe.StringData(part)))
	return at >= from && at < from+uintptr(len(whole))
}

func TestNumsAnswerNewMemory(t *testing.T) {
	b := impl.PutText("hello")
	s, _, _ := impl.GetText(b, 0)
	for i := range b {
		b[i] = 'z'
	}
	if s != "hello" {
		t.Errorf("the text that was read turned to %q", s)
	}
	for _, n := range []int{0, 5, 127, 128, maxNum} {
		first := impl.PutNum(n)
		want := bytes.Clone(first)
		for i := range first[:cap(first)] {
			first[:cap(first)][i] = 99
		}
		if again := impl.PutNum(n); !bytes.Equal(again, want) {
			t.Errorf("PutNum(%d) answers memory that it keeps: %q", n, again)
		}
	}
	text := strings.Join([]string{"ab", "cd", "", "ef"}, ",")
	for _, by := range []byte{',', '!'} {
		for _, p := range impl.Parts(text, by) {
			if overlap(text, p) {
				t.Errorf("Parts(%q, %q): %q lies in the argument", text, by, p)
			}
		}
	}
	list := impl.Parts(text, ',')
	list[0] = "changed"
	if again := impl.Parts(text, ','); again[0] != "ab" || text != "ab,cd,,ef" {
		t.Errorf("Parts answers memory that it keeps: %q", again)
	}
}
