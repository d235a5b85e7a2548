package tests

import (
	"encoding/binary"
	"fmt"
	"math"
	"slices"
	"strings"
	"testing"

	"loop.example/g00483/impl"
)

type entry = impl.Entry

// longNames are as many as there can be, each as long as it can be, in order.
var longNames = []string{"000000", "000001", "099999", "azzzzz", "baaaaa", "mmmmmm", "zzzzz0", "zzzzzy", "zzzzzz"}

// entriesOf numbers names from node 1 on.
func entriesOf(names ...string) []entry {
	var list []entry
	for i, name := range names {
		list = append(list, entry{Name: name, Node: i + 1})
	}
	return list
}

// turnedRound gives the highest nodes to the first names.
func turnedRound(names ...string) []entry {
	list := entriesOf(names...)
	for i := range list {
		list[i].Node = 9 - i
	}
	return list
}

func rightEntries() map[string][]entry {
	return map[string][]entry{
		"none":                       nil,
		"an empty list":              {},
		"one":                        entriesOf("a"),
		"one, the greatest node":     {{Name: "a", Node: 9}},
		"one digit":                  entriesOf("0"),
		"one, the last name":         entriesOf("zzzzzz"),
		"one, the first of six":      entriesOf("000000"),
		"two":                        entriesOf("a", "b"),
		"two, nodes turned round":    {{Name: "a", Node: 2}, {Name: "b", Node: 1}},
		"two, least and greatest":    {{Name: "a", Node: 9}, {Name: "b", Node: 1}},
		"the beginning ahead":        entriesOf("a", "aa"),
		"the beginning, a digit":     entriesOf("a", "a0"),
		"each the next's beginning":  entriesOf("a", "ab", "abc", "abcd", "abcde", "abcdef"),
		"a longer one ahead":         entriesOf("ab", "b"),
		"a much longer one ahead":    entriesOf("azzzzz", "b"),
		"digits ahead of letters":    entriesOf("0", "9", "a", "z"),
		"digits as texts":            entriesOf("1", "10", "2"),
		"six, by the last one":       entriesOf("aaaaaa", "aaaaab"),
		"the hidden one":             entriesOf("~"),
		"the hidden one, node 9":     {{Name: "~", Node: 9}},
		"the hidden one behind":      entriesOf("a", "~"),
		"the hidden one behind more": {{Name: "0", Node: 7}, {Name: "z", Node: 2}, {Name: "zzzzzz", Node: 1}, {Name: "~", Node: 3}},
		"as many as there can be":    entriesOf("a", "b", "c", "d", "e", "f", "g", "h", "i"),
		"all of the longest":         entriesOf(longNames...),
		"all, nodes turned round":    turnedRound(longNames...),
		"all, the hidden one too":    entriesOf("000000", "1", "2", "abcdef", "b", "c", "d", "zzzzzz", "~"),
		"nodes in no order":          {{Name: "a", Node: 4}, {Name: "b", Node: 9}, {Name: "c", Node: 1}, {Name: "d", Node: 7}},
	}
}

// wrongNames are neither names nor the hidden one.
var wrongNames = []string{
	"", "abcdefg", "zzzzzzz", "0000000", "/", "/a", "a/", "a/b", "a/b/c/", ".", "..", "...", "a.", ".a", "a.b",
	"~~", "~a", "a~", "~\x00", "\x00~", "~/", "~ ", "~1", "~~~~~~", "~~~~~~~", "A", "Z", "aB", " ", "a ", " a", "-", "_",
	"`", "{", ":", "}", "|", "\x7f", "\x00", "a\x00", "\x01a", "\n", "a\n", "\x80", "a\x80", "\xff", "\xffa", "a\xff",
	"\u00e4", "\u0661", "\uff41", "\u02dc", "\uff5e", "a\u0303", "?",
	strings.Repeat("a", 127), strings.Repeat("a", 128), strings.Repeat("~", 300),
}

func wrongEntries() map[string][]entry {
	all := map[string][]entry{
		"two turned round":         entriesOf("b", "a"),
		"a digit behind":           entriesOf("a", "9"),
		"the beginning behind":     entriesOf("aa", "a"),
		"the beginning behind, 0":  entriesOf("a0", "a"),
		"a shorter one behind":     entriesOf("b", "ab"),
		"digits as numbers":        entriesOf("2", "10"),
		"the hidden one ahead":     entriesOf("~", "a"),
		"the hidden one, z behind": entriesOf("~", "zzzzzz"),
		"the hidden one between":   entriesOf("a", "~", "b"),
		"a name twice":             entriesOf("a", "a"),
		"a name twice, one node":   {{Name: "a", Node: 1}, {Name: "a", Node: 1}},
		"a name twice, apart":      entriesOf("a", "b", "a"),
		"the last one twice":       entriesOf("a", "b", "b"),
		"the hidden one twice":     entriesOf("~", "~"),
		"a long one twice":         entriesOf("abcdef", "abcdef"),
		"turned round in front":    entriesOf("b", "a", "c"),
		"turned round behind":      entriesOf("a", "c", "b"),
		"all turned round":         entriesOf("i", "h", "g", "f", "e", "d", "c", "b", "a"),
		"two nodes alike":          {{Name: "a", Node: 1}, {Name: "b", Node: 1}},
		"two nodes alike, apart":   {{Name: "a", Node: 4}, {Name: "b", Node: 5}, {Name: "c", Node: 4}},
		"two nodes alike behind":   {{Name: "a", Node: 4}, {Name: "b", Node: 9}, {Name: "c", Node: 9}},
		"two nodes alike, hidden":  {{Name: "a", Node: 9}, {Name: "~", Node: 9}},
		"all nodes alike":          {{Name: "a", Node: 2}, {Name: "b", Node: 2}, {Name: "c", Node: 2}},
		"ten":                      entriesOf("a", "b", "c", "d", "e", "f", "g", "h", "i", "j"),
		"ten from node 0 on":       {{Name: "0"}},
		"ten of the longest":       entriesOf(append(longNames[:8:8], "zzzzzy0", "zzzzzz")...),
		"longer than a file":       entriesOf(append([]string{"00000", "00001"}, longNames...)...),
		"much longer than a file":  slices.Repeat(entriesOf(longNames...), 50),
		"many of one":              slices.Repeat(entriesOf("a"), 300),
		"many in order":            nil,
		"zero values":              {{}, {}},
	}
	all["ten from node 0 on"] = append(all["ten from node 0 on"], entriesOf("a", "b", "c", "d", "e", "f", "g", "h", "i")...)
	for i := range 1000 {
		all["many in order"] = append(all["many in order"], entry{Name: fmt.Sprintf("%06d", i), Node: i + 1})
	}
	for _, name := range wrongNames {
		all[fmt.Sprintf("the name %.20q", name)] = entriesOf(name)
		all[fmt.Sprintf("the name %.20q ahead", name)] = entriesOf(name, "b")
		all[fmt.Sprintf("the name %.20q behind", name)] = entriesOf("a", name)
		all[fmt.Sprintf("the name %.20q in order", name)] = inOrder(entriesOf("a", "b", "~", name))
	}
	for _, at := range wrongNodesOf {
		all[fmt.Sprint("node ", at)] = []entry{{Name: "a", Node: at}}
		all[fmt.Sprint("node ", at, " ahead")] = []entry{{Name: "a", Node: at}, {Name: "b", Node: 1}}
		all[fmt.Sprint("node ", at, " behind")] = []entry{{Name: "a", Node: 9}, {Name: "b", Node: at}}
		all[fmt.Sprint("node ", at, " hidden")] = []entry{{Name: "a", Node: 9}, {Name: "~", Node: at}}
	}
	return all
}

// wrongNodesOf are those that no entry can have; PutNum of some is nothing.
var wrongNodesOf = []int{
	0, 10, 11, -1, -9, 127, 128, 257, -256, 300, 65537, 2147483647, 2147483648, 1<<32 + 1, -1 << 32,
	math.MinInt, math.MinInt + 1, math.MaxInt, math.MaxInt - 1,
}

func allEntries() map[string][]entry {
	all := wrongEntries()
	for name, list := range rightEntries() {
		all[name] = list
	}
	return all
}

func inOrder(list []entry) []entry {
	list = slices.Clone(list)
	slices.SortStableFunc(list, func(a, b entry) int { return strings.Compare(a.Name, b.Name) })
	return list
}

// dirText gives the text that the document asks for, by the library's own
// numbers of seven bits a byte.
func dirText(list []entry) string {
	var b []byte
	for _, e := range list {
		b = append(binary.AppendUvarint(b, uint64(len(e.Name))), e.Name...)
		if e.Node >= 0 && e.Node <= math.MaxInt32 {
			b = binary.AppendUvarint(b, uint64(e.Node))
		}
	}
	return string(b)
}

// isEntries tells whether a list is right, as the document says it.
func isEntries(list []entry) bool {
	names, nodes := map[string]int{}, map[int]int{}
	for _, e := range list {
		if e.Name != "~" && !nameForm.MatchString(e.Name) || e.Node < 1 || e.Node > 9 {
			return false
		}
		names[e.Name]++
		nodes[e.Node]++
	}
	return len(names) == len(list) && len(nodes) == len(list) && slices.Equal(inOrder(list), list) && len(dirText(list)) <= 80
}

// dirOf reads what is in a text with numbers of any length; what is not its
// text then was no right one.
func dirOf(s string) ([]entry, bool) {
	var list []entry
	for rest := []byte(s); len(rest) > 0; {
		size, n := binary.Uvarint(rest)
		if n <= 0 || size > uint64(len(rest)-n) {
			return nil, false
		}
		name := string(rest[n : n+int(size)])
		rest = rest[n+int(size):]
		at, n := binary.Uvarint(rest)
		if n <= 0 {
			return nil, false
		}
		list, rest = append(list, entry{Name: name, Node: int(at)}), rest[n:]
	}
	if !isEntries(list) || dirText(list) != s {
		return nil, false
	}
	return list, true
}

// place gives where the first entry of that name is; -1.
func place(list []entry, name string) int {
	for i, e := range list {
		if e.Name == name {
			return i
		}
	}
	return -1
}

// added gives the list with one more, as the document says it; false, where it
// is refused.
func added(list []entry, name string, at int) ([]entry, bool) {
	more := append(slices.Clone(list), entry{Name: name, Node: at})
	if !isEntries(list) || place(list, name) >= 0 || !isEntries(inOrder(more)) {
		return list, false
	}
	return inOrder(more), true
}

func wantAdded(t *testing.T, list []entry, name string, at int) bool {
	t.Helper()
	want, wantOk := added(list, name, at)
	got, ok := impl.DirAdd(list, name, at)
	if ok != wantOk || !slices.Equal(got, want) {
		t.Fatalf("DirAdd(%v, %q, %d) = %v, %t, want %v, %t", list, name, at, got, ok, want, wantOk)
	}
	return ok
}

func wantFound(t *testing.T, list []entry, name string) {
	t.Helper()
	want := -1
	if at := place(list, name); at >= 0 {
		want = list[at].Node
	}
	if got := impl.DirFind(list, name); got != want {
		t.Fatalf("DirFind(%v, %q) = %d, want %d", list, name, got, want)
	}
}

func wantDroppedEntry(t *testing.T, list []entry, name string) bool {
	t.Helper()
	want, at := list, place(list, name)
	if at >= 0 {
		want = append(slices.Clone(list[:at]), list[at+1:]...)
	}
	got, ok := impl.DirDrop(list, name)
	if ok != (at >= 0) || !slices.Equal(got, want) {
		t.Fatalf("DirDrop(%v, %q) = %v, %t, want %v, %t", list, name, got, ok, want, at >= 0)
	}
	return ok
}

// wantDir asks for what the document says of a text; it tells whether there is
// a list.
func wantDir(t *testing.T, s string) bool {
	t.Helper()
	want, wantOk := dirOf(s)
	got, ok := impl.DirOf(s)
	if ok != wantOk || !slices.Equal(got, want) {
		t.Fatalf("DirOf(%q) = %v, %t, want %v, %t", s, got, ok, want, wantOk)
	}
	return ok
}

func wantNoDir(t *testing.T, s string) {
	t.Helper()
	if got, ok := impl.DirOf(s); ok || len(got) != 0 {
		t.Fatalf("DirOf(%q) = %v, %t", s, got, ok)
	}
}

func TestHiddenName(t *testing.T) {
	if impl.Hidden != "~" || impl.NameOk(impl.Hidden) {
		t.Errorf("%q", impl.Hidden)
	}
}

func TestEntriesOk(t *testing.T) {
	for name, list := range rightEntries() {
		if !isEntries(list) || !impl.EntriesOk(list) {
			t.Errorf("%s: EntriesOk(%v) is false", name, list)
		}
	}
	for name, list := range wrongEntries() {
		if isEntries(list) || impl.EntriesOk(list) {
			t.Errorf("%s: EntriesOk(%v) is true", name, list)
		}
	}
}

func TestEntriesOkOfEachByte(t *testing.T) {
	for c := range 256 {
		one := string([]byte{byte(c)})
		for _, name := range []string{one, one + one, "a" + one, one + "a", "aaaaa" + one, one + "aaaaa", "aaaaaa" + one, "~" + one, one + "~"} {
			want := name == "~" || nameForm.MatchString(name)
			for _, list := range [][]entry{entriesOf(name), inOrder(entriesOf(name, "mmmmmm")), inOrder(entriesOf("000000", name))} {
				if got := impl.EntriesOk(list); got != want {
					t.Errorf("EntriesOk(%v) is %t", list, got)
				}
			}
		}
	}
}

// namesOfFewSigns are right and wrong; some begin as others do.
func namesOfFewSigns() []string {
	var list []string
	everyText("0az~\x80\xff", 3, func(s string) { list = append(list, s) })
	return list
}

func TestEntriesOkOfEachTwoNames(t *testing.T) {
	names, right := append(namesOfFewSigns(), longNames...), 0
	for _, first := range names {
		for _, second := range names {
			list := entriesOf(first, second)
			want := isEntries(list)
			if got := impl.EntriesOk(list); got != want {
				t.Fatalf("EntriesOk(%v) is %t", list, got)
			}
			if want {
				right++
			}
		}
	}
	if right != 49*48/2 {
		t.Errorf("%d right pairs, want those of 49 names", right)
	}
}

func TestEntriesOkLooksAtEachPlace(t *testing.T) {
	for at := range 9 {
		for node := -3; node < 20; node++ {
			for _, list := range [][]entry{entriesOf(longNames...), turnedRound(longNames...)} {
				was := list[at].Node
				list[at].Node = node
				if got := impl.EntriesOk(list); got != (node == was) {
					t.Errorf("EntriesOk(%v) is %t", list, got)
				}
			}
		}
		for _, name := range append(wrongNames, "~", longNames[(at+1)%9], longNames[(at+5)%9]) {
			list := entriesOf(longNames...)
			list[at].Name = name
			if got := impl.EntriesOk(list); got != (name == "~" && at == 8) {
				t.Errorf("EntriesOk(%v) is %t", list, got)
			}
		}
	}
}

func TestEntriesOkOfEachTwoNodes(t *testing.T) {
	for first := -1; first <= 11; first++ {
		for second := -1; second <= 11; second++ {
			list := []entry{{Name: "a", Node: first}, {Name: "~", Node: second}}
			want := first != second && first >= 1 && first <= 9 && second >= 1 && second <= 9
			if got := impl.EntriesOk(list); got != want {
				t.Errorf("EntriesOk(%v) is %t", list, got)
			}
		}
	}
}

// The longest list that is right has room to spare; no wrong one becomes right
// for being short.
func TestEntriesOkOfEachCount(t *testing.T) {
	for count := range 30 {
		var list []entry
		for i := range count {
			list = append(list, entry{Name: fmt.Sprintf("z%05d", i), Node: i + 1})
		}
		if got := impl.EntriesOk(list); got != (count <= 9) {
			t.Errorf("EntriesOk of %d entries is %t", count, got)
		}
		if got := len(impl.DirText(list)); got != 8*count {
			t.Errorf("DirText of %d entries has %d bytes", count, got)
		}
	}
}

func TestDirText(t *testing.T) {
	for _, c := range []struct {
		list []entry
		want string
	}{
		{nil, ""},
		{[]entry{}, ""},
		{[]entry{{}}, "\x00\x00"},
		{[]entry{{Name: "a", Node: 1}}, "\x01a\x01"},
		{[]entry{{Name: "a", Node: 1}, {Name: "b", Node: 3}}, "\x01a\x01\x01b\x03"},
		{[]entry{{Name: "b", Node: 3}, {Name: "a", Node: 1}}, "\x01b\x03\x01a\x01"},
		{[]entry{{Name: "~", Node: 9}}, "\x01~\x09"},
		{[]entry{{Name: "abcdef", Node: 5}}, "\x06abcdef\x05"},
		{[]entry{{Name: "", Node: 2}, {Name: "/.\xff", Node: 0}}, "\x00\x02\x03/.\xff\x00"},
		{[]entry{{Name: "a", Node: 127}}, "\x01a\x7f"},
		{[]entry{{Name: "a", Node: 128}}, "\x01a\x80\x01"},
		{[]entry{{Name: "a", Node: 2147483647}, {Name: "a", Node: 1}}, "\x01a\xff\xff\xff\xff\x07\x01a\x01"},
		{[]entry{{Name: "a", Node: 2147483648}, {Name: "b", Node: 1}}, "\x01a\x01b\x01"},
		{[]entry{{Name: "a", Node: -1}}, "\x01a"},
		{[]entry{{Name: "", Node: math.MinInt}, {Name: "", Node: math.MaxInt}}, "\x00\x00"},
		{[]entry{{Name: strings.Repeat("x", 128), Node: 1}}, "\x80\x01" + strings.Repeat("x", 128) + "\x01"},
	} {
		if got := impl.DirText(c.list); got != c.want {
			t.Errorf("DirText(%v) = %v, want %q", c.list, got, c.want)
		}
	}
	for name, list := range allEntries() {
		if got := impl.DirText(list); got != dirText(list) {
			t.Errorf("%s: DirText(%v) = %v", name, list, got)
		}
	}
}

func TestDirOf(t *testing.T) {
	for name, list := range rightEntries() {
		if got, ok := impl.DirOf(dirText(list)); !ok || !slices.Equal(got, list) {
			t.Errorf("%s: DirOf of its text is %v, %t", name, got, ok)
		}
	}
	for name, list := range wrongEntries() {
		if !isEntries(list) && wantDir(t, dirText(list)) {
			t.Errorf("%s: DirOf(%q) is true", name, dirText(list))
		}
	}
	if got, ok := impl.DirOf(""); !ok || len(got) != 0 {
		t.Errorf("DirOf of the empty text is %v, %t", got, ok)
	}
}

func TestDirOfRefuses(t *testing.T) {
	for _, s := range []string{
		"\x01b\x03\x01a\x01", "\x01a\x01\x01a\x02", "\x01a\x01\x01a\x01", "\x01a\x01\x01b\x01", "\x02aa\x01\x01a\x02",
		"\x81\x00a\x01", "\x81\x80\x00a\x01", "\x01a\x81\x00", "\x01a\x81\x80\x00", "\x01a\x89\x80\x80\x80\x00",
		"\x01a\x01\x81\x00b\x02", "\x01a\x01\x01b\x82\x00", "\x01a\x8a\x00", "\x00\x01", "\x00\x00", "\x00", "\x01", "\x01a",
		"\x02a\x01", "\x03a\x01", "\x7fa\x01", "\xff\xff\xff\xff\x07a\x01", "\xff\xff\xff\xff\xff\xff\xff\xff\x7fa\x01",
		"\xff\xff\xff\xff\xff\xff\xff\xff\xff\x01a\x01", "\x01a\xff\xff\xff\xff\x07", "\x01a\xff\xff\xff\xff\xff\xff\xff\xff\xff\x01",
		"\x80\x80\x80\x80\x08a\x01", "\x01a\x80\x80\x80\x80\x10", "\x01a\x81\x80\x80\x80\x10", "\x01a\x00", "\x01a\x0a", "\x01a\x7f",
		"\x01A\x01", "\x01/\x01", "\x01.\x01", "\x02..\x01", "\x02~~\x01", "\x07abcdefg\x01", "\x01~\x01\x01a\x02", "\x02\xc3\xa4\x01",
		"a", "?", "\x01a\x01\n", "\x01a\x01 ", "\x01a\x01\x00", "\n\x01a\x01",
		strings.Repeat("\x01a\x01", 30), strings.Repeat("\x01a\x01", 100000), strings.Repeat("\x00", 100000), strings.Repeat("\x80", 100000),
	} {
		wantNoDir(t, s)
	}
}

// Of each text with one byte fewer, one more, and one turned, at each place.
func TestDirOfTurnedTexts(t *testing.T) {
	right := 0
	for _, list := range rightEntries() {
		s := dirText(list)
		for at := range len(s) + 1 {
			wantDir(t, s[:at])
			wantDir(t, s[at:])
			for c := range 256 {
				one := string([]byte{byte(c)})
				wantDir(t, s[:at]+one+s[at:])
				if at < len(s) && wantDir(t, s[:at]+one+s[at+1:]) {
					right++
				}
			}
			if at < len(s) {
				wantDir(t, s[:at]+s[at+1:])
			}
		}
	}
	if right < 500 {
		t.Errorf("only %d turned texts are right", right)
	}
}

// One byte fewer or more at the end is never right.
func TestDirOfNeedsEachByte(t *testing.T) {
	for name, list := range rightEntries() {
		s := dirText(list)
		if s == "" {
			continue
		}
		wantNoDir(t, s[:len(s)-1])
		wantNoDir(t, s[1:])
		for c := range 256 {
			wantNoDir(t, s+string([]byte{byte(c)}))
			if c != 0 {
				wantNoDir(t, string([]byte{byte(c)})+s[1:2])
			}
		}
		if _, ok := impl.DirOf(s + s); ok {
			t.Errorf("%s: DirOf of its text twice is true", name)
		}
	}
}

// Numbers that are not the shortest, at each place at which one stands.
func TestDirOfRefusesLongNumbers(t *testing.T) {
	for _, list := range rightEntries() {
		for i, e := range list {
			ahead, behind := dirText(list[:i]), dirText(list[i+1:])
			size, at := byte(len(e.Name)), byte(e.Node)
			for _, more := range []string{"\x00", "\x80\x00", "\x80\x80\x00", "\x80\x80\x80\x00", "\x80\x80\x80\x80\x00"} {
				wantNoDir(t, ahead+string([]byte{size + 128})+more+e.Name+string([]byte{at})+behind)
				wantNoDir(t, ahead+string([]byte{size})+e.Name+string([]byte{at + 128})+more+behind)
			}
		}
	}
}

func TestDirOfEachTextOfThreeBytes(t *testing.T) {
	right := 0
	for first := range 256 {
		for second := range 256 {
			for third := range 256 {
				s := string([]byte{byte(first), byte(second), byte(third)})
				got, ok := impl.DirOf(s)
				want := first == 1 && third >= 1 && third <= 9 && (s[1] == '~' || nameSign(s[1]))
				if ok != want || ok && (len(got) != 1 || got[0] != (entry{Name: s[1:2], Node: third})) || !ok && len(got) > 0 {
					t.Fatalf("DirOf(%q) = %v, %t", s, got, ok)
				}
				if ok {
					right++
				}
			}
			wantNoDir(t, string([]byte{byte(first), byte(second)}))
		}
		wantNoDir(t, string([]byte{byte(first)}))
	}
	if right != 37*9 {
		t.Errorf("%d texts of three bytes are right", right)
	}
}

func nameSign(c byte) bool { return strings.IndexByte("0123456789abcdefghijklmnopqrstuvwxyz", c) >= 0 }

// Of all texts of few signs, which may be sizes, names and nodes.
func TestDirOfTextsOfFewSigns(t *testing.T) {
	right := 0
	everyText("\x00\x01\x02a", 9, func(s string) {
		if wantDir(t, s) {
			right++
		}
	})
	if right < 5 {
		t.Errorf("only %d are right", right)
	}
}

func TestDirFind(t *testing.T) {
	list := []entry{{Name: "0", Node: 7}, {Name: "a", Node: 2}, {Name: "ab", Node: 9}, {Name: "z", Node: 1}, {Name: "~", Node: 4}}
	for name, want := range map[string]int{
		"0": 7, "a": 2, "ab": 9, "z": 1, "~": 4, "": -1, "b": -1, "abc": -1, "00": -1, "zz": -1, "~~": -1, "A": -1, "/": -1,
		"aa": -1, "a\x00": -1, "\xff": -1, "abcdefg": -1, "\x01a": -1,
	} {
		if got := impl.DirFind(list, name); got != want {
			t.Errorf("DirFind(%v, %q) = %d, want %d", list, name, got, want)
		}
		if got := impl.DirFind(nil, name); got != -1 {
			t.Errorf("DirFind of none, %q = %d", name, got)
		}
	}
}

// In a list that is not right, the first of a name counts, whatever it is.
func TestDirFindOfWrongLists(t *testing.T) {
	list := []entry{
		{Name: "z", Node: 5}, {Name: "a", Node: -7}, {Name: "z", Node: 1}, {Name: "", Node: 0}, {Name: "a", Node: 2},
		{Name: "b/c", Node: 1000}, {Name: "", Node: 3}, {Name: "0", Node: math.MinInt}, {Name: "~", Node: math.MaxInt}, {Name: "~", Node: 1},
		{Name: "last", Node: -1}, {Name: "last", Node: 6},
	}
	for name, want := range map[string]int{
		"z": 5, "a": -7, "": 0, "b/c": 1000, "0": math.MinInt, "~": math.MaxInt, "last": -1, "b": -1, "c": -1, "y": -1,
	} {
		if got := impl.DirFind(list, name); got != want {
			t.Errorf("DirFind(%v, %q) = %d, want %d", list, name, got, want)
		}
	}
}

// askedNames are of a list, between those of it, and others.
func askedNames(list []entry) []string {
	names := append([]string{"", "~", "a", "0", "zzzzzz", "zzzzzzz", "nosuch", "/", "~~"}, wrongNames[:12]...)
	for _, e := range list {
		names = append(names, e.Name, e.Name+"0", e.Name+"z", e.Name[:max(len(e.Name)-1, 0)])
	}
	slices.Sort(names)
	return slices.Compact(names)
}

func TestFindAndDropOfEachName(t *testing.T) {
	dropped := 0
	for _, list := range allEntries() {
		if len(list) > 60 {
			list = list[:60]
		}
		for _, name := range askedNames(list) {
			wantFound(t, list, name)
			if wantDroppedEntry(t, list, name) {
				dropped++
			}
		}
	}
	if dropped < 500 {
		t.Errorf("only %d are dropped", dropped)
	}
}

func TestDirAdd(t *testing.T) {
	list := []entry{{Name: "b", Node: 7}, {Name: "m", Node: 2}, {Name: "y", Node: 4}}
	one := func(name string) entry { return entry{Name: name, Node: 9} }
	for name, want := range map[string][]entry{
		"a":      {one("a"), list[0], list[1], list[2]},
		"0":      {one("0"), list[0], list[1], list[2]},
		"azzzzz": {one("azzzzz"), list[0], list[1], list[2]},
		"b0":     {list[0], one("b0"), list[1], list[2]},
		"bb":     {list[0], one("bb"), list[1], list[2]},
		"c":      {list[0], one("c"), list[1], list[2]},
		"l":      {list[0], one("l"), list[1], list[2]},
		"n":      {list[0], list[1], one("n"), list[2]},
		"xzzzzz": {list[0], list[1], one("xzzzzz"), list[2]},
		"y0":     {list[0], list[1], list[2], one("y0")},
		"z":      {list[0], list[1], list[2], one("z")},
		"zzzzzz": {list[0], list[1], list[2], one("zzzzzz")},
		"~":      {list[0], list[1], list[2], one("~")},
	} {
		if got, ok := impl.DirAdd(list, name, 9); !ok || !slices.Equal(got, want) {
			t.Errorf("DirAdd(%v, %q, 9) = %v, %t, want %v", list, name, got, ok, want)
		}
		if got, ok := impl.DirAdd(nil, name, 9); !ok || !slices.Equal(got, []entry{one(name)}) {
			t.Errorf("DirAdd of none, %q = %v, %t", name, got, ok)
		}
	}
	hidden := append(slices.Clone(list), entry{Name: "~", Node: 3})
	if got, ok := impl.DirAdd(hidden, "zzzzzz", 9); !ok || got[3] != one("zzzzzz") || got[4] != hidden[3] {
		t.Errorf("DirAdd(%v, %q, 9) = %v, %t", hidden, "zzzzzz", got, ok)
	}
}

func wantNotAdded(t *testing.T, list []entry, name string, at int) {
	t.Helper()
	if got, ok := impl.DirAdd(list, name, at); ok || !slices.Equal(got, list) {
		t.Fatalf("DirAdd(%v, %q, %d) = %v, %t", list, name, at, got, ok)
	}
}

func TestDirAddRefuses(t *testing.T) {
	list := []entry{{Name: "b", Node: 7}, {Name: "m", Node: 2}, {Name: "~", Node: 4}}
	for _, name := range []string{"b", "m", "~"} {
		for at := -1; at <= 11; at++ {
			wantNotAdded(t, list, name, at)
		}
	}
	for _, name := range wrongNames {
		wantNotAdded(t, list, name, 9)
		wantNotAdded(t, nil, name, 9)
	}
	for _, at := range append([]int{7, 2, 4}, wrongNodesOf...) {
		for _, name := range []string{"a", "c", "z"} {
			wantNotAdded(t, list, name, at)
		}
	}
	for _, at := range wrongNodesOf {
		wantNotAdded(t, nil, "a", at)
		wantNotAdded(t, nil, "~", at)
	}
}

func TestDirAddIntoFullList(t *testing.T) {
	for _, list := range [][]entry{entriesOf(longNames...), turnedRound(longNames...), entriesOf("a", "b", "c", "d", "e", "f", "g", "h", "~")} {
		for at := -1; at <= 11; at++ {
			for _, name := range []string{"0", "000000", "1", "m", "zzzzzz", "~", "", "abcdefg"} {
				wantNotAdded(t, list, name, at)
			}
		}
		for i, e := range list {
			fewer := append(slices.Clone(list[:i]), list[i+1:]...)
			if !wantAdded(t, fewer, e.Name, e.Node) {
				t.Errorf("DirAdd(%v, %q, %d) is false", fewer, e.Name, e.Node)
			}
		}
	}
}

func TestDirAddIntoWrongLists(t *testing.T) {
	for _, list := range wrongEntries() {
		for _, name := range []string{"c", "0", "zz", "~", "a", ""} {
			for at := 0; at <= 10; at++ {
				wantNotAdded(t, list, name, at)
			}
		}
	}
}

func TestDirAddToEachList(t *testing.T) {
	taken := 0
	for _, list := range rightEntries() {
		for _, name := range askedNames(list) {
			for at := -1; at <= 10; at++ {
				if wantAdded(t, list, name, at) {
					taken++
				}
			}
		}
	}
	if taken < 500 {
		t.Errorf("only %d are added", taken)
	}
}

func TestDirDrop(t *testing.T) {
	list := []entry{{Name: "b", Node: 7}, {Name: "m", Node: 2}, {Name: "y", Node: 4}, {Name: "~", Node: 1}}
	for name, want := range map[string][]entry{
		"b": {list[1], list[2], list[3]},
		"m": {list[0], list[2], list[3]},
		"y": {list[0], list[1], list[3]},
		"~": {list[0], list[1], list[2]},
	} {
		if got, ok := impl.DirDrop(list, name); !ok || !slices.Equal(got, want) {
			t.Errorf("DirDrop(%v, %q) = %v, %t", list, name, got, ok)
		}
	}
	for _, name := range []string{"", "a", "bb", "mm", "z", "~~", "B", "y "} {
		if got, ok := impl.DirDrop(list, name); ok || !slices.Equal(got, list) {
			t.Errorf("DirDrop(%v, %q) = %v, %t", list, name, got, ok)
		}
		if got, ok := impl.DirDrop(nil, name); ok || len(got) != 0 {
			t.Errorf("DirDrop of none, %q = %v, %t", name, got, ok)
		}
		if got, ok := impl.DirDrop(entriesOf(name), name); !ok || len(got) != 0 {
			t.Errorf("DirDrop of %q alone = %v, %t", name, got, ok)
		}
	}
}

// In a list that is not right, the first of a name alone goes, then the next.
func TestDirDropOfWrongLists(t *testing.T) {
	list := []entry{{Name: "z", Node: 5}, {Name: "a", Node: -7}, {Name: "z", Node: 1}, {Name: "", Node: 0}, {Name: "z", Node: 5}}
	for _, want := range [][]entry{
		{list[1], list[2], list[3], list[4]},
		{list[1], list[3], list[4]},
		{list[1], list[3]},
	} {
		got, ok := impl.DirDrop(list, "z")
		if !ok || !slices.Equal(got, want) {
			t.Fatalf("DirDrop(%v, z) = %v, %t, want %v", list, got, ok, want)
		}
		list = got
	}
	if got, ok := impl.DirDrop(list, ""); !ok || !slices.Equal(got, list[:1]) {
		t.Errorf("DirDrop(%v, of no name) = %v, %t", list, got, ok)
	}
}

// manyEntries gives right lists of many names and nodes, by a row of numbers.
func manyEntries(count int, each func(list []entry, next func(below int) int)) {
	next := dice(5)
	for range count {
		var list []entry
		nodes := []int{1, 2, 3, 4, 5, 6, 7, 8, 9}
		for range next(10) {
			name, k := someName(next), next(len(nodes))
			if place(list, name) < 0 {
				list = append(list, entry{Name: name, Node: nodes[k]})
				nodes = slices.Delete(nodes, k, k+1)
			}
		}
		each(inOrder(list), next)
	}
}

// someName gives one of few signs, so that many begin as others do.
func someName(next func(below int) int) string {
	if next(9) == 0 {
		return "~"
	}
	name := ""
	for range 1 + next(6) {
		name += []string{"a", "b", "z", "0", "9"}[next(5)]
	}
	return name
}

// Promise 8, for many lists and names.
func TestAddedIsFoundDroppedIsNot(t *testing.T) {
	taken, refused := 0, 0
	manyEntries(3000, func(list []entry, next func(below int) int) {
		if !impl.EntriesOk(list) {
			t.Fatalf("EntriesOk(%v) is false", list)
		}
		for range 12 {
			name, at := someName(next), next(11)
			got, ok := impl.DirAdd(list, name, at)
			if !wantAdded(t, list, name, at) {
				refused++
				continue
			}
			taken++
			if !ok || impl.DirFind(got, name) != at || impl.DirFind(list, name) != -1 {
				t.Fatalf("DirAdd(%v, %q, %d) = %v, %t", list, name, at, got, ok)
			}
			wantOtherNames(t, list, got, name)
			back, ok := impl.DirDrop(got, name)
			if !ok || impl.DirFind(back, name) != -1 || !slices.Equal(back, list) {
				t.Fatalf("DirDrop(%v, %q) = %v, %t", got, name, back, ok)
			}
		}
	})
	if taken < 5000 || refused < 5000 {
		t.Errorf("only %d are taken, %d refused", taken, refused)
	}
}

// wantOtherNames asks that a right list came, in which every name but one is
// found as it was.
func wantOtherNames(t *testing.T, list []entry, got []entry, but string) {
	t.Helper()
	for _, name := range append(askedNames(list), askedNames(got)...) {
		if name != but && impl.DirFind(got, name) != impl.DirFind(list, name) {
			t.Fatalf("of %v came %v: %q is another one", list, got, name)
		}
	}
	read, ok := impl.DirOf(impl.DirText(got))
	if !impl.EntriesOk(got) || !ok || !slices.Equal(read, got) {
		t.Fatalf("of %v came %v, whose text is read as %v, %t", list, got, read, ok)
	}
}

func TestDroppedIsNotFound(t *testing.T) {
	manyEntries(1500, func(list []entry, next func(below int) int) {
		for _, e := range list {
			got, ok := impl.DirDrop(list, e.Name)
			if !ok || len(got) != len(list)-1 || impl.DirFind(got, e.Name) != -1 {
				t.Fatalf("DirDrop(%v, %q) = %v, %t", list, e.Name, got, ok)
			}
			wantOtherNames(t, list, got, e.Name)
			if back, ok := impl.DirAdd(got, e.Name, e.Node); !ok || !slices.Equal(back, list) {
				t.Fatalf("DirAdd(%v, %q, %d) = %v, %t", got, e.Name, e.Node, back, ok)
			}
		}
	})
}

// A list is the same one, in whatever order its entries are added.
func TestAddedInAnyOrder(t *testing.T) {
	manyEntries(1500, func(list []entry, next func(below int) int) {
		left := slices.Clone(list)
		var got []entry
		for len(left) > 0 {
			k := next(len(left))
			more, ok := impl.DirAdd(got, left[k].Name, left[k].Node)
			if !ok {
				t.Fatalf("DirAdd(%v, %v) is false", got, left[k])
			}
			got, left = more, slices.Delete(left, k, k+1)
		}
		if !slices.Equal(got, list) {
			t.Fatalf("%v, want %v", got, list)
		}
	})
}

// eachDirCall gives what each function answers that gives a list.
func eachDirCall(list []entry, name string, each func(call string, got []entry)) {
	for _, at := range []int{-1, 0, 1, 2, 5, 9, 10, math.MinInt, math.MaxInt} {
		got, _ := impl.DirAdd(list, name, at)
		each(fmt.Sprint("DirAdd of node ", at), got)
	}
	got, _ := impl.DirDrop(list, name)
	each("DirDrop", got)
	got, _ = impl.DirOf(impl.DirText(list))
	each("DirOf", got)
}

func entryNames(list []entry) []string {
	var names []string
	for _, e := range list {
		names = append(names, e.Name)
	}
	return names
}

// ownEntries gives the list with texts of its own.
func ownEntries(list []entry) []entry {
	var own []entry
	for _, e := range list {
		own = append(own, entry{Name: strings.Clone(e.Name), Node: e.Node})
	}
	return own
}

func overwriteEntries(list []entry) {
	for i := range list[:cap(list)] {
		list[:cap(list)][i] = entry{Name: "overwritten", Node: -9}
	}
}

func TestDirsLeaveArguments(t *testing.T) {
	for kind, list := range allEntries() {
		if len(list) > 60 {
			list = list[:60]
		}
		for _, name := range []string{"", "0", "a", "aa", "c", "zzzzzz", "~", "abcdefg", "/"} {
			room, same := roomyList(ownEntries(list), entry{Name: "spare", Node: 5}, entry{Name: "~", Node: 6}, entry{})
			asked := strings.Clone(name)
			eachDirCall(room, asked, func(call string, got []entry) {
				impl.EntriesOk(room)
				impl.DirFind(room, asked)
				if !same() || asked != name {
					t.Fatalf("%s: %s of %q changed an argument", kind, call, name)
				}
				if sharesList(got, room) || sharesText(entryNames(got), append(entryNames(room), asked)) {
					t.Fatalf("%s: %s of %q answers memory of an argument", kind, call, name)
				}
				if overwriteEntries(got); !same() {
					t.Fatalf("%s: %s of %q answers its argument's memory", kind, call, name)
				}
			})
		}
	}
}

func TestDirsAnswerNewMemory(t *testing.T) {
	for kind, list := range rightEntries() {
		for _, name := range []string{"a", "mm", "~"} {
			eachDirCall(list, name, func(call string, got []entry) {
				was := slices.Clone(got)
				eachDirCall(got, "n", func(_ string, other []entry) { overwriteEntries(other) })
				eachDirCall(list, name, func(_ string, other []entry) {
					if sharesList(got, other) {
						t.Fatalf("%s: %s shares a list with another answer", kind, call)
					}
					overwriteEntries(other)
				})
				if !slices.Equal(got, was) {
					t.Fatalf("%s: %s turned with another answer", kind, call)
				}
			})
		}
	}
	s := strings.Clone(dirText(entriesOf(longNames...)))
	list, _ := impl.DirOf(s)
	if sharesText(entryNames(list), []string{s}) {
		t.Error("DirOf answers its argument's memory")
	}
	text := impl.DirText(list)
	if overwriteEntries(list); text != s || sharesText([]string{text}, longNames) {
		t.Errorf("DirText turned to %q", text)
	}
}
