package tests

import (
	"encoding/binary"
	"fmt"
	"hash/crc32"
	"math"
	"slices"
	"strings"
	"testing"

	"loop.example/g00483/impl"
)

type event = impl.Event

// A tx is a list of writes with the least n that it is right for.
type tx struct {
	least int
	list  []put
}

// txAt gives writes to these blocks, each of a text of its own.
func txAt(ats ...int) []put {
	var list []put
	for _, at := range ats {
		list = append(list, put{At: at, Data: fmt.Sprint("new", at)})
	}
	return list
}

// txAll gives a write to each of so many blocks.
func txAll(n int) []put {
	var list []put
	for at := range n {
		list = append(list, txAt(at)...)
	}
	return list
}

// txWith gives writes of these texts, one block behind the other.
func txWith(texts ...string) []put {
	list := txAll(len(texts))
	for i := range list {
		list[i].Data = texts[i]
	}
	return list
}

func rightTxs() map[string]tx {
	return map[string]tx{
		"the first block":   {1, txAt(0)},
		"the second block":  {2, txAt(1)},
		"the last block":    {48, txAt(47)},
		"two":               {3, txAt(0, 2)},
		"neighbours":        {6, txAt(4, 5)},
		"three":             {8, txAt(1, 2, 7)},
		"first and last":    {48, txAt(0, 47)},
		"all of five":       {5, txAll(5)},
		"all but the first": {48, txAll(48)[1:]},
		"all":               {48, txAll(48)},
		"an empty text":     {1, txWith("")},
		"empty texts":       {3, txWith("", "", "")},
		"a text of 89":      {1, txWith(textOf(89))},
		"a text of 90":      {1, txWith(textOf(90))},
		"texts of 90":       {48, txWith(slices.Repeat([]string{textOf(90)}, 48)...)},
		"texts alike":       {2, txWith("same", "same")},
		"every byte":        {3, txWith(everyByte()[:90], everyByte()[90:180], everyByte()[180:])},
	}
}

// wrongTxs are wrong for every n.
func wrongTxs() map[string][]put {
	return map[string][]put{
		"nothing":              nil,
		"an empty list":        {},
		"block -1":             txAt(-1),
		"block -1 ahead":       txAt(-1, 0),
		"the least block":      txAt(math.MinInt),
		"block 48":             txAt(48),
		"block 48 behind":      txAt(0, 48),
		"block 49":             txAt(49),
		"block 127":            txAt(127),
		"block 1 << 32":        txAt(1 << 32),
		"the greatest block":   txAt(math.MaxInt),
		"round the edge":       txAt(math.MaxInt, math.MinInt),
		"round the edge to 0":  txAt(math.MaxInt, 0),
		"equal":                txAt(0, 0),
		"equal behind":         txAt(0, 1, 1),
		"equal ahead":          txAt(1, 1, 2),
		"descending":           txAt(1, 0),
		"descending behind":    txAt(0, 2, 1),
		"descending ahead":     txAt(2, 0, 3),
		"descending in all":    txAt(3, 2, 1, 0),
		"49":                   txAll(49),
		"1000":                 txAll(1000),
		"a text of 91":         txWith(textOf(91)),
		"a text of 91 ahead":   txWith(textOf(91), "", ""),
		"a text of 91 between": txWith("", textOf(91), ""),
		"a text of 91 behind":  txWith("", "", textOf(91)),
		"a text of 1000":       txWith(textOf(1000)),
	}
}

// someHomes are numbers of home blocks, and what lies beside them.
func someHomes() []int {
	list := []int{math.MinInt, math.MinInt + 1, -48, -2}
	for n := -1; n <= 51; n++ {
		list = append(list, n)
	}
	return append(list, 1000, 1<<32, 1<<32+1, 1<<62+1, math.MaxInt-1, math.MaxInt)
}

// someTxs are right ones and wrong ones.
func someTxs() map[string][]put {
	all := wrongTxs()
	for name, c := range rightTxs() {
		all[name] = c.list
	}
	return all
}

// headSum is the check sum by the library; no text here is longer than what
// one byte counts.
func headSum(list []put) []byte {
	var b []byte
	for _, p := range list {
		b = append(append(b, byte(len(p.Data))), p.Data...)
	}
	return binary.BigEndian.AppendUint32(nil, crc32.ChecksumIEEE(b))
}

// headWith puts a head together from what may be wrong.
func headWith(mark string, count string, ats string, sum []byte) string {
	return mark + count + ats + string(sum)
}

// headOf gives the head that the document asks for.
func headOf(list []put) string {
	ats := ""
	for _, p := range list {
		ats += string([]byte{byte(p.At)})
	}
	return headWith("J", string([]byte{byte(len(list))}), ats, headSum(list))
}

func TestJournalNumbers(t *testing.T) {
	if impl.MaxHome != 48 || impl.EvWrite != 0 || impl.EvFlush != 1 {
		t.Error(impl.MaxHome, impl.EvWrite, impl.EvFlush)
	}
}

func TestTxOk(t *testing.T) {
	for _, n := range someHomes() {
		for name, c := range rightTxs() {
			if want := n >= c.least && n <= 48; impl.TxOk(n, c.list) != want {
				t.Errorf("%s: TxOk for %d is %t", name, n, !want)
			}
		}
		for name, list := range wrongTxs() {
			if impl.TxOk(n, list) {
				t.Errorf("%s: TxOk for %d is true", name, n)
			}
		}
	}
}

func TestTxOkOfEachPlace(t *testing.T) {
	for n := range 51 {
		for at := -2; at <= 51; at++ {
			if want := n >= 1 && n <= 48 && at >= 0 && at < n; impl.TxOk(n, txAt(at)) != want {
				t.Errorf("block %d: TxOk for %d is %t", at, n, !want)
			}
		}
	}
}

func TestTxOkAscends(t *testing.T) {
	for a := -1; a <= 4; a++ {
		for b := -1; b <= 4; b++ {
			if want := a >= 0 && a < b && b < 4; impl.TxOk(4, txAt(a, b)) != want {
				t.Errorf("blocks %d, %d: TxOk is %t", a, b, !want)
			}
			for c := -1; c <= 4; c++ {
				if want := a >= 0 && a < b && b < c && c < 4; impl.TxOk(4, txAt(a, b, c)) != want {
					t.Errorf("blocks %d, %d, %d: TxOk is %t", a, b, c, !want)
				}
			}
		}
	}
}

func TestTxOkLooksAtEachText(t *testing.T) {
	for i := range 48 {
		list := txAll(48)
		if list[i].Data = textOf(90); !impl.TxOk(48, list) {
			t.Errorf("90 bytes at %d: TxOk is false", i)
		}
		if list[i].Data = textOf(91); impl.TxOk(48, list) {
			t.Errorf("91 bytes at %d: TxOk is true", i)
		}
	}
}

func TestHeadText(t *testing.T) {
	for _, c := range []struct {
		list []put
		want string
	}{
		{txAt(0), "J\x01\x00\xe0\xe0\x07\xbb"},
		{[]put{{At: 5, Data: "new0"}}, "J\x01\x05\xe0\xe0\x07\xbb"},
		{[]put{{At: 0, Data: "new0"}, {At: 1, Data: ""}, {At: 47, Data: "new2"}}, "J\x03\x00\x01\x2f\xc4\xbe\x9e\x17"},
		{[]put{{At: 47, Data: ""}}, "J\x01\x2f\xd2\x02\xef\x8d"},
	} {
		if got := impl.HeadText(c.list); got != c.want {
			t.Errorf("HeadText(%v) = %q, want %q", c.list, got, c.want)
		}
	}
	for name, c := range rightTxs() {
		if got := impl.HeadText(c.list); got != headOf(c.list) || len(got) > 90 {
			t.Errorf("%s: HeadText = %q, want %q", name, got, headOf(c.list))
		}
	}
	for name, list := range wrongTxs() {
		if got := impl.HeadText(list); got != "" {
			t.Errorf("%s: HeadText = %q", name, got)
		}
	}
}

func TestHeadTextOfEachPlaceAndCount(t *testing.T) {
	for at := range 48 {
		want := headWith("J", "\x01", string(impl.PutNum(at)), headSum(txAt(at)))
		if got := impl.HeadText(txAt(at)); got != want || len(got) != 7 {
			t.Errorf("HeadText of block %d = %q, want %q", at, got, want)
		}
		list := txAll(at + 1)
		if got := impl.HeadText(list); got != headOf(list) || len(got) != 6+len(list) {
			t.Errorf("HeadText of %d = %q, want %q", len(list), got, headOf(list))
		}
	}
}

// Where one text ends and the next one begins counts, too.
func TestHeadTextTellsTextsApart(t *testing.T) {
	seen := map[string]string{}
	for _, list := range [][]put{
		txWith("ab", "c"), txWith("a", "bc"), txWith("abc", ""), txWith("", "abc"), txWith("c", "ab"), txWith("ab", "d"),
	} {
		head := impl.HeadText(list)
		if other, ok := seen[head]; ok {
			t.Errorf("HeadText of %v is that of %s", list, other)
		}
		seen[head] = fmt.Sprint(list)
	}
}

func wantNoHead(t *testing.T, s string, n int) {
	t.Helper()
	if ats, sum, ok := impl.HeadOf(s, n); len(ats) != 0 || sum != 0 || ok {
		t.Errorf("HeadOf(%q, %d) = %v, %d, %t", s, n, ats, sum, ok)
	}
}

func wantHead(t *testing.T, s string, n int, wantAts []int, wantSum int) {
	t.Helper()
	if ats, sum, ok := impl.HeadOf(s, n); !slices.Equal(ats, wantAts) || sum != wantSum || !ok {
		t.Errorf("HeadOf(%q, %d) = %v, %d, %t, want %v, %d", s, n, ats, sum, ok, wantAts, wantSum)
	}
}

func atsOf(list []put) []int {
	var ats []int
	for _, p := range list {
		ats = append(ats, p.At)
	}
	return ats
}

func TestHeadOfReadsHeadText(t *testing.T) {
	for _, c := range rightTxs() {
		sum := int(binary.BigEndian.Uint32(headSum(c.list)))
		for _, n := range someHomes() {
			if n >= c.least && n <= 48 {
				wantHead(t, impl.HeadText(c.list), n, atsOf(c.list), sum)
			} else {
				wantNoHead(t, impl.HeadText(c.list), n)
			}
		}
	}
}

// Each check sum is that of some texts, so each one is told as it stands.
func TestHeadOfTellsAnySum(t *testing.T) {
	for _, sum := range []uint32{0, 1, 255, 256, 1 << 16, 1 << 24, 0x01020304, 0x7fffffff, 0x80000000, 0x8081ff00, math.MaxUint32} {
		b := binary.BigEndian.AppendUint32(nil, sum)
		wantHead(t, headWith("J", "\x01", "\x00", b), 1, []int{0}, int(sum))
		wantHead(t, headWith("J", "\x02", "\x03\x05", b), 6, []int{3, 5}, int(sum))
	}
}

func TestHeadOfRefusesOtherSizes(t *testing.T) {
	for _, c := range rightTxs() {
		head := headOf(c.list)
		for size := range len(head) {
			wantNoHead(t, head[:size], 48)
			if size > 0 {
				wantNoHead(t, head[size:], 48)
			}
		}
		for more := range 256 {
			wantNoHead(t, head+string([]byte{byte(more)}), 48)
		}
		wantNoHead(t, "J"+head, 48)
		wantNoHead(t, head+head, 48)
	}
}

func TestHeadOfRefusesOtherMarks(t *testing.T) {
	for mark := range 256 {
		for _, c := range rightTxs() {
			if mark != 'J' {
				wantNoHead(t, string([]byte{byte(mark)})+headOf(c.list)[1:], 48)
			}
		}
	}
}

func TestHeadOfRefuses(t *testing.T) {
	sum := []byte{1, 2, 3, 4}
	for _, s := range []string{
		"", "J", "j", "J\x00", "J\x01", "J\x01\x00", "J\x80", "J\xff\xff\xff\xff\xff", "\x00", "?",
		headWith("J", "\x00", "", sum),
		headWith("J", "\x00", "\x00", sum),
		headWith("J", "\x00", "\x00\x01", sum),
		headWith("J", "\x01", "", sum),
		headWith("J", "\x01", "\x00\x01", sum),
		headWith("J", "\x01", "\x00\x01\x02", sum),
		headWith("J", "\x02", "\x00", sum),
		headWith("J", "\x03", "\x00", sum),
		headWith("J", "\x05", "\x00", sum),
		headWith("J", "\x06", "\x00", sum),
		headWith("J", "\x7f", "\x00\x01", sum),
		headWith("J", "\xff\xff\xff\xff\x07", "\x00\x01", sum),
		headWith("J", "\x80\x80\x80\x80\x08", "\x00\x01", sum),
		headWith("J", "\x02", "\x00\x00", sum),
		headWith("J", "\x02", "\x01\x00", sum),
		headWith("J", "\x03", "\x00\x02\x01", sum),
		headWith("J", "\x03", "\x00\x02\x02", sum),
		headWith("J", "\x03", "\x02\x01\x03", sum),
		headWith("J", "\x01", "\x30", sum),
		headWith("J", "\x02", "\x00\x30", sum),
		headWith("J", "\x01", "\x7f", sum),
		headWith("J", "\x01", "\x80\x01", sum),
		headWith("J", "\x01", "\xff\xff\xff\xff\x07", sum),
		headWith("J", "\x81\x00", "\x00", sum),
		headWith("J", "\x81\x80\x00", "\x00", sum),
		headWith("J", "\x01", "\x80\x00", sum),
		headWith("J", "\x01", "\x85\x00", sum),
		headWith("J", "\x02", "\x00\x85\x00", sum),
		headWith("J", "\x02", "\x85\x00\x06", sum),
		headOf(txAll(49)),
	} {
		for _, n := range []int{1, 2, 8, 47, 48} {
			wantNoHead(t, s, n)
		}
	}
}

// All rows of few bytes between the mark and the sum: the count is that of
// the places, and these ascend below n.
func TestHeadOfEachShortRow(t *testing.T) {
	sum := []byte{0, 1, 2, 128}
	everyText("\x00\x01\x02\x03\x80\x81", 4, func(s string) {
		head := "J" + s + string(sum)
		for _, n := range []int{0, 1, 2, 3, 4, 48, 49} {
			var want []int
			right := n >= 1 && n <= 48 && len(s) > 1 && int(s[0]) == len(s)-1
			for i := 1; right && i < len(s); i++ {
				right = int(s[i]) < n && (i == 1 || s[i-1] < s[i])
				want = append(want, int(s[i]))
			}
			if right {
				wantHead(t, head, n, want, 0x00010280)
			} else {
				wantNoHead(t, head, n)
			}
		}
	})
}

// A great text whose count is right but for the limit is gone through, and
// refused.
func TestHeadOfGreatTexts(t *testing.T) {
	for _, size := range []int{48, 49, 127, 128, 100000} {
		wantNoHead(t, headWith("J", string(impl.PutNum(size)), strings.Repeat("\x00", size), []byte{0, 0, 0, 0}), 48)
		wantNoHead(t, strings.Repeat("J", size), 48)
		wantNoHead(t, "J"+strings.Repeat("\xff", size), 48)
	}
}

func TestCommit(t *testing.T) {
	one := []event{
		{Kind: 0, At: 1, Data: "new0"}, {Kind: 1},
		{Kind: 0, At: 0, Data: "J\x01\x00\xe0\xe0\x07\xbb"}, {Kind: 1},
		{Kind: 0, At: 2, Data: "new0"}, {Kind: 1},
		{Kind: 0, At: 0, Data: ""}, {Kind: 1},
	}
	if got := impl.Commit(1, txAt(0)); !slices.Equal(got, one) {
		t.Errorf("Commit of one = %v", got)
	}
	three := []event{
		{Kind: 0, At: 1, Data: "new0"}, {Kind: 0, At: 2, Data: ""}, {Kind: 0, At: 3, Data: "new2"}, {Kind: 1},
		{Kind: 0, At: 0, Data: "J\x03\x00\x01\x2f\xc4\xbe\x9e\x17"}, {Kind: 1},
		{Kind: 0, At: 49, Data: "new0"}, {Kind: 0, At: 50, Data: ""}, {Kind: 0, At: 96, Data: "new2"}, {Kind: 1},
		{Kind: 0, At: 0, Data: ""}, {Kind: 1},
	}
	if got := impl.Commit(48, []put{{At: 0, Data: "new0"}, {At: 1, Data: ""}, {At: 47, Data: "new2"}}); !slices.Equal(got, three) {
		t.Errorf("Commit of three = %v", got)
	}
}

// commitOf gives the events that the document asks for.
func commitOf(n int, list []put) []event {
	flush := event{Kind: 1}
	var journal, home []event
	for k, p := range list {
		journal = append(journal, event{At: 1 + k, Data: p.Data})
		home = append(home, event{At: n + 1 + p.At, Data: p.Data})
	}
	head := []event{flush, {At: 0, Data: headOf(list)}, flush}
	return slices.Concat(journal, head, home, []event{flush, {At: 0}, flush})
}

func TestCommitOfSomeTxs(t *testing.T) {
	for _, n := range someHomes() {
		for name, c := range rightTxs() {
			var want []event
			if n >= c.least && n <= 48 {
				want = commitOf(n, c.list)
			}
			if got := impl.Commit(n, c.list); !slices.Equal(got, want) {
				t.Errorf("%s: Commit for %d = %v, want %v", name, n, got, want)
			}
		}
		for name, list := range wrongTxs() {
			if got := impl.Commit(n, list); len(got) != 0 {
				t.Errorf("%s: Commit for %d = %v", name, n, got)
			}
		}
	}
}

// Each write of a commit is taken by the least disk that it is for.
func TestCommitFitsItsDisk(t *testing.T) {
	for name, c := range rightTxs() {
		d := filledDisk(c.least)
		for _, e := range impl.Commit(c.least, c.list) {
			if e.Kind == impl.EvFlush {
				d = impl.Flush(d)
				continue
			}
			next, ok := impl.SectorWrite(d, e.At, e.Data)
			if d = next; !ok {
				t.Errorf("%s: the write of %d bytes to %d is refused", name, len(e.Data), e.At)
			}
		}
	}
}

func TestEventsDo(t *testing.T) {
	d := disk{Sectors: []string{"a", "b", "c"}, Pend: []put{{At: 2, Data: "early"}}}
	write := func(at int, data string) event { return event{Kind: impl.EvWrite, At: at, Data: data} }
	flush := event{Kind: impl.EvFlush}
	for _, c := range []struct {
		list []event
		want disk
	}{
		{nil, d},
		{[]event{}, d},
		{[]event{flush}, disk{Sectors: []string{"a", "b", "early"}}},
		{[]event{flush, flush}, disk{Sectors: []string{"a", "b", "early"}}},
		{[]event{write(1, "x")}, disk{Sectors: d.Sectors, Pend: []put{{At: 2, Data: "early"}, {At: 1, Data: "x"}}}},
		{[]event{write(1, "x"), write(1, "x")}, disk{Sectors: d.Sectors, Pend: []put{{At: 2, Data: "early"}, {At: 1, Data: "x"}, {At: 1, Data: "x"}}}},
		{[]event{write(1, "x"), flush, write(0, "y")}, disk{Sectors: []string{"a", "x", "early"}, Pend: []put{{At: 0, Data: "y"}}}},
		{[]event{write(2, ""), flush}, disk{Sectors: []string{"a", "b", ""}}},
		{[]event{write(0, "x"), write(0, "y"), flush}, disk{Sectors: []string{"y", "b", "early"}}},
		{[]event{write(-1, "x"), write(3, "x"), write(math.MinInt, ""), write(math.MaxInt, ""), write(1<<32, "")}, d},
		{[]event{write(1, textOf(91))}, d},
		{[]event{write(3, "x"), write(1, textOf(90)), write(1, textOf(91)), flush, write(-1, "x"), write(0, "y")}, disk{Sectors: []string{"a", textOf(90), "early"}, Pend: []put{{At: 0, Data: "y"}}}},
		{[]event{{Kind: 2, At: 1, Data: "x"}, {Kind: -1, At: 1, Data: "x"}, {Kind: math.MinInt}, {Kind: math.MaxInt}, {Kind: 1 << 32}, {Kind: 1<<32 + 1}}, d},
		{[]event{{Kind: 2}, write(1, "x"), {Kind: -1}, flush, {Kind: 3, At: 0, Data: "z"}}, disk{Sectors: []string{"a", "x", "early"}}},
		{[]event{{Kind: impl.EvFlush, At: 1, Data: "x"}}, disk{Sectors: []string{"a", "b", "early"}}},
		{[]event{{Kind: impl.EvFlush, At: -1, Data: textOf(91)}}, disk{Sectors: []string{"a", "b", "early"}}},
	} {
		if got := impl.EventsDo(d, c.list); !sameDisk(got, c.want) {
			t.Errorf("EventsDo of %v = %v, want %v", c.list, got, c.want)
		}
	}
}

func TestEventsDoUpToTheLimit(t *testing.T) {
	d := disk{Sectors: sectorsOf(7)}
	var list []event
	for _, p := range putsOf(402, 7) {
		list = append(list, event{At: p.At, Data: p.Data})
	}
	if got := impl.EventsDo(d, list); !sameDisk(got, disk{Sectors: d.Sectors, Pend: putsOf(400, 7)}) {
		t.Errorf("402 writes: %d are pending", len(got.Pend))
	}
	sure := settled(disk{Sectors: d.Sectors, Pend: putsOf(400, 7)}, slices.Repeat([]bool{true}, 400))
	list = append(list, event{Kind: impl.EvFlush}, event{At: 3, Data: "more"})
	if got := impl.EventsDo(d, list); !sameDisk(got, disk{Sectors: sure.Sectors, Pend: []put{{At: 3, Data: "more"}}}) {
		t.Errorf("402 writes, a flush and a write: %v", got)
	}
}

func TestEventsDoOfWrongDisks(t *testing.T) {
	list := []event{{At: 0, Data: "x"}, {Kind: impl.EvFlush}, {At: 1, Data: ""}, {Kind: 2}}
	for name, d := range wrongDisks() {
		for size := range len(list) + 1 {
			if got := impl.EventsDo(d, list[:size]); !sameDisk(got, d) {
				t.Errorf("%s: EventsDo of %d = %v", name, size, got)
			}
		}
	}
}

// All rows of few events are done as the calls alone would have done them.
func TestEventsDoOfEachShortRow(t *testing.T) {
	signs := []event{{At: 0, Data: "x"}, {At: 2, Data: "y"}, {At: 3, Data: "z"}, {Kind: 1}, {Kind: 2, At: 1, Data: "w"}}
	start := disk{Sectors: []string{"a", "b", "c"}, Pend: []put{{At: 2, Data: "d"}}}
	everyText("\x00\x01\x02\x03\x04", 4, func(s string) {
		var list []event
		want := start
		for i := range len(s) {
			e := signs[s[i]]
			list = append(list, e)
			switch s[i] {
			case 0, 1:
				want.Pend = append(slices.Clone(want.Pend), put{At: e.At, Data: e.Data})
			case 3:
				want = settled(want, slices.Repeat([]bool{true}, len(want.Pend)))
			}
		}
		if got := impl.EventsDo(start, list); !sameDisk(got, want) {
			t.Errorf("EventsDo of %v = %v, want %v", list, got, want)
		}
	})
}

// filledDisk is at rest, with n home blocks that are filled; its journal has
// what an earlier commit left.
func filledDisk(n int) disk {
	d := disk{Sectors: make([]string, 2*n+1)}
	for k := range n {
		d.Sectors[1+k] = fmt.Sprint("left", k)
		d.Sectors[n+1+k] = fmt.Sprint("old", k)
	}
	return d
}

// loggedDisk is a filledDisk with that list in its journal, and its head.
func loggedDisk(n int, list []put) disk {
	d := filledDisk(n)
	d.Sectors[0] = headOf(list)
	for k, p := range list {
		d.Sectors[1+k] = p.Data
	}
	return d
}

// doneDisk is the disk at rest with an empty head, and the list in its homes.
func doneDisk(d disk, n int, list []put) disk {
	out := disk{Sectors: slices.Clone(d.Sectors)}
	out.Sectors[0] = ""
	for _, p := range list {
		out.Sectors[n+1+p.At] = p.Data
	}
	return out
}

// pendingOn gives the disk with a write to each of its sectors pending.
func pendingOn(d disk) disk {
	for at := range d.Sectors {
		d.Pend = append(d.Pend, put{At: at, Data: fmt.Sprint("pending", at)})
	}
	return d
}

// A refusal is a disk that is not one for n home blocks.
type refusal struct {
	name string
	d    disk
	n    int
}

func refusals() []refusal {
	var list []refusal
	add := func(name string, d disk, n int) { list = append(list, refusal{name, d, n}) }
	for name, d := range wrongDisks() {
		for _, n := range []int{1, 2, 3, 48, 59, 60, 61} {
			add(name, d, n)
		}
	}
	long := pendingOn(loggedDisk(2, txAt(1)))
	long.Sectors[4] = textOf(91)
	add("a home block of 91", long, 2)
	for n := 1; n <= 48; n++ {
		d := pendingOn(loggedDisk(n, txAt(0)))
		for _, other := range someHomes() {
			if other != n {
				add("another n", d, other)
			}
		}
		add("a sector too many", disk{Sectors: append(slices.Clone(d.Sectors), "more"), Pend: d.Pend}, n)
		add("a sector too few", disk{Sectors: d.Sectors[:2*n], Pend: d.Pend[:2*n]}, n)
	}
	for n := 49; n <= 59; n++ {
		add("n beyond MaxHome", pendingOn(loggedDisk(n, txAt(0))), n)
	}
	for _, n := range []int{math.MinInt, -1, 0, 1, 1 << 62} {
		add("one sector", pendingOn(disk{Sectors: []string{headOf(txAt(0))}}), n)
		add("no sector", disk{}, n)
	}
	add("the least n and more, three sectors", pendingOn(loggedDisk(1, txAt(0))), math.MinInt+1)
	return list
}

func TestRecoverRefuses(t *testing.T) {
	for _, c := range refusals() {
		if got := impl.Recover(c.d, c.n); !sameDisk(got, c.d) {
			t.Errorf("%s: Recover of %v for %d = %v", c.name, c.d, c.n, got)
		}
	}
}

// wantRecovered asks for that disk, with writes pending and without, and that
// a second Recover turns nothing.
func wantRecovered(t *testing.T, d disk, n int, want disk) {
	t.Helper()
	for _, start := range []disk{d, pendingOn(d)} {
		got := impl.Recover(start, n)
		if !sameDisk(got, want) || len(got.Pend) != 0 || got.Sectors[0] != "" {
			t.Errorf("Recover of %v for %d = %v, want %v", start, n, got, want)
			return
		}
		if again := impl.Recover(got, n); !sameDisk(again, got) {
			t.Errorf("Recover of Recover, %v, = %v", got, again)
		}
	}
}

func TestRecoverOfAnEmptyHead(t *testing.T) {
	for n := 1; n <= 48; n++ {
		fresh, _ := impl.DiskNew(2*n + 1)
		wantRecovered(t, fresh, n, fresh)
		wantRecovered(t, filledDisk(n), n, filledDisk(n))
	}
}

func TestRecoverPutsWhatIsLogged(t *testing.T) {
	for _, c := range rightTxs() {
		for n := c.least; n <= 48; n++ {
			d := loggedDisk(n, c.list)
			wantRecovered(t, d, n, doneDisk(d, n, c.list))
		}
	}
}

func TestRecoverLiteral(t *testing.T) {
	d := disk{
		Sectors: []string{"J\x03\x00\x01\x02\xc4\xbe\x9e\x17", "new0", "", "new2", "left3", "old0", "old1", "old2", "old3"},
		Pend:    []put{{At: 0, Data: ""}, {At: 1, Data: "lost"}, {At: 8, Data: "lost"}},
	}
	want := []string{"", "new0", "", "new2", "left3", "new0", "", "new2", "old3"}
	if got := impl.Recover(d, 4); !sameDisk(got, disk{Sectors: want}) {
		t.Errorf("Recover = %v", got)
	}
}

func TestRecoverOfATurnedByte(t *testing.T) {
	for _, c := range rightTxs() {
		d := loggedDisk(c.least, c.list)
		none := doneDisk(d, c.least, nil)
		for at := 1; at <= len(c.list); at++ {
			for i := range len(d.Sectors[at]) {
				b := []byte(d.Sectors[at])
				b[i] ^= 1 << (i % 8)
				turned := disk{Sectors: slices.Clone(d.Sectors)}
				turned.Sectors[at] = string(b)
				want := disk{Sectors: slices.Clone(none.Sectors)}
				want.Sectors[at] = string(b)
				if got := impl.Recover(turned, c.least); !sameDisk(got, want) {
					t.Fatalf("byte %d of journal sector %d turned: Recover = %v", i, at, got)
				}
			}
		}
		for i := range 32 {
			b := []byte(d.Sectors[0])
			b[len(b)-4+i/8] ^= 1 << (i % 8)
			turned := disk{Sectors: slices.Clone(d.Sectors)}
			turned.Sectors[0] = string(b)
			wantRecovered(t, turned, c.least, none)
		}
	}
}

// A text that is made longer or shorter, or that stands in another's place, is
// not what was logged.
func TestRecoverOfOtherTexts(t *testing.T) {
	d := loggedDisk(3, txWith("ab", "c"))
	for _, texts := range [][]string{{"a", "bc"}, {"abc", ""}, {"c", "ab"}, {"ab", ""}, {"ab", "cc"}, {"", ""}, {"left0", "left1"}} {
		turned := disk{Sectors: slices.Clone(d.Sectors)}
		copy(turned.Sectors[1:], texts)
		wantRecovered(t, turned, 3, doneDisk(turned, 3, nil))
	}
}

// What stands in the journal behind what the head counts is not looked at.
func TestRecoverLooksAtNoMoreThanTheHeadCounts(t *testing.T) {
	d := loggedDisk(4, txAt(1, 2))
	d.Sectors[3], d.Sectors[4] = "what", "ever"
	wantRecovered(t, d, 4, doneDisk(d, 4, txAt(1, 2)))
}

func TestRecoverOfOtherHeads(t *testing.T) {
	for _, head := range []string{
		"J", "?", "new0", textOf(90), headOf(txAt(0))[:6], headOf(txAt(0)) + "x", "j" + headOf(txAt(0))[1:],
		headOf(txAll(4)), headWith("J", "\x00", "", headSum(nil)), headWith("J", "\x81\x00", "\x00", headSum(txAt(0))),
	} {
		d := loggedDisk(3, txAll(3))
		d.Sectors[0] = head
		wantRecovered(t, d, 3, doneDisk(d, 3, nil))
	}
	for _, list := range [][]put{txAt(3), txAt(47), txAt(48), txAt(0, 3), txAt(1, 0), txAt(0, 0), txAt(0, 2, 1)} {
		d := loggedDisk(3, list)
		wantRecovered(t, d, 3, doneDisk(d, 3, nil))
	}
	// A head of a greater disk, and one of this disk, with the same check sum.
	d := filledDisk(3)
	d.Sectors[0], d.Sectors[1] = headWith("J", "\x01", "\x03", headSum(txAt(0))), "new0"
	wantRecovered(t, d, 3, doneDisk(d, 3, nil))
	d.Sectors[0] = headWith("J", "\x01", "\x02", headSum(txAt(0)))
	wantRecovered(t, d, 3, doneDisk(d, 3, []put{{At: 2, Data: "new0"}}))
}

func TestRecoverOfWhatIsPending(t *testing.T) {
	list := txAt(0, 2)
	logged := loggedDisk(3, list)
	for _, c := range []struct {
		name string
		d    disk
		want disk
	}{
		{"a head", disk{Sectors: doneDisk(logged, 3, nil).Sectors, Pend: []put{{At: 0, Data: headOf(list)}}}, doneDisk(logged, 3, nil)},
		{"an empty head", disk{Sectors: logged.Sectors, Pend: []put{{At: 0, Data: ""}}}, doneDisk(logged, 3, list)},
		{"another head", disk{Sectors: logged.Sectors, Pend: []put{{At: 0, Data: headOf(txAt(1))}}}, doneDisk(logged, 3, list)},
		{"the journal", disk{Sectors: logged.Sectors, Pend: []put{{At: 1, Data: "x"}, {At: 2, Data: "y"}}}, doneDisk(logged, 3, list)},
		{"home blocks", disk{Sectors: logged.Sectors, Pend: []put{{At: 4, Data: "x"}, {At: 5, Data: "y"}}}, doneDisk(logged, 3, list)},
	} {
		if got := impl.Recover(c.d, 3); !sameDisk(got, c.want) {
			t.Errorf("%s pending: Recover = %v, want %v", c.name, got, c.want)
		}
	}
	journal := disk{Sectors: filledDisk(3).Sectors, Pend: []put{{At: 1, Data: "new0"}, {At: 2, Data: "new2"}}}
	journal.Sectors[0] = headOf(list)
	if got := impl.Recover(journal, 3); !sameDisk(got, filledDisk(3)) {
		t.Errorf("the journal is pending below a sure head: Recover = %v", got)
	}
}

func TestHomeOf(t *testing.T) {
	for n := 1; n <= 48; n++ {
		fresh, _ := impl.DiskNew(2*n + 1)
		if got := impl.HomeOf(fresh, n); !slices.Equal(got, make([]string, n)) {
			t.Errorf("HomeOf a new disk for %d = %q", n, got)
		}
		d := filledDisk(n)
		if got := impl.HomeOf(d, n); !slices.Equal(got, d.Sectors[n+1:]) {
			t.Errorf("HomeOf a filled disk for %d = %q", n, got)
		}
		for k := range n {
			d.Pend = []put{{At: n + 1 + k, Data: "early"}, {At: 0, Data: "head"}, {At: 1 + k, Data: "journal"}, {At: n + 1 + k, Data: "late"}}
			want := slices.Clone(d.Sectors[n+1:])
			if want[k] = "late"; !slices.Equal(impl.HomeOf(d, n), want) {
				t.Errorf("block %d is pending: HomeOf for %d = %q", k, n, impl.HomeOf(d, n))
			}
			d.Pend[3].Data, want[k] = "", ""
			if got := impl.HomeOf(d, n); !slices.Equal(got, want) {
				t.Errorf("block %d is pending, and empty: HomeOf for %d = %q", k, n, got)
			}
			if got := impl.HomeOf(impl.Flush(d), n); !slices.Equal(got, want) {
				t.Errorf("block %d is sure: HomeOf for %d = %q", k, n, got)
			}
		}
	}
	d := loggedDisk(3, txAt(0, 2))
	if got := impl.HomeOf(d, 3); !slices.Equal(got, []string{"old0", "old1", "old2"}) {
		t.Errorf("HomeOf ahead of Recover = %q", got)
	}
}

func TestHomeOfRefuses(t *testing.T) {
	for _, c := range refusals() {
		if got := impl.HomeOf(c.d, c.n); len(got) != 0 {
			t.Errorf("%s: HomeOf %v for %d = %q", c.name, c.d, c.n, got)
		}
	}
}

// keepsOf gives every choice where few are pending, else many.
func keepsOf(n int) [][]bool {
	var list [][]bool
	if n <= 5 {
		eachKeep(n, func(keep []bool) { list = append(list, keep) })
		return list
	}
	add := func(kept func(i int) bool) {
		keep := make([]bool, n)
		for i := range keep {
			keep[i] = kept(i)
		}
		list = append(list, keep)
	}
	for at := range n + 1 {
		add(func(i int) bool { return i == at })
		add(func(i int) bool { return i != at })
		add(func(i int) bool { return i < at })
		add(func(i int) bool { return i >= at })
	}
	seed := uint32(n)
	for range 24 {
		add(func(int) bool {
			seed = seed*1664525 + 1013904223
			return seed>>31 == 1
		})
	}
	return list
}

// eachFall gives the disk behind a fall at every place within the events, with
// how many of these were done.
func eachFall(d disk, events []event, each func(done int, keep []bool, fallen disk)) {
	for done := range len(events) + 1 {
		x := impl.EventsDo(d, events[:done])
		for _, keep := range keepsOf(len(x.Pend)) {
			each(done, keep, impl.Fall(x, keep))
		}
	}
}

// someCommits are onto a filledDisk for n.
func someCommits() map[string]struct {
	n    int
	list []put
} {
	return map[string]struct {
		n    int
		list []put
	}{
		"one of one":       {1, txAt(0)},
		"one of three":     {3, txAt(1)},
		"two of three":     {3, txAt(0, 2)},
		"all of four":      {4, txAll(4)},
		"five of seven":    {7, txAt(0, 2, 3, 5, 6)},
		"some as they are": {3, []put{{At: 0, Data: "old0"}, {At: 1, Data: "new1"}, {At: 2, Data: "old2"}}},
		"some emptied":     {3, []put{{At: 0, Data: ""}, {At: 2, Data: ""}}},
		"texts of others":  {3, []put{{At: 0, Data: "old1"}, {At: 1, Data: "old0"}}},
		"as it was left":   {3, []put{{At: 0, Data: "left0"}, {At: 2, Data: "left1"}}},
		"great texts":      {2, txWith(textOf(90), everyByte()[:90])},
		"nine of 48":       {48, txAt(0, 1, 7, 8, 20, 31, 32, 46, 47)},
		"all of 48":        {48, txAll(48)},
	}
}

// Promise 4. Ahead of the head nothing of the commit is there, behind the
// flush of the head all of it; between them it hangs on whether the head was
// kept.
func TestAllOrNothing(t *testing.T) {
	for name, c := range someCommits() {
		d := filledDisk(c.n)
		ahead := d.Sectors[c.n+1:]
		behind := doneDisk(d, c.n, c.list).Sectors[c.n+1:]
		events := impl.Commit(c.n, c.list)
		if got := impl.HomeOf(impl.EventsDo(d, events), c.n); !slices.Equal(got, behind) {
			t.Fatalf("%s: behind all events HomeOf is %q", name, got)
		}
		eachFall(d, events, func(done int, keep []bool, fallen disk) {
			head := done == len(c.list)+2 && len(keep) > 0 && keep[0]
			want := ahead
			if head || done > len(c.list)+2 {
				want = behind
			}
			got := impl.Recover(fallen, c.n)
			if home := impl.HomeOf(got, c.n); !slices.Equal(home, want) {
				t.Fatalf("%s: %d of %d events, %v kept: HomeOf is %q", name, done, len(events), keep, home)
			}
			if got.Sectors[0] != "" || len(got.Pend) != 0 {
				t.Fatalf("%s: %d of %d events, %v kept: the disk is not at rest: %v", name, done, len(events), keep, got)
			}
		})
	}
}

// recoverEvents are the writes that a Recover on a real disk would do, the head
// behind all others.
func recoverEvents(fallen disk, done disk) []event {
	var list []event
	for at := len(fallen.Sectors) - 1; at >= 0; at-- {
		if at == 0 {
			list = append(list, event{Kind: impl.EvFlush})
		}
		if fallen.Sectors[at] != done.Sectors[at] {
			list = append(list, event{At: at, Data: done.Sectors[at]})
		}
	}
	return append(list, event{Kind: impl.EvFlush})
}

// Promise 4, where the power fails within the recovery, too: it is done again,
// and comes to the same end.
func TestRecoverThatFalls(t *testing.T) {
	for name, c := range someCommits() {
		if len(c.list) > 5 {
			continue
		}
		eachFall(filledDisk(c.n), impl.Commit(c.n, c.list), func(done int, _ []bool, fallen disk) {
			want := impl.Recover(fallen, c.n)
			eachFall(fallen, recoverEvents(fallen, want), func(step int, keep []bool, again disk) {
				if got := impl.Recover(again, c.n); !sameDisk(got, want) {
					t.Fatalf("%s: %d events, then %d of the recovery, %v kept: %v, want %v", name, done, step, keep, got, want)
				}
			})
		})
	}
}

// Promise 4 of a commit onto what another one left, that was done or fell.
func TestAllOrNothingBehindAnother(t *testing.T) {
	first, next := txAt(0, 2), []put{{At: 0, Data: "next0"}, {At: 1, Data: "new2"}}
	for _, second := range [][]put{next, first, next[:1], {{At: 2, Data: "new0"}}} {
		eachFall(filledDisk(3), impl.Commit(3, first), func(done int, _ []bool, fallen disk) {
			d := impl.Recover(fallen, 3)
			ahead := d.Sectors[4:]
			behind := doneDisk(d, 3, second).Sectors[4:]
			events := impl.Commit(3, second)
			eachFall(d, events, func(step int, keep []bool, again disk) {
				home := impl.HomeOf(impl.Recover(again, 3), 3)
				if !slices.Equal(home, ahead) && !slices.Equal(home, behind) || step == len(events) && !slices.Equal(home, behind) {
					t.Fatalf("%d events, then %d of %v, %v kept: HomeOf is %q", done, step, second, keep, home)
				}
			})
		})
	}
}

// roomyList gives a copy of the list with spare room behind it, and a function
// that tells whether all of it is as it was.
func roomyList[T comparable](list []T, spare ...T) ([]T, func() bool) {
	whole := append(slices.Clone(list), spare...)
	was := slices.Clone(whole)
	return whole[:len(list)], func() bool { return slices.Equal(whole, was) }
}

// someRows are events that are taken, refused, and of no kind.
func someRows() [][]event {
	return [][]event{
		nil,
		{{Kind: impl.EvFlush}},
		{{At: 0, Data: "x"}, {At: 1, Data: "y"}},
		{{At: 0, Data: "x"}, {Kind: impl.EvFlush}, {At: 1, Data: "y"}},
		{{At: -1, Data: "x"}, {At: 1000, Data: "y"}, {At: 0, Data: textOf(91)}},
		{{Kind: 2, At: 0, Data: "x"}, {Kind: -1, At: 1, Data: "y"}},
		impl.Commit(3, txAt(0, 2)),
	}
}

// journalDisks are disks of every kind, some with a journal to be done.
func journalDisks() map[string]disk {
	all := allDisks()
	for n := 1; n <= 4; n++ {
		all[fmt.Sprint("filled for ", n)] = filledDisk(n)
		all[fmt.Sprint("logged for ", n)] = loggedDisk(n, txAll(n))
		all[fmt.Sprint("pending for ", n)] = pendingOn(loggedDisk(n, txAt(n-1)))
	}
	return all
}

func TestJournalLeavesLists(t *testing.T) {
	for name, list := range someTxs() {
		room, same := roomyList(list, put{At: 7, Data: "spare"}, put{At: 8, Data: "room"})
		for _, n := range []int{-1, 0, 1, 3, 8, 48, 49} {
			impl.TxOk(n, room)
			impl.HeadText(room)
			events := impl.Commit(n, room)
			if !same() {
				t.Fatalf("%s: the list was changed", name)
			}
			for _, e := range events {
				for _, p := range list {
					if shareText(e.Data, p.Data) {
						t.Fatalf("%s: Commit answers a text of its argument", name)
					}
				}
			}
		}
	}
}

func TestJournalLeavesDisks(t *testing.T) {
	for name, d := range journalDisks() {
		room, same := roomyDisk(d)
		want := func(call string, got disk) {
			t.Helper()
			if !same() {
				t.Fatalf("%s: %s changed its argument", name, call)
			}
			if sharesText(textsOf(got), textsOf(room)) {
				t.Fatalf("%s: %s answers a text of its argument", name, call)
			}
			if sharesText(got.Sectors, textsOf(disk{Pend: got.Pend})) {
				t.Fatalf("%s: %s answers two lists that share a text", name, call)
			}
			if overwrite(got); !same() {
				t.Fatalf("%s: %s answers its argument's memory", name, call)
			}
		}
		for _, n := range []int{-1, 0, 1, 2, 3, 4, 48, 49} {
			want(fmt.Sprint("Recover for ", n), impl.Recover(room, n))
			want(fmt.Sprint("HomeOf for ", n), disk{Sectors: impl.HomeOf(room, n)})
		}
		for i, row := range someRows() {
			list, rowSame := roomyList(row, event{Kind: 1, At: 7, Data: "spare"}, event{At: 8, Data: "room"})
			got := impl.EventsDo(room, list)
			for _, e := range row {
				if sharesText(textsOf(got), []string{e.Data}) {
					t.Fatalf("%s: EventsDo of row %d answers a text of an event", name, i)
				}
			}
			want(fmt.Sprint("EventsDo of row ", i), got)
			if !rowSame() {
				t.Fatalf("%s: EventsDo of row %d changed it", name, i)
			}
		}
	}
}

func TestHeadOfAnswersNewMemory(t *testing.T) {
	head := headOf(txAt(1, 2, 3))
	first, _, _ := impl.HeadOf(head, 4)
	second, _, _ := impl.HeadOf(head, 4)
	if sharesList(first, second) {
		t.Error("HeadOf answers one list twice")
	}
}
