package tests

import (
	"fmt"
	"math"
	"slices"
	"strings"
	"testing"

	"loop.example/g00483/impl"
)

// someSizes are those at which a block more is needed, and beside them.
var someSizes = []int{0, 1, 15, 16, 17, 32, 79, 80}

// layouts are the blocks of one node, as many of the first ones as it needs.
func layouts() map[string][]int {
	return map[string][]int{
		"in order":       {0, 1, 2, 3, 4},
		"behind others":  {6, 7, 8, 9, 10},
		"turned round":   {8, 7, 6, 5, 4},
		"others between": {1, 3, 5, 7, 9},
		"in no order":    {6, 0, 11, 3, 9},
	}
}

// heldBy gives what a node of that size holds that rooted has put at that place.
func heldBy(size int, place int) string {
	s := ""
	for i := range neededBlocks(size) {
		s += piece(size, i, place)
	}
	return s
}

// textFor gives so many bytes, none of them one that a branch is filled with.
func textFor(size int) string {
	var b []byte
	for i := range size {
		b = append(b, byte('A'+i*11%26))
	}
	return string(b)
}

// cutUp gives a text in pieces of a block.
func cutUp(s string) []string {
	var list []string
	for ; len(s) > 16; s = s[16:] {
		list = append(list, s[:16])
	}
	if s != "" {
		list = append(list, s)
	}
	return list
}

// housed gives branches of 20 data in which a node of that size has the first
// ones of these blocks, by the place that it has; a file of five blocks has the
// lowest of the others.
func housed(size int, blocks []int, each func(kind string, f fs, i int)) {
	n := node{Kind: impl.NdFile, Gen: 3, Time: 4, Size: size, Blocks: blocks[:neededBlocks(size)]}
	link, dir := n, n
	link.Kind, dir.Kind, dir.Gen, dir.Time = impl.NdLink, impl.NdDir, 0, 0
	var others []int
	for at := 0; len(others) < 5; at++ {
		if !slices.Contains(blocks, at) {
			others = append(others, at)
		}
	}
	root, other := node{Kind: impl.NdDir}, file(80, others...)
	each("a file", rooted(5, 20, root, other, n), 2)
	each("a directory", rooted(5, 20, root, dir, other), 1)
	each("a link", rooted(5, 20, root, node{}, other, node{}, link), 4)
	each("the root", rooted(5, 20, dir, other), 0)
}

// noPlaces are those at which a branch has no node.
func noPlaces(f fs) []int {
	return []int{-1, len(f.Nodes), len(f.Nodes) + 1, 100, -100, 1 << 32, -1 << 32, math.MinInt, math.MaxInt}
}

// manyPlaces are those, and each at which there is one.
func manyPlaces(f fs) []int {
	list := noPlaces(f)
	for i := range f.Nodes {
		list = append(list, i)
	}
	return list
}

// isUsed tells whether what lies at that place can be read.
func isUsed(f fs, i int) bool {
	return isShaped(f) && i >= 0 && i < len(f.Nodes) && f.Nodes[i].Kind != 0
}

// read gives what a node holds, as the document says it.
func read(f fs, i int) string {
	s := ""
	for _, at := range f.Nodes[i].Blocks {
		s += f.Data[at]
	}
	return s
}

// written gives the branch behind a write, as the document says it; nil, where
// it is refused. Which blocks are free it takes from the nodes alone.
func written(f fs, i int, data string) *fs {
	if !isUsed(f, i) || len(data) > 80 {
		return nil
	}
	g := copied(f)
	old, pieces := f.Nodes[i].Blocks, cutUp(data)
	blocks := slices.Clone(old[:min(len(old), len(pieces))])
	for at := 0; at < len(f.Data) && len(blocks) < len(pieces); at++ {
		if !slices.ContainsFunc(f.Nodes, func(n node) bool { return slices.Contains(n.Blocks, at) }) {
			blocks = append(blocks, at)
		}
	}
	if len(blocks) < len(pieces) {
		return nil
	}
	for _, at := range old {
		g.Data[at] = ""
	}
	for k, at := range blocks {
		g.Data[at] = pieces[k]
	}
	g.Nodes[i].Size, g.Nodes[i].Blocks = len(data), blocks
	return &g
}

// dropped gives the branch without that node, as the document says it; nil,
// where it is refused.
func dropped(f fs, i int) *fs {
	if !isUsed(f, i) || i == 0 {
		return nil
	}
	g := copied(f)
	for _, at := range f.Nodes[i].Blocks {
		g.Data[at] = ""
	}
	g.Nodes[i] = node{}
	return &g
}

// made gives the branch with another node, as the document says it, and its
// place; nil and -1, where it is refused.
func made(f fs, kind int) (*fs, int) {
	if !isShaped(f) || kind < 1 || kind > 3 {
		return nil, -1
	}
	for i, n := range f.Nodes {
		if n.Kind == 0 {
			g := withNode(f, i, node{Kind: kind})
			return &g, i
		}
	}
	return nil, -1
}

func wantRead(t *testing.T, f fs, i int, want string) {
	t.Helper()
	if got, ok := impl.NodeRead(f, i); !ok || got != want {
		t.Fatalf("NodeRead(%v, %d) = %q, %t, want %q", f, i, got, ok, want)
	}
}

func wantNoRead(t *testing.T, f fs, i int) {
	t.Helper()
	if got, ok := impl.NodeRead(f, i); ok || got != "" {
		t.Fatalf("NodeRead(%v, %d) = %q, %t", f, i, got, ok)
	}
}

// wantTurned asks for a branch that was made of another one, or for that one
// and false.
func wantTurned(t *testing.T, call string, f fs, got fs, ok bool, want *fs) {
	t.Helper()
	if want == nil {
		if ok || !sameFs(got, f) {
			t.Fatalf("%s of %v = %v, %t, want it as it was", call, f, got, ok)
		}
		return
	}
	if !ok || !sameFs(got, *want) || !impl.ShapeOk(got) {
		t.Fatalf("%s of %v = %v, %t, want %v", call, f, got, ok, *want)
	}
}

// wantWritten asks for what the document says, and tells whether it is taken.
func wantWritten(t *testing.T, f fs, i int, data string) bool {
	t.Helper()
	want := written(f, i, data)
	got, ok := impl.NodeWrite(f, i, data)
	wantTurned(t, fmt.Sprintf("NodeWrite of %q at %d", data, i), f, got, ok, want)
	if ok {
		wantRead(t, got, i, data)
	}
	return ok
}

func wantDropped(t *testing.T, f fs, i int) bool {
	t.Helper()
	got, ok := impl.NodeDrop(f, i)
	wantTurned(t, fmt.Sprint("NodeDrop at ", i), f, got, ok, dropped(f, i))
	return ok
}

func wantMade(t *testing.T, f fs, kind int) bool {
	t.Helper()
	want, place := made(f, kind)
	got, i, ok := impl.NodeMake(f, kind)
	wantTurned(t, fmt.Sprint("NodeMake of kind ", kind), f, got, ok, want)
	if i != place {
		t.Fatalf("NodeMake(%v, %d) makes node %d, want %d", f, kind, i, place)
	}
	return ok
}

func TestNodeRead(t *testing.T) {
	for name, blocks := range layouts() {
		for _, size := range someSizes {
			housed(size, blocks, func(kind string, f fs, i int) {
				if got, ok := impl.NodeRead(f, i); !ok || got != heldBy(size, i) || len(got) != size {
					t.Errorf("%s, %s of %d bytes: NodeRead is %q, %t, want %q", name, kind, size, got, ok, heldBy(size, i))
				}
			})
		}
	}
	f := branch(4, 6, node{Kind: 3, Size: 19, Blocks: []int{5, 1}}, node{}, file(2, 3))
	f.Data = []string{"", "ghi", "", "\x00\xff", "", "0123456789abcdef"}
	wantRead(t, f, 0, "")
	wantRead(t, f, 1, "0123456789abcdefghi")
	wantNoRead(t, f, 2)
	wantRead(t, f, 3, "\x00\xff")
}

func TestNodeReadOfEachNode(t *testing.T) {
	for _, f := range rightBranches() {
		for _, i := range manyPlaces(f) {
			if isUsed(f, i) {
				wantRead(t, f, i, read(f, i))
			} else {
				wantNoRead(t, f, i)
			}
		}
	}
}

func TestNodeReadOfWrongBranches(t *testing.T) {
	for _, f := range wrongBranches() {
		for _, i := range manyPlaces(f) {
			wantNoRead(t, f, i)
		}
	}
}

// Of a branch whose blocks 1, 4, 5 and 9 are another file's, and that has two
// free ones more than the greatest write needs.
func TestNodeWriteTakesTheLowest(t *testing.T) {
	for _, c := range []struct {
		had  []int
		size int
		data int
		want []int
	}{
		{nil, 0, 0, nil},
		{nil, 0, 1, []int{0}},
		{nil, 0, 16, []int{0}},
		{nil, 0, 17, []int{0, 2}},
		{nil, 0, 32, []int{0, 2}},
		{nil, 0, 80, []int{0, 2, 3, 6, 7}},
		{[]int{8}, 5, 0, nil},
		{[]int{8}, 5, 1, []int{8}},
		{[]int{8}, 5, 16, []int{8}},
		{[]int{8}, 16, 17, []int{8, 0}},
		{[]int{8}, 16, 80, []int{8, 0, 2, 3, 6}},
		{[]int{3, 8}, 32, 80, []int{3, 8, 0, 2, 6}},
		{[]int{8, 3}, 17, 80, []int{8, 3, 0, 2, 6}},
		{[]int{2, 0}, 17, 49, []int{2, 0, 3, 6}},
		{[]int{10, 2, 7}, 33, 33, []int{10, 2, 7}},
		{[]int{10, 2, 7}, 33, 32, []int{10, 2}},
		{[]int{10, 2, 7}, 48, 1, []int{10}},
		{[]int{10, 2, 7}, 48, 64, []int{10, 2, 7, 0}},
		{[]int{10, 2, 7, 0, 8}, 80, 65, []int{10, 2, 7, 0, 8}},
		{[]int{10, 2, 7, 0, 8}, 80, 64, []int{10, 2, 7, 0}},
		{[]int{10, 2, 7, 0, 8}, 65, 16, []int{10}},
		{[]int{10, 2, 7, 0, 8}, 80, 0, nil},
	} {
		f := branch(4, 12, file(c.size, c.had...), file(64, 9, 1, 5, 4))
		data := textFor(c.data)
		got, ok := impl.NodeWrite(f, 1, data)
		n := node{Kind: 1, Gen: 3, Time: 4, Size: c.data, Blocks: c.want}
		if !ok || len(got.Nodes) != 4 || !sameNode(got.Nodes[1], n) || !sameNode(got.Nodes[2], f.Nodes[2]) {
			t.Errorf("%d bytes over %v: %v, %t, want %v", c.data, c.had, got, ok, n)
			continue
		}
		want := slices.Clone(branch(4, 12, node{}, f.Nodes[2]).Data)
		for k, at := range c.want {
			want[at] = cutUp(data)[k]
		}
		if !slices.Equal(got.Data, want) {
			t.Errorf("%d bytes over %v: Data %q, want %q", c.data, c.had, got.Data, want)
		}
	}
}

// From each of some sizes to each other one, into nodes of every kind.
func TestNodeWriteOfEachSize(t *testing.T) {
	for name, blocks := range layouts() {
		for _, size := range someSizes {
			housed(size, blocks, func(kind string, f fs, i int) {
				for data := range 100 {
					if ok := wantWritten(t, f, i, textFor(data)); ok != (data <= 80) {
						t.Errorf("%s, %s of %d bytes: NodeWrite of %d is %t", name, kind, size, data, ok)
					}
				}
				wantWritten(t, f, i, textFor(1000))
				wantWritten(t, f, i, textFor(100000))
			})
		}
	}
}

func TestNodeWriteLeavesKindGenAndTime(t *testing.T) {
	for _, n := range []node{
		{Kind: 1}, {Kind: 1, Gen: 1000000, Time: 100000}, {Kind: 2}, {Kind: 3, Gen: 7}, {Kind: 3, Time: 9},
		{Kind: 1, Gen: 5, Time: 6, Size: 40, Blocks: []int{3, 1, 2}}, {Kind: 2, Size: 40, Blocks: []int{3, 1, 2}},
	} {
		for _, size := range someSizes {
			got, ok := impl.NodeWrite(branch(4, 9, node{}, n), 2, textFor(size))
			if !ok || got.Nodes[2].Kind != n.Kind || got.Nodes[2].Gen != n.Gen || got.Nodes[2].Time != n.Time || got.Nodes[2].Size != size {
				t.Errorf("%d bytes into %v: %v, %t", size, n, got.Nodes[2], ok)
			}
		}
	}
}

// With as many free blocks as are needed, fewer and more, wherever the blocks of
// the node and those that are free lie.
func TestNodeWriteIntoWhatIsFree(t *testing.T) {
	next := dice(3)
	for had := range 6 {
		for free := range 6 {
			for range 12 {
				f := shuffled(had, free, next)
				if !isShaped(f) || freeIn(f) != free {
					t.Fatalf("%d free: %v", free, f)
				}
				for size := range 81 {
					if ok := wantWritten(t, f, 2, textFor(size)); ok != (neededBlocks(size)-had <= free) {
						t.Errorf("%d bytes over %d blocks, %d free: %t", size, had, free, ok)
					}
				}
			}
		}
	}
}

// shuffled gives a branch in which node 2 has so many blocks, so many are free,
// and other files have four, in any order.
func shuffled(had int, free int, next func(below int) int) fs {
	places := blocksUpTo(had+free+3, had+free+4)
	for i := range places {
		k := i + next(len(places)-i)
		places[i], places[k] = places[k], places[i]
	}
	return branch(4, len(places), file(32, places[:2]...), file(16*had, places[4:4+had]...), file(32, places[2:4]...))
}

func TestNodeWriteOfFullBranch(t *testing.T) {
	f := fullBranch()
	for i, n := range f.Nodes {
		for size := range 82 {
			want := n.Kind != 0 && neededBlocks(size) <= len(n.Blocks) && size <= 80
			if got := wantWritten(t, f, i, textFor(size)); got != want {
				t.Errorf("%d bytes into node %d: %t", size, i, got)
			}
		}
	}
}

func TestNodeWriteOfEachByte(t *testing.T) {
	f := branch(3, 9, file(40, 5, 1, 3))
	for c := range 256 {
		for _, size := range []int{1, 16, 17, 80} {
			data := strings.Repeat(string([]byte{byte(c)}), size)
			if !wantWritten(t, f, 1, data) || !wantWritten(t, f, 0, data) {
				t.Errorf("%d times the byte %d is refused", size, c)
			}
		}
	}
	for _, data := range []string{
		"\x00", "\x00\x00", "a\x00b", "\x00" + textFor(15) + "\x00", textFor(16) + "\x00", strings.Repeat("\x00", 80),
		"\xff\xfe\x80", "\xc3", "\xc3\xa4", textFor(15) + "\xc3\xa4", "\xed\xa0\x80", "\n", "\r\n", " ", "~", "?", "BASN\x02\x01",
	} {
		if !wantWritten(t, f, 1, data) || !wantWritten(t, f, 0, data) {
			t.Errorf("%q is refused", data)
		}
	}
	all := everyByte()
	for from := range all {
		if data := all[from:min(from+80, len(all))]; !wantWritten(t, f, 1, data) {
			t.Errorf("%q is refused", data)
		}
	}
}

func TestNodeWriteRefuses(t *testing.T) {
	texts := []string{"", "x", textFor(16), textFor(17), textFor(80), textFor(81)}
	for _, f := range rightBranches() {
		for _, i := range manyPlaces(f) {
			for _, data := range texts {
				if ok := wantWritten(t, f, i, data); ok && !isUsed(f, i) {
					t.Errorf("NodeWrite(%v, %d, %q) is true", f, i, data)
				}
			}
		}
	}
	for name, f := range wrongBranches() {
		for _, i := range manyPlaces(f) {
			for _, data := range texts {
				if wantWritten(t, f, i, data) {
					t.Errorf("%s: NodeWrite at %d of %q is true", name, i, data)
				}
			}
		}
	}
}

// someKinds are those that there are, and others.
var someKinds = []int{1, 2, 3, 0, -1, 4, 5, 255, 256, 257, 258, 1<<32 + 1, math.MinInt, math.MinInt + 1, math.MaxInt}

func TestNodeMake(t *testing.T) {
	one := node{Kind: 1}
	for name, c := range map[string]struct {
		f    fs
		want int
	}{
		"the first":           {branch(5, 9), 1},
		"a middle one":        {branch(5, 9, one, one), 3},
		"the last":            {branch(5, 9, one, one, one), 4},
		"the only one":        {branch(2, 9), 1},
		"none":                {branch(5, 9, one, one, one, one), -1},
		"none of two":         {branch(2, 9, one), -1},
		"a first, used ones":  {branch(5, 9, node{}, file(20, 3, 4), one, one), 1},
		"a middle, used ones": {branch(5, 9, file(20, 3, 4), node{}, one, one), 2},
		"some between":        {branch(6, 9, one, node{}, file(20, 3, 4), node{}), 2},
		"no free block":       {branch(3, 1, file(16, 0)), 2},
		"none of ten":         {fullBranch(), 9},
		"the tenth":           {branch(10, 36, one, one, one, one, one, one, one, one), 9},
		"a root of a byte":    {rooted(3, 9, node{Kind: 2, Size: 1, Blocks: []int{4}}), 1},
	} {
		for _, kind := range []int{impl.NdFile, impl.NdDir, impl.NdLink} {
			got, i, ok := impl.NodeMake(c.f, kind)
			if i != c.want || ok != (c.want >= 0) {
				t.Errorf("%s: NodeMake of kind %d is %d, %t", name, kind, i, ok)
				continue
			}
			want := copied(c.f)
			if ok {
				want.Nodes[i] = node{Kind: kind}
				wantRead(t, got, i, "")
			}
			if !sameFs(got, want) {
				t.Errorf("%s: NodeMake of kind %d is %v, want %v", name, kind, got, want)
			}
		}
	}
}

func TestNodeMakeRefuses(t *testing.T) {
	taken := 0
	for name, f := range allBranches() {
		for _, kind := range someKinds {
			ok := wantMade(t, f, kind)
			if ok && (kind < 1 || kind > 3 || !isShaped(f)) {
				t.Errorf("%s: NodeMake of kind %d is true", name, kind)
			}
			if ok {
				taken++
			}
		}
	}
	if taken < 30 {
		t.Errorf("only %d are taken", taken)
	}
}

func TestNodeDrop(t *testing.T) {
	other := file(40, 7, 1, 5)
	for name, n := range map[string]node{
		"no blocks":           file(0),
		"one block":           file(16, 3),
		"five blocks":         file(80, 8, 0, 2, 6, 4),
		"a directory of none": {Kind: 2},
		"a directory":         {Kind: 2, Size: 17, Blocks: []int{6, 2}},
		"a link":              {Kind: 3, Gen: 8, Time: 9, Size: 17, Blocks: []int{2, 6}},
	} {
		f := branch(5, 9, node{}, n, other)
		got, ok := impl.NodeDrop(f, 2)
		if want := branch(5, 9, node{}, node{}, other); !ok || !sameFs(got, want) {
			t.Errorf("%s: NodeDrop is %v, %t, want %v", name, got, ok, want)
		}
		if impl.FreeOf(got) != 6 {
			t.Errorf("%s: %d blocks are free, want 6", name, impl.FreeOf(got))
		}
		for _, i := range append(noPlaces(f), 0, 1, 4) {
			if wantDropped(t, f, i) {
				t.Errorf("%s: NodeDrop at %d is true", name, i)
			}
		}
		if wantDropped(t, got, 2) {
			t.Errorf("%s: it is dropped twice", name)
		}
	}
}

func TestNodeDropRefuses(t *testing.T) {
	for name, f := range allBranches() {
		for _, i := range manyPlaces(f) {
			if ok := wantDropped(t, f, i); ok != (i != 0 && isUsed(f, i)) {
				t.Errorf("%s: NodeDrop at %d is %t", name, i, ok)
			}
		}
	}
}

// A root that holds something isn't dropped either.
func TestNodeDropLeavesRoot(t *testing.T) {
	for _, size := range someSizes {
		f := rooted(3, 9, node{Kind: 2, Size: size, Blocks: []int{4, 8, 0, 2, 6}[:neededBlocks(size)]}, file(3, 1))
		if wantDropped(t, f, 0) {
			t.Errorf("a root of %d bytes is dropped", size)
		}
	}
}

// wantOthers asks that every node but one, and what it holds, is as it was.
func wantOthers(t *testing.T, f fs, got fs, but int) {
	t.Helper()
	if len(got.Nodes) != len(f.Nodes) || len(got.Data) != len(f.Data) {
		t.Fatalf("of %v came %v", f, got)
	}
	for i, n := range f.Nodes {
		if i == but {
			continue
		}
		was, had := impl.NodeRead(f, i)
		is, has := impl.NodeRead(got, i)
		if !sameNode(got.Nodes[i], n) || was != is || had != has {
			t.Fatalf("of %v came %v: node %d turned", f, got, i)
		}
	}
}

// Promise 7, for many branches, each node and many texts.
func TestWhatIsWrittenIsRead(t *testing.T) {
	taken, refused := 0, 0
	manyBranches(400, func(f fs) {
		for i, n := range f.Nodes {
			for _, size := range []int{0, 1, 16, 17, 31, 48, 65, 80} {
				data := textFor(size)
				got, ok := impl.NodeWrite(f, i, data)
				more := neededBlocks(size) - len(n.Blocks)
				if want := n.Kind != 0 && more <= freeIn(f); ok != want {
					t.Fatalf("NodeWrite(%v, %d, %q) is %t", f, i, data, ok)
				}
				if !ok {
					refused++
					wantOthers(t, f, got, -1)
					continue
				}
				taken++
				wantRead(t, got, i, data)
				wantOthers(t, f, got, i)
				if !impl.ShapeOk(got) || impl.FreeOf(got) != impl.FreeOf(f)-more {
					t.Errorf("NodeWrite(%v, %d, %q) is %v", f, i, data, got)
				}
			}
		}
	})
	if taken < 5000 || refused < 5000 {
		t.Errorf("only %d are taken, %d refused", taken, refused)
	}
}

func TestWhatIsMadeAndDroppedIsAsItWas(t *testing.T) {
	makes, drops := 0, 0
	manyBranches(1000, func(f fs) {
		for kind := 1; kind <= 3; kind++ {
			got, i, ok := impl.NodeMake(f, kind)
			if !ok {
				continue
			}
			makes++
			wantOthers(t, f, got, i)
			if !impl.ShapeOk(got) || impl.FreeOf(got) != impl.FreeOf(f) || got.Nodes[i].Kind != kind || f.Nodes[i].Kind != 0 {
				t.Errorf("NodeMake(%v, %d) = %v, %d", f, kind, got, i)
			}
			filled, _ := impl.NodeWrite(got, i, textFor(16*min(5, freeIn(f))))
			for _, g := range []fs{got, filled} {
				if back, ok := impl.NodeDrop(g, i); !ok || !sameFs(back, f) {
					t.Errorf("NodeDrop(%v, %d) = %v, %t, want %v", g, i, back, ok, f)
				}
			}
		}
		for i, n := range f.Nodes {
			got, ok := impl.NodeDrop(f, i)
			if !ok {
				continue
			}
			drops++
			wantOthers(t, f, got, i)
			if !impl.ShapeOk(got) || impl.FreeOf(got) != impl.FreeOf(f)+len(n.Blocks) || got.Nodes[i].Kind != 0 {
				t.Errorf("NodeDrop(%v, %d) = %v", f, i, got)
			}
			wantNoRead(t, got, i)
		}
	})
	if makes < 1000 || drops < 1000 {
		t.Errorf("only %d makes, %d drops", makes, drops)
	}
}

// A long row of calls on one branch against what the document says of each.
func TestManyCallsInARow(t *testing.T) {
	next := dice(7)
	for _, data := range []int{1, 4, 9, 17, 36} {
		f := branch(2+next(9), data)
		taken := 0
		for range 1500 {
			i, kind, ok := next(len(f.Nodes)+2)-1, next(5), false
			got := f
			switch next(5) {
			case 0:
				ok = wantMade(t, f, kind)
				got, _, _ = impl.NodeMake(f, kind)
			case 1:
				ok = wantDropped(t, f, i)
				got, _ = impl.NodeDrop(f, i)
			default:
				text := textFor(next(90))
				ok = wantWritten(t, f, i, text)
				got, _ = impl.NodeWrite(f, i, text)
			}
			if ok {
				taken++
			}
			if f = got; !isShaped(f) {
				t.Fatalf("no right branch: %v", f)
			}
		}
		if taken < 150 {
			t.Errorf("%d data: only %d calls are taken", data, taken)
		}
	}
}

// eachDataCall gives what each function answers at each place, with that text.
func eachDataCall(f fs, data string, each func(call string, got fs)) {
	for _, i := range manyPlaces(f) {
		s, _ := impl.NodeRead(f, i)
		each(fmt.Sprint("NodeRead at ", i), fs{Data: []string{s}})
		got, _ := impl.NodeWrite(f, i, data)
		each(fmt.Sprint("NodeWrite at ", i), got)
		got, _ = impl.NodeDrop(f, i)
		each(fmt.Sprint("NodeDrop at ", i), got)
	}
	for _, kind := range someKinds {
		got, _, _ := impl.NodeMake(f, kind)
		each(fmt.Sprint("NodeMake of kind ", kind), got)
	}
}

// overwriteFs writes over all that a branch has, the spare room included.
func overwriteFs(f fs) {
	nodes, data := f.Nodes[:cap(f.Nodes)], f.Data[:cap(f.Data)]
	for i := range nodes {
		blocks := nodes[i].Blocks[:cap(nodes[i].Blocks)]
		for k := range blocks {
			blocks[k] = -9
		}
		nodes[i] = node{Kind: 77}
	}
	for i := range data {
		data[i] = "overwritten"
	}
}

func TestDataLeavesArguments(t *testing.T) {
	for name, f := range allBranches() {
		f.Data = ownTexts(f.Data)
		for _, size := range []int{0, 1, 16, 80, 81} {
			room, same := roomyFs(f)
			data := strings.Clone(textFor(size))
			eachDataCall(room, data, func(call string, got fs) {
				if !same() || !sameFs(room, f) || data != textFor(size) {
					t.Fatalf("%s: %s changed an argument", name, call)
				}
				if fsListsShare(got, room) || sharesText(got.Data, append(slices.Clone(room.Data), data)) {
					t.Fatalf("%s: %s answers memory of an argument", name, call)
				}
				wantApart(t, name+", "+call, got)
				if overwriteFs(got); !same() || !sameFs(room, f) {
					t.Fatalf("%s: %s answers its argument's memory", name, call)
				}
			})
		}
	}
}

// What one answer holds doesn't turn with another one, nor with what is made of
// it.
func TestDataAnswersNewMemory(t *testing.T) {
	for name, f := range rightBranches() {
		eachDataCall(f, textFor(20), func(call string, got fs) {
			was := copied(got)
			eachDataCall(got, textFor(50), func(_ string, other fs) { overwriteFs(other) })
			eachDataCall(f, textFor(20), func(_ string, other fs) {
				if fsListsShare(got, other) {
					t.Fatalf("%s: %s shares a list with another answer", name, call)
				}
				overwriteFs(other)
			})
			if !sameFs(got, was) {
				t.Fatalf("%s: %s turned with another answer", name, call)
			}
		})
	}
}
