package tests

import (
	"fmt"
	"math"
	"slices"
	"strings"
	"testing"

	"loop.example/g00483/impl"
)

type fs = impl.Fs

// file gives a file of that size in these blocks.
func file(size int, blocks ...int) node {
	return node{Kind: 1, Gen: 3, Time: 4, Size: size, Blocks: blocks}
}

// piece gives the bytes that a node of that size has in the i-th of its blocks;
// seed tells nodes apart.
func piece(size int, i int, seed int) string {
	var b []byte
	for k := 16 * i; k < size && len(b) < 16; k++ {
		b = append(b, byte('a'+(7*k+5*seed)%26))
	}
	return string(b)
}

// branch gives a branch of so many nodes and data with a root of no bytes and
// these nodes behind it, whose blocks are filled as they should be.
func branch(nodes int, data int, some ...node) fs {
	return rooted(nodes, data, append([]node{{Kind: 2}}, some...)...)
}

// rooted is a branch with another root; blocks that are not there are left.
func rooted(nodes int, data int, some ...node) fs {
	f := fs{Nodes: make([]node, nodes), Data: make([]string, data)}
	for k, n := range some {
		f.Nodes[k] = n
		for i, at := range n.Blocks {
			if at >= 0 && at < data {
				f.Data[at] = piece(n.Size, i, k)
			}
		}
	}
	return f
}

// with gives the branch with one text of its data put in the place of another.
func with(f fs, at int, s string) fs {
	f.Data = slices.Clone(f.Data)
	f.Data[at] = s
	return f
}

// withNode gives the branch with one node put in the place of another.
func withNode(f fs, at int, n node) fs {
	f.Nodes = slices.Clone(f.Nodes)
	f.Nodes[at] = n
	return f
}

// fullBranch has a node for each of its 36 blocks, five a file.
func fullBranch() fs {
	var list []node
	for k := range 7 {
		list = append(list, file(80-k, 5*k+4, 5*k, 5*k+3, 5*k+1, 5*k+2))
	}
	return branch(10, 36, append(list, file(1, 35))...)
}

func rightBranches() map[string]fs {
	all := map[string]fs{
		"the least":              branch(2, 1),
		"two nodes, 36 data":     branch(2, 36),
		"three nodes, 9 data":    branch(3, 9),
		"ten nodes, one data":    branch(10, 1),
		"the greatest":           branch(10, 36),
		"empty lists":            withNode(branch(3, 3), 1, node{Blocks: []int{}}),
		"a root of a byte":       rooted(2, 1, node{Kind: 2, Size: 1, Blocks: []int{0}}),
		"a root of 80":           rooted(2, 9, node{Kind: 2, Size: 80, Blocks: []int{4, 8, 0, 2, 6}}),
		"nodes of no bytes":      branch(5, 2, file(0), node{Kind: 2}, node{Kind: 3, Gen: 9}),
		"a directory":            branch(4, 9, node{Kind: 2, Size: 20, Blocks: []int{8, 7}}),
		"a link":                 branch(4, 9, node{Kind: 3, Gen: 1000000, Time: 100000, Size: 20, Blocks: []int{8, 7}}),
		"free ones between":      branch(6, 9, node{}, file(3, 1), node{}, file(4, 0)),
		"the last node":          branch(3, 9, node{}, file(3, 8)),
		"one block and five":     branch(3, 36, file(16, 3), file(80, 9, 8, 7, 6, 5)),
		"blocks 0, 7, 8 and 35":  branch(3, 36, file(64, 0, 7, 8, 35)),
		"all of 1":               branch(2, 1, file(16, 0)),
		"all of 8":               branch(3, 8, file(80, 0, 1, 2, 3, 4), file(48, 7, 6, 5)),
		"all of 9":               branch(3, 9, file(80, 0, 1, 2, 3, 4), file(50, 8, 7, 6, 5)),
		"full":                   fullBranch(),
		"zero bytes":             with(branch(3, 9, file(4, 2)), 2, "\x00\x00\x00\x00"),
		"other bytes":            with(branch(3, 9, file(4, 2)), 2, "\xff\x80\n\x00"),
		"blocks alike":           with(with(branch(3, 9, file(1, 2), file(1, 3)), 2, "z"), 3, "z"),
		"texts like its own":     with(branch(3, 9, file(6, 2)), 2, "BASN\x03\x09"),
		"the greatest Gen":       branch(2, 1, node{Kind: 1, Gen: 1000000, Time: 100000, Size: 1, Blocks: []int{0}}),
		"the last block of 9":    branch(3, 9, file(1, 8)),
		"the last block of 36":   branch(3, 36, file(1, 35)),
		"two files of one block": branch(3, 2, file(5, 1), file(5, 0)),
	}
	for _, size := range []int{1, 15, 16, 17, 31, 32, 33, 48, 49, 64, 65, 79, 80} {
		all[fmt.Sprint("size ", size)] = branch(3, 12, sized(size))
	}
	return all
}

// wrongBranches have one thing each that is wrong.
func wrongBranches() map[string]fs {
	all := map[string]fs{
		"zero":                     {},
		"empty lists":              {Nodes: []node{}, Data: []string{}},
		"no node":                  rooted(0, 9),
		"one node":                 branch(1, 9),
		"11 nodes":                 branch(11, 9),
		"100 nodes":                branch(100, 9),
		"no data":                  branch(2, 0),
		"37 data":                  branch(2, 37),
		"40 data":                  branch(2, 40),
		"41 data":                  branch(2, 41),
		"1000 data":                branch(2, 1000),
		"a free root":              rooted(3, 9),
		"a file for a root":        rooted(3, 9, file(0)),
		"a link for a root":        rooted(3, 9, node{Kind: 3}),
		"a root of kind 4":         rooted(3, 9, node{Kind: 4}),
		"a root with a Gen":        rooted(3, 9, node{Kind: 2, Gen: 1}),
		"the root is behind":       rooted(3, 9, node{}, node{Kind: 2}),
		"two nodes' block":         branch(3, 9, file(16, 4), file(16, 4)),
		"two nodes' block behind":  branch(3, 9, file(17, 4, 5), file(17, 6, 5)),
		"the root's block":         rooted(3, 9, node{Kind: 2, Size: 1, Blocks: []int{4}}, file(1, 4)),
		"first and last node's":    branch(4, 9, file(1, 4), file(1, 5), file(1, 4)),
		"a node's block twice":     branch(3, 9, file(32, 4, 4)),
		"a block that isn't there": branch(3, 9, file(16, 9)),
		"block 35 of 35":           branch(3, 35, file(16, 35)),
		"block 36 of 36":           branch(3, 36, file(16, 36)),
		"block 1 of 1":             branch(2, 1, file(17, 0, 1)),
		"block -1":                 branch(3, 9, file(16, -1)),
		"the least block":          branch(3, 9, file(16, math.MinInt)),
		"the greatest block":       branch(3, 9, file(16, math.MaxInt)),
		"nobody's text":            with(branch(3, 9), 4, "x"),
		"nobody's zero byte":       with(branch(3, 9), 4, "\x00"),
		"nobody's 16 bytes":        with(branch(3, 9, file(16, 3)), 4, textOf(16)),
		"nobody's first block":     with(branch(3, 9, file(16, 3)), 0, "x"),
		"nobody's last block":      with(branch(3, 36, file(16, 3)), 35, "x"),
		"a freed node's block":     withNode(branch(3, 9, file(16, 3)), 1, node{}),
		"a block of 17":            with(branch(3, 9, file(16, 3)), 3, textOf(17)),
		"nobody's block of 17":     with(branch(3, 9), 3, textOf(17)),
		"a block of 1000":          with(branch(3, 9, file(16, 3)), 3, textOf(1000)),
		"an empty block":           with(branch(3, 9, file(16, 3)), 3, ""),
		"an empty last block":      with(branch(3, 9, file(17, 3, 4)), 4, ""),
		"an empty first block":     with(branch(3, 9, file(17, 3, 4)), 3, ""),
		"blocks turned round":      withNode(branch(3, 9, file(17, 3, 4)), 1, file(17, 4, 3)),
		"another size":             withNode(branch(3, 9, file(17, 3, 4)), 1, file(18, 3, 4)),
	}
	for name, n := range wrongNodes() {
		all["first, "+name] = branch(3, 12, n)
		all["last, "+name] = branch(10, 36, append(make([]node, 8), n)...)
		if n.Kind == 2 {
			all["root, "+name] = rooted(2, 12, n)
		}
	}
	return all
}

func allBranches() map[string]fs {
	all := wrongBranches()
	for name, f := range rightBranches() {
		all["right: "+name] = f
	}
	return all
}

// sameFs is said by the library, so that no test leans on FsSame.
func sameFs(a fs, b fs) bool {
	return slices.EqualFunc(a.Nodes, b.Nodes, sameNode) && slices.Equal(a.Data, b.Data)
}

// isShaped tells whether a branch is right, as the document says it.
func isShaped(f fs) bool {
	if len(f.Nodes) < 2 || len(f.Nodes) > 10 || len(f.Data) < 1 || len(f.Data) > 36 || f.Nodes[0].Kind != 2 {
		return false
	}
	held := make([]int, len(f.Data))
	for _, n := range f.Nodes {
		if !isRight(n) {
			return false
		}
		for i, at := range n.Blocks {
			if at >= len(f.Data) || len(f.Data[at]) != len(piece(n.Size, i, 0)) {
				return false
			}
			held[at]++
		}
	}
	for at, s := range f.Data {
		if held[at] > 1 || held[at] == 0 && s != "" {
			return false
		}
	}
	return true
}

// fsTexts gives the texts that the document asks for; the numbers in the first
// one are small enough for a byte. It writes wrong branches, too.
func fsTexts(f fs) []string {
	var bits string
	for from := 0; from < len(f.Data); from += 8 {
		c := 0
		for at := from; at < from+8; at++ {
			if slices.ContainsFunc(f.Nodes, func(n node) bool { return slices.Contains(n.Blocks, at) }) {
				c += []int{1, 2, 4, 8, 16, 32, 64, 128}[at-from]
			}
		}
		bits += string([]byte{byte(c)})
	}
	list := []string{"BASN" + string([]byte{byte(len(f.Nodes)), byte(len(f.Data))}), bits}
	for _, n := range f.Nodes {
		list = append(list, nodeText(n))
	}
	return append(list, f.Data...)
}

// fsRead gives the branch whose texts these are; nil, where they are none's.
func fsRead(list []string) *fs {
	if len(list) < 2 || len(list[0]) != 6 {
		return nil
	}
	nodes := int(list[0][4])
	if len(list) < 2+nodes {
		return nil
	}
	f := fs{Data: list[2+nodes:]}
	for _, s := range list[2 : 2+nodes] {
		n := shortNode(s)
		if n == nil {
			return nil
		}
		f.Nodes = append(f.Nodes, *n)
	}
	if !isShaped(f) || !slices.Equal(fsTexts(f), list) {
		return nil
	}
	return &f
}

func wantFs(t *testing.T, list []string, want fs) {
	t.Helper()
	if got, ok := impl.FsOf(list); !ok || !sameFs(got, want) {
		t.Errorf("FsOf(%q) = %v, %t, want %v", list, got, ok, want)
	}
}

func wantNoFs(t *testing.T, list []string) {
	t.Helper()
	if got, ok := impl.FsOf(list); ok || !sameFs(got, fs{}) {
		t.Errorf("FsOf(%q) = %v, %t", list, got, ok)
	}
}

// wantFsAsModel is for texts that may be another branch's.
func wantFsAsModel(t *testing.T, list []string) bool {
	t.Helper()
	want := fsRead(list)
	if want == nil {
		wantNoFs(t, list)
		return false
	}
	wantFs(t, list, *want)
	return true
}

// dice gives a row of numbers, the same one each time.
func dice(seed int) func(below int) int {
	return func(below int) int {
		seed = (seed*1103515245 + 12345) % (1 << 31)
		return (seed >> 8) % below
	}
}

// manyBranches gives right branches of many shapes, by a row of numbers.
func manyBranches(count int, each func(f fs)) {
	next := dice(1)
	for range count {
		nodes, data := 2+next(9), 1+next(36)
		var free []int
		for at := range data {
			free = append(free, at)
		}
		for i := range free {
			k := i + next(data-i)
			free[i], free[k] = free[k], free[i]
		}
		var list []node
		for k := range nodes {
			n := node{Kind: next(4)}
			if k == 0 {
				n.Kind = 2
			}
			if n.Kind != 0 {
				n.Size = min(next(81), 16*len(free))
				n.Blocks, free = free[:neededBlocks(n.Size)], free[neededBlocks(n.Size):]
			}
			if n.Kind == 1 || n.Kind == 3 {
				n.Gen, n.Time = next(1000001), next(100001)
			}
			list = append(list, n)
		}
		each(rooted(nodes, data, list...))
	}
}

// eachSmallBranch gives each branch of a root, another node and one or two
// data, of these nodes and texts.
func eachSmallBranch(each func(f fs)) {
	nodes := []node{{}, {Kind: 2}, {Kind: 3}, {Kind: 2, Size: 1, Blocks: []int{0}}, {Kind: 2, Size: 1, Blocks: []int{1}},
		file(0), file(1, 0), file(2, 1), file(16, 0), file(17, 0, 1), file(17, 1, 0), file(32, 1, 0), file(16, 2), file(1), file(0, 0), {Kind: 5}}
	texts := []string{"", "x", "yz", textOf(15), textOf(16), textOf(17)}
	for _, root := range nodes {
		for _, n := range nodes {
			for _, first := range texts {
				each(fs{Nodes: []node{root, n}, Data: []string{first}})
				for _, second := range texts {
					each(fs{Nodes: []node{root, n}, Data: []string{first, second}})
				}
			}
		}
	}
}

func TestFsNumbers(t *testing.T) {
	if impl.MaxNodes != 10 {
		t.Error(impl.MaxNodes)
	}
}

func TestShapeOk(t *testing.T) {
	for name, f := range rightBranches() {
		if !impl.ShapeOk(f) || !isShaped(f) {
			t.Errorf("%s: ShapeOk(%v) is %t", name, f, impl.ShapeOk(f))
		}
	}
	for name, f := range wrongBranches() {
		if impl.ShapeOk(f) || isShaped(f) {
			t.Errorf("%s: ShapeOk(%v) is %t", name, f, impl.ShapeOk(f))
		}
	}
}

func TestShapeOkOfEachCount(t *testing.T) {
	for nodes := range 14 {
		for data := range 42 {
			f := fs{Nodes: make([]node, nodes), Data: make([]string, data)}
			if nodes > 0 {
				f.Nodes[0].Kind = impl.NdDir
			}
			if want := nodes >= 2 && nodes <= 10 && data >= 1 && data <= 36; impl.ShapeOk(f) != want {
				t.Errorf("%d nodes, %d data: ShapeOk is %t", nodes, data, !want)
			}
		}
	}
}

func TestShapeOkOfEachRoot(t *testing.T) {
	for kind := -2; kind <= 6; kind++ {
		if got := impl.ShapeOk(rooted(3, 9, node{Kind: kind})); got != (kind == impl.NdDir) {
			t.Errorf("a root of kind %d: ShapeOk is %t", kind, got)
		}
		if got := impl.ShapeOk(branch(3, 9, node{Kind: kind})); got != (kind >= 0 && kind <= 3) {
			t.Errorf("a node of kind %d: ShapeOk is %t", kind, got)
		}
	}
}

// Each block of a node of each size is as long as it should be, or ShapeOk is
// false.
func TestShapeOkOfEachLength(t *testing.T) {
	for size := 1; size <= 80; size++ {
		for kind := 1; kind <= 3; kind++ {
			n := node{Kind: kind, Size: size, Blocks: []int{7, 2, 8, 0, 5}[:neededBlocks(size)]}
			f := branch(3, 9, n)
			for i, at := range n.Blocks {
				long := 16
				if last := i == len(n.Blocks)-1; last && size%16 != 0 {
					long = size % 16
				}
				for other := range 40 {
					if got := impl.ShapeOk(with(f, at, textOf(other))); got != (other == long) {
						t.Errorf("size %d, block %d of %d bytes: ShapeOk is %t", size, i, other, got)
					}
				}
			}
		}
	}
}

// A text that no node has is wrong in each block; a block that a node has is
// not for another one.
func TestShapeOkOfEachBlock(t *testing.T) {
	for data := 1; data <= 36; data++ {
		for at := range 38 {
			f := branch(4, data, file(16, at))
			if got := impl.ShapeOk(f); got != (at < data) {
				t.Errorf("block %d of %d: ShapeOk is %t", at, data, got)
			}
			if at >= data {
				continue
			}
			if impl.ShapeOk(with(branch(4, data), at, "x")) {
				t.Errorf("nobody's block %d of %d: ShapeOk is true", at, data)
			}
			if impl.ShapeOk(withNode(f, 2, file(16, at))) || impl.ShapeOk(withNode(f, 3, file(16, at))) {
				t.Errorf("two nodes' block %d of %d: ShapeOk is true", at, data)
			}
			if impl.ShapeOk(with(f, at, "")) {
				t.Errorf("an empty block %d of %d: ShapeOk is true", at, data)
			}
		}
	}
}

func TestFsNew(t *testing.T) {
	some := []int{math.MinInt, math.MinInt + 2, -1 << 32, -1, 38, 48, 100, 128, 256, 258, 1 << 32, 1<<32 + 2, 1 << 62, math.MaxInt - 1, math.MaxInt}
	for n := range 38 {
		some = append(some, n)
	}
	for _, nodes := range some {
		for _, data := range some {
			got, ok := impl.FsNew(nodes, data)
			right := nodes >= 2 && nodes <= 10 && data >= 1 && data <= 36
			if ok != right || impl.ShapeOk(got) != right {
				t.Errorf("FsNew(%d, %d) = %v, %t", nodes, data, got, ok)
			}
			if !right {
				if !sameFs(got, fs{}) {
					t.Errorf("FsNew(%d, %d) = %v, %t", nodes, data, got, ok)
				}
				continue
			}
			want := fs{Nodes: append([]node{{Kind: 2}}, make([]node, nodes-1)...), Data: slices.Repeat([]string{""}, data)}
			if !sameFs(got, want) {
				t.Errorf("FsNew(%d, %d) = %v", nodes, data, got)
			}
		}
	}
}

func TestFsBlocks(t *testing.T) {
	for _, c := range []struct {
		f    fs
		want []string
	}{
		{branch(2, 1), []string{"BASN\x02\x01", "\x00", "\x02\x00\x00\x00", "\x00", ""}},
		{branch(2, 8), []string{"BASN\x02\x08", "\x00", "\x02\x00\x00\x00", "\x00", "", "", "", "", "", "", "", ""}},
		{branch(3, 9), []string{"BASN\x03\x09", "\x00\x00", "\x02\x00\x00\x00", "\x00", "\x00", "", "", "", "", "", "", "", "", ""}},
		{with(branch(2, 1, file(1, 0)), 0, "q"), []string{"BASN\x02\x01", "\x01", "\x02\x00\x00\x00", "\x01\x03\x04\x01\x00", "q"}},
		{fs{
			Nodes: []node{{Kind: 2, Size: 18, Blocks: []int{8, 1}}, {}, {Kind: 3, Gen: 300, Time: 7, Size: 2, Blocks: []int{7}}},
			Data:  []string{"", "67", "", "", "", "", "", "ab", "0123456789012345"},
		}, []string{"BASN\x03\x09", "\x82\x01", "\x02\x00\x00\x12\x08\x01", "\x00", "\x03\xac\x02\x07\x02\x07",
			"", "67", "", "", "", "", "", "ab", "0123456789012345"}},
	} {
		if got := impl.FsBlocks(c.f); !slices.Equal(got, c.want) {
			t.Errorf("FsBlocks(%v) = %q, want %q", c.f, got, c.want)
		}
		wantFs(t, c.want, c.f)
	}
	for name, f := range rightBranches() {
		if got := impl.FsBlocks(f); !slices.Equal(got, fsTexts(f)) {
			t.Errorf("%s: FsBlocks = %q, want %q", name, got, fsTexts(f))
		}
	}
	for name, f := range wrongBranches() {
		if got := impl.FsBlocks(f); len(got) != 0 {
			t.Errorf("%s: FsBlocks = %q", name, got)
		}
	}
}

func TestFsBlocksOfEachBlock(t *testing.T) {
	for data := 1; data <= 36; data++ {
		for at := range data {
			bits := make([]byte, (data+7)/8)
			if got := impl.FsBlocks(branch(3, data)); got[1] != string(bits) {
				t.Errorf("no block of %d is had: the bits are %q", data, got[1])
			}
			bits[at/8] = 1 << (at % 8)
			if got := impl.FsBlocks(branch(3, data, file(5, at))); got[1] != string(bits) {
				t.Errorf("block %d of %d is had: the bits are %q", at, data, got[1])
			}
		}
	}
	if got := impl.FsBlocks(branch(3, 36, file(64, 0, 7, 8, 35))); got[1] != "\x81\x01\x00\x00\x08" {
		t.Errorf("the bits are %q", got[1])
	}
	if got := impl.FsBlocks(fullBranch()); got[1] != "\xff\xff\xff\xff\x0f" {
		t.Errorf("the bits of a full branch are %q", got[1])
	}
}

// Each block of a branch is one that a journal takes as a home block.
func TestFsBlocksAreHomes(t *testing.T) {
	great := node{Kind: 1, Gen: 1000000, Time: 100000, Size: 80, Blocks: []int{35, 34, 33, 32, 31}}
	all := rightBranches()
	all["a great node"] = branch(10, 36, great)
	for name, f := range all {
		list := impl.FsBlocks(f)
		var puts []put
		for at, s := range list {
			puts = append(puts, put{At: at, Data: s})
		}
		if !impl.TxOk(impl.HomesOf(f), puts) || len(list) != impl.HomesOf(f) {
			t.Errorf("%s: %d blocks are no journal's", name, len(list))
		}
	}
}

func TestFsOfReadsFsBlocks(t *testing.T) {
	for _, f := range rightBranches() {
		wantFs(t, impl.FsBlocks(f), f)
	}
	for _, f := range wrongBranches() {
		wantNoFs(t, impl.FsBlocks(f))
		// A Kind that is no byte may be written as another node's.
		wantFsAsModel(t, fsTexts(f))
	}
}

// changed gives the list with one text in the place of another.
func changed(list []string, at int, s string) []string {
	list = slices.Clone(list)
	list[at] = s
	return list
}

func TestFsOfRefusesOtherCounts(t *testing.T) {
	wantNoFs(t, nil)
	wantNoFs(t, []string{})
	for _, f := range rightBranches() {
		list := fsTexts(f)
		for size := range len(list) {
			wantNoFs(t, list[:size])
			wantNoFs(t, list[size+1:])
			wantNoFs(t, slices.Delete(slices.Clone(list), size, size+1))
			for _, more := range []string{"", "\x00", "x", list[size]} {
				wantNoFs(t, slices.Insert(slices.Clone(list), size, more))
				wantNoFs(t, append(slices.Clone(list), more))
			}
		}
		wantNoFs(t, append(slices.Clone(list), list...))
		wantNoFs(t, append(slices.Clone(list), make([]string, 1000)...))
	}
}

// Where the first text tells numbers of which the sum is right, or wrong.
func TestFsOfRefusesOtherHeads(t *testing.T) {
	for _, f := range rightBranches() {
		list := fsTexts(f)
		for nodes := range 50 {
			for data := range 50 {
				if nodes != len(f.Nodes) || data != len(f.Data) {
					wantNoFs(t, changed(list, 0, "BASN"+string([]byte{byte(nodes), byte(data)})))
				}
			}
		}
		numbers := list[0][4:]
		for _, s := range []string{
			"", "BASN", "basn" + numbers, "BASM" + numbers, "BAS" + numbers, "BASNN" + numbers, " BASN" + numbers, numbers,
			list[0] + "\x00", list[0] + "x", list[0] + numbers, list[0][:5], "\x00" + list[0], list[1], list[2],
			"BASN" + longer(len(f.Nodes)) + numbers[1:], "BASN" + numbers[:1] + longer(len(f.Data)),
			"BASN\xff\xff\xff\xff\x07" + numbers[1:], "BASN" + numbers[:1] + "\xff\xff\xff\xff\x07",
			"BASN\xff\xff\xff\xff\xff" + numbers[1:], "BASN\x80\x80\x80\x80\x08\x01", "BASN" + textOf(1000),
		} {
			wantNoFs(t, changed(list, 0, s))
		}
	}
}

func TestFsOfRefusesOtherBits(t *testing.T) {
	for _, f := range rightBranches() {
		list := fsTexts(f)
		bits := list[1]
		for at := range len(bits) {
			for c := range 256 {
				if b := []byte(bits); b[at] != byte(c) {
					b[at] = byte(c)
					wantNoFs(t, changed(list, 1, string(b)))
				}
			}
		}
		for _, s := range []string{"", bits[1:], bits + "\x00", bits + "\xff", "\x00" + bits, "?", list[0], textOf(5)} {
			if s != bits {
				wantNoFs(t, changed(list, 1, s))
			}
		}
	}
}

func TestFsOfRefusesOtherNodes(t *testing.T) {
	for _, f := range rightBranches() {
		list := fsTexts(f)
		for at := range f.Nodes {
			for _, s := range []string{
				"", "?", "node", "\x00\x00", "\x01", "\x04\x00\x00\x00", "\x01\x00\x00\x10\x24", "\x02\x01\x00\x00",
				list[2+at] + "\x00", list[2+at] + list[2+at], list[0], "\x80\x00", "\x01\x80\x00\x00\x00",
			} {
				wantNoFs(t, changed(list, 2+at, s))
			}
			for _, n := range wrongNodes() {
				if n.Kind >= 0 && n.Kind <= 255 {
					wantNoFs(t, changed(list, 2+at, nodeText(n)))
				}
			}
		}
		for _, root := range []node{{}, {Kind: 1}, {Kind: 3}} {
			wantNoFs(t, changed(list, 2, nodeText(root)))
		}
	}
}

// Each text turned in one byte, cut by one and longer by one: it may tell
// another branch then, as where a file has another Gen or another byte.
func TestFsOfOfTurnedTexts(t *testing.T) {
	others := 0
	for _, f := range rightBranches() {
		list := fsTexts(f)
		for at, s := range list {
			for i := range len(s) {
				for _, bit := range []byte{1, 2, 16, 128, 255} {
					b := []byte(s)
					b[i] ^= bit
					if wantFsAsModel(t, changed(list, at, string(b))) {
						others++
					}
				}
			}
			for _, c := range []string{"\x00", "x", "\xff"} {
				wantNoFs(t, changed(list, at, s+c))
				wantNoFs(t, changed(list, at, c+s))
			}
			if s != "" {
				wantNoFs(t, changed(list, at, s[1:]))
				wantNoFs(t, changed(list, at, s[:len(s)-1]))
			}
		}
	}
	if others < 100 {
		t.Errorf("only %d other branches", others)
	}
}

// Of all rows of a few texts those are read that are a branch's.
func TestFsOfOfEachShortRow(t *testing.T) {
	signs := []string{"", "x", "yz", "\x00", "\x01", "\x03", "\x02\x00\x00\x00", "\x02\x00\x00\x01\x00", "\x01\x00\x00\x02\x00", "\x03\x07\x00\x02\x01"}
	seen := 0
	for _, head := range []string{"BASN\x02\x01", "BASN\x02\x02", "BASN\x03\x01", "BASN\x01\x02", "BASN\x02\x00", "BASN\x00\x02"} {
		everyText("\x00\x01\x02\x03\x04\x05\x06\x07\x08\x09", 5, func(s string) {
			list := []string{head}
			for i := range len(s) {
				list = append(list, signs[s[i]])
			}
			want := fsRead(list)
			got, ok := impl.FsOf(list)
			if ok != (want != nil) || ok && !sameFs(got, *want) || !ok && !sameFs(got, fs{}) {
				t.Fatalf("FsOf(%q) = %v, %t", list, got, ok)
			}
			if !ok {
				return
			}
			if seen++; !slices.Equal(impl.FsBlocks(got), list) {
				t.Errorf("FsBlocks of FsOf(%q) is %q", list, impl.FsBlocks(got))
			}
		})
	}
	if seen < 20 {
		t.Errorf("only %d branches", seen)
	}
}

func TestFsCallsOfSmallBranches(t *testing.T) {
	right := 0
	eachSmallBranch(func(f fs) {
		want := isShaped(f)
		var texts []string
		homes, free := 0, 0
		if want {
			texts, homes, free = fsTexts(f), 4+len(f.Data), freeIn(f)
			right++
		}
		if impl.ShapeOk(f) != want {
			t.Errorf("ShapeOk(%v) is %t", f, !want)
		}
		if got := impl.FsBlocks(f); !slices.Equal(got, texts) {
			t.Errorf("FsBlocks(%v) = %q", f, got)
		}
		if impl.HomesOf(f) != homes || impl.FreeOf(f) != free {
			t.Errorf("HomesOf, FreeOf(%v) = %d, %d", f, impl.HomesOf(f), impl.FreeOf(f))
		}
		if want {
			wantFs(t, texts, f)
		} else if all := fsTexts(f); fsRead(all) == nil {
			wantNoFs(t, all)
		}
	})
	if right < 30 {
		t.Errorf("only %d right branches", right)
	}
}

// freeIn counts the blocks that no node has.
func freeIn(f fs) int {
	count := len(f.Data)
	for _, n := range f.Nodes {
		count -= len(n.Blocks)
	}
	return count
}

func TestHomesOfAndFreeOf(t *testing.T) {
	for _, c := range []struct {
		f           fs
		homes, free int
	}{
		{branch(2, 1), 5, 1},
		{branch(3, 9), 14, 9},
		{branch(10, 36), 48, 36},
		{branch(2, 1, file(16, 0)), 5, 0},
		{branch(3, 9, file(17, 8, 0)), 14, 7},
		{branch(3, 36, file(64, 0, 7, 8, 35)), 41, 32},
		{branch(3, 9, file(0), file(80, 0, 1, 2, 3, 4)), 14, 4},
		{rooted(3, 9, node{Kind: 2, Size: 33, Blocks: []int{0, 1, 2}}), 14, 6},
		{fullBranch(), 48, 0},
	} {
		if impl.HomesOf(c.f) != c.homes || impl.FreeOf(c.f) != c.free {
			t.Errorf("HomesOf, FreeOf(%v) = %d, %d", c.f, impl.HomesOf(c.f), impl.FreeOf(c.f))
		}
	}
	for name, f := range rightBranches() {
		if impl.HomesOf(f) != 2+len(f.Nodes)+len(f.Data) || impl.FreeOf(f) != freeIn(f) {
			t.Errorf("%s: HomesOf, FreeOf = %d, %d", name, impl.HomesOf(f), impl.FreeOf(f))
		}
	}
	for name, f := range wrongBranches() {
		if impl.HomesOf(f) != 0 || impl.FreeOf(f) != 0 {
			t.Errorf("%s: HomesOf, FreeOf = %d, %d", name, impl.HomesOf(f), impl.FreeOf(f))
		}
	}
}

func TestFsSame(t *testing.T) {
	base := branch(3, 9, file(40, 5, 6, 7))
	turned := func(turn func(n *node)) fs {
		n := file(40, 5, 6, 7)
		turn(&n)
		return withNode(base, 1, n)
	}
	for name, f := range map[string]fs{
		"zero":              {},
		"no Data":           {Nodes: base.Nodes},
		"no Nodes":          {Data: base.Data},
		"a node more":       {Nodes: append(slices.Clone(base.Nodes), node{}), Data: base.Data},
		"a node less":       {Nodes: base.Nodes[:2], Data: base.Data},
		"a text more":       {Nodes: base.Nodes, Data: append(slices.Clone(base.Data), "")},
		"a text less":       {Nodes: base.Nodes, Data: base.Data[:8]},
		"the first less":    {Nodes: base.Nodes, Data: base.Data[1:]},
		"another Kind":      turned(func(n *node) { n.Kind = 3 }),
		"another Gen":       turned(func(n *node) { n.Gen++ }),
		"another Time":      turned(func(n *node) { n.Time++ }),
		"another Size":      turned(func(n *node) { n.Size++ }),
		"another block":     turned(func(n *node) { n.Blocks[2] = 8 }),
		"a block more":      turned(func(n *node) { n.Blocks = append(n.Blocks, 8) }),
		"a block less":      turned(func(n *node) { n.Blocks = n.Blocks[:2] }),
		"another root":      withNode(base, 0, node{}),
		"another last node": withNode(base, 2, node{Kind: 2}),
		"nodes turned":      {Nodes: []node{base.Nodes[0], base.Nodes[2], base.Nodes[1]}, Data: base.Data},
		"another text":      with(base, 5, textOf(16)),
		"another first":     with(base, 0, "x"),
		"another last":      with(base, 8, "x"),
	} {
		if impl.FsSame(base, f) || impl.FsSame(f, base) {
			t.Errorf("%s: FsSame is true", name)
		}
	}
	if !impl.FsSame(base, branch(3, 9, file(40, 5, 6, 7))) {
		t.Error("FsSame of two that are alike is false")
	}
	for _, pair := range [][2]fs{
		{{}, {Nodes: []node{}, Data: []string{}}},
		{{Nodes: []node{{}}}, {Nodes: []node{{Blocks: []int{}}}, Data: []string{}}},
		{branch(3, 9), withNode(branch(3, 9), 1, node{Blocks: []int{}})},
	} {
		if !impl.FsSame(pair[0], pair[1]) || !impl.FsSame(pair[1], pair[0]) {
			t.Errorf("FsSame of nil and an empty list is false: %v", pair)
		}
	}
}

// copied gives a branch that shares no list, with room behind each.
func copied(f fs) fs {
	c := fs{Nodes: append(make([]node, 0, 20), f.Nodes...), Data: append(make([]string, 0, 50), f.Data...)}
	for i, n := range c.Nodes {
		c.Nodes[i].Blocks = append(make([]int, 0, 9), n.Blocks...)
	}
	return c
}

func TestFsSameOfAllBranches(t *testing.T) {
	all := allBranches()
	for first, a := range all {
		if !impl.FsSame(a, copied(a)) {
			t.Errorf("%s: FsSame of its copy is false", first)
		}
		for second, b := range all {
			if want := sameFs(a, b); impl.FsSame(a, b) != want {
				t.Errorf("%s, %s: FsSame is %t", first, second, !want)
			}
		}
	}
}

func TestDiff(t *testing.T) {
	a := branch(3, 9, file(2, 4))
	for _, c := range []struct {
		name string
		b    fs
		want []put
	}{
		{"itself", a, nil},
		{"its copy", copied(a), nil},
		{"one of Data", with(a, 4, "zz"), []put{{At: 9, Data: "zz"}}},
		{"a Gen", withNode(a, 1, node{Kind: 1, Gen: 5, Time: 4, Size: 2, Blocks: []int{4}}), []put{{At: 3, Data: "\x01\x05\x04\x02\x04"}}},
		{"a node of no bytes", withNode(a, 2, node{Kind: 2}), []put{{At: 4, Data: "\x02\x00\x00\x00"}}},
		{"a Size", with(withNode(a, 1, file(3, 4)), 4, "abc"), []put{{At: 3, Data: "\x01\x03\x04\x03\x04"}, {At: 9, Data: "abc"}}},
		{"a block less", branch(3, 9), []put{{At: 1, Data: "\x00\x00"}, {At: 3, Data: "\x00"}, {At: 9, Data: ""}}},
		{"a block more", with(withNode(a, 2, file(1, 8)), 8, "q"), []put{{At: 1, Data: "\x10\x01"}, {At: 4, Data: "\x01\x03\x04\x01\x08"}, {At: 13, Data: "q"}}},
		{"another block", with(with(withNode(a, 1, file(2, 0)), 4, ""), 0, "rs"),
			[]put{{At: 1, Data: "\x01\x00"}, {At: 3, Data: "\x01\x03\x04\x02\x00"}, {At: 5, Data: "rs"}, {At: 9, Data: ""}}},
		{"a node more and a text less", branch(4, 8),
			[]put{{At: 0, Data: "BASN\x04\x08"}, {At: 1, Data: "\x00"}, {At: 3, Data: "\x00"}, {At: 5, Data: "\x00"}, {At: 9, Data: ""}}},
		{"a node more", branch(4, 9), nil},
		{"a node less", branch(2, 9), nil},
		{"a text more", branch(3, 10), nil},
		{"a text less", branch(3, 8), nil},
		{"zero", fs{}, nil},
		{"a wrong one", with(a, 4, "zzz"), nil},
	} {
		if got := impl.Diff(a, c.b); !slices.Equal(got, c.want) {
			t.Errorf("%s: Diff = %v, want %v", c.name, got, c.want)
		}
	}
	for first, wrong := range wrongBranches() {
		for second, f := range allBranches() {
			if got := impl.Diff(wrong, f); len(got) != 0 {
				t.Errorf("%s, %s: Diff = %v", first, second, got)
			}
			if got := impl.Diff(f, wrong); len(got) != 0 {
				t.Errorf("%s, %s: Diff = %v", second, first, got)
			}
		}
	}
}

// wantDiff asks for the writes that differ, and that they lead from the one
// branch to the other.
func wantDiff(t *testing.T, a fs, b fs) {
	t.Helper()
	was, is := fsTexts(a), fsTexts(b)
	var want []put
	for at := range is {
		if len(was) == len(is) && was[at] != is[at] {
			want = append(want, put{At: at, Data: is[at]})
		}
	}
	got := impl.Diff(a, b)
	if !slices.Equal(got, want) {
		t.Fatalf("Diff(%v, %v) = %v, want %v", a, b, got, want)
	}
	if len(was) != len(is) {
		return
	}
	blocks := impl.FsBlocks(a)
	for _, p := range got {
		blocks[p.At] = p.Data
	}
	wantFs(t, blocks, b)
}

func TestDiffLeadsToTheOther(t *testing.T) {
	all := rightBranches()
	for _, a := range all {
		for _, b := range all {
			wantDiff(t, a, b)
		}
	}
	var list []fs
	manyBranches(150, func(f fs) { list = append(list, f) })
	for _, a := range list {
		for _, b := range list {
			wantDiff(t, a, b)
		}
	}
}

func TestFsReadAsItWas(t *testing.T) {
	want := func(f fs) {
		t.Helper()
		if got, ok := impl.FsOf(impl.FsBlocks(f)); !ok || !sameFs(got, f) || !impl.FsSame(got, f) {
			t.Errorf("FsOf of FsBlocks of %v is %v, %t", f, got, ok)
		}
	}
	for _, f := range rightBranches() {
		want(f)
	}
	shapes := map[[2]int]int{}
	manyBranches(3000, func(f fs) {
		if !isShaped(f) {
			t.Fatalf("no right branch: %v", f)
		}
		shapes[[2]int{len(f.Nodes), len(f.Data)}]++
		want(f)
		if got := impl.FsBlocks(f); !slices.Equal(got, fsTexts(f)) {
			t.Errorf("FsBlocks(%v) = %q", f, got)
		}
		if impl.FreeOf(f) != freeIn(f) {
			t.Errorf("FreeOf(%v) = %d", f, impl.FreeOf(f))
		}
	})
	if len(shapes) < 200 {
		t.Errorf("only %d shapes", len(shapes))
	}
}

// What can be read is written as it was.
func TestFsBlocksWrittenAsTheyWere(t *testing.T) {
	others := 0
	manyBranches(200, func(f fs) {
		list := fsTexts(f)
		for at, s := range list {
			for i := range len(s) {
				b := []byte(s)
				b[i] ^= 1
				turned := changed(list, at, string(b))
				got, ok := impl.FsOf(turned)
				if ok && (!impl.ShapeOk(got) || !slices.Equal(impl.FsBlocks(got), turned)) {
					t.Errorf("FsBlocks of FsOf(%q) is %q", turned, impl.FsBlocks(got))
				}
				if ok {
					others++
				}
			}
		}
	})
	if others < 500 {
		t.Errorf("only %d other branches", others)
	}
}

// roomyFs gives the branch with spare room behind each of its lists, and a
// function that tells whether all of it is as it was.
func roomyFs(f fs) (fs, func() bool) {
	data, sameData := roomyList(f.Data, "spare", "room", "here")
	checks := []func() bool{sameData}
	nodes := append(slices.Clone(f.Nodes), node{Kind: 9}, node{Kind: 8, Blocks: []int{7}})
	for i := range nodes {
		room, same := roomyList(nodes[i].Blocks, 7, 8, 9, 10, 11)
		nodes[i].Blocks = room
		checks = append(checks, same)
	}
	was := slices.Clone(nodes)
	return fs{Nodes: nodes[:len(f.Nodes)], Data: data}, func() bool {
		for _, same := range checks {
			if !same() {
				return false
			}
		}
		return slices.EqualFunc(nodes, was, sameNode)
	}
}

func TestBranchesLeaveArguments(t *testing.T) {
	other, otherSame := roomyFs(branch(3, 9, file(40, 1, 2, 3)))
	for name, f := range allBranches() {
		room, same := roomyFs(f)
		impl.ShapeOk(room)
		impl.FsBlocks(room)
		impl.HomesOf(room)
		impl.FreeOf(room)
		impl.FsSame(room, other)
		impl.FsSame(other, room)
		impl.Diff(room, other)
		impl.Diff(other, room)
		impl.Diff(room, room)
		if !same() || !otherSame() || !sameFs(room, f) {
			t.Errorf("%s: an argument was changed", name)
		}
		for _, texts := range [][]string{fsTexts(f), fsTexts(f)[1:], append(fsTexts(f), "")} {
			list, sameList := roomyList(texts, "spare", "room", "here")
			impl.FsOf(list)
			if !sameList() {
				t.Errorf("%s: the texts were changed", name)
			}
		}
	}
}

// fsListsShare tells whether any list of one is any list of the other.
func fsListsShare(a fs, b fs) bool {
	if sharesList(a.Nodes, b.Nodes) || sharesList(a.Data, b.Data) {
		return true
	}
	for _, n := range a.Nodes {
		for _, m := range b.Nodes {
			if sharesList(n.Blocks, m.Blocks) {
				return true
			}
		}
	}
	return false
}

// wantApart asks that no two nodes of one answer share their blocks.
func wantApart(t *testing.T, name string, f fs) {
	t.Helper()
	for i, n := range f.Nodes {
		for _, m := range f.Nodes[:i] {
			if sharesList(n.Blocks, m.Blocks) {
				t.Errorf("%s: two nodes share their blocks", name)
			}
		}
	}
}

// ownTexts gives each text anew: those of a literal may lie anywhere.
func ownTexts(list []string) []string {
	var own []string
	for _, s := range list {
		own = append(own, strings.Clone(s))
	}
	return own
}

func TestBranchesAnswerNewMemory(t *testing.T) {
	for name, f := range rightBranches() {
		f.Data = ownTexts(f.Data)
		list := impl.FsBlocks(f)
		if sharesList(list, f.Data) || sharesText(list, f.Data) {
			t.Errorf("%s: FsBlocks shares with its argument", name)
		}
		texts := ownTexts(list)
		first, _ := impl.FsOf(texts)
		second, _ := impl.FsOf(texts)
		wantApart(t, name, first)
		if fsListsShare(first, second) || sharesText(first.Data, second.Data) {
			t.Errorf("%s: two answers of FsOf share", name)
		}
		if sharesList(first.Data, texts) || sharesText(first.Data, texts) {
			t.Errorf("%s: FsOf shares with its argument", name)
		}
		for i := range first.Nodes {
			for k := range first.Nodes[i].Blocks {
				first.Nodes[i].Blocks[k] = -9
			}
			first.Nodes[i] = node{Kind: 77}
		}
		clear(first.Data)
		if !sameFs(second, f) || !slices.Equal(texts, fsTexts(f)) {
			t.Errorf("%s: %v turned with another answer", name, second)
		}
		wantDiffApart(t, name, f)
	}
}

func wantDiffApart(t *testing.T, name string, f fs) {
	t.Helper()
	empty := branch(len(f.Nodes), len(f.Data))
	for _, p := range impl.Diff(empty, f) {
		if sharesText([]string{p.Data}, f.Data) {
			t.Errorf("%s: Diff shares a text with its second argument", name)
		}
	}
	first, second := impl.Diff(empty, f), impl.Diff(empty, f)
	if sharesList(first, second) {
		t.Errorf("%s: two answers of Diff share", name)
	}
}

func TestFsNewAnswersNewMemory(t *testing.T) {
	first, _ := impl.FsNew(10, 36)
	second, _ := impl.FsNew(10, 36)
	wantApart(t, "FsNew", first)
	if fsListsShare(first, second) {
		t.Error("two answers of FsNew share")
	}
	for i := range first.Nodes {
		first.Nodes[i].Blocks = append(first.Nodes[i].Blocks, 7)
		first.Nodes[i].Kind = 9
	}
	for i := range first.Data {
		first.Data[i] = "x"
	}
	if !sameFs(second, branch(10, 36)) {
		t.Errorf("%v turned with another answer", second)
	}
	for i, n := range first.Nodes {
		if !slices.Equal(n.Blocks, []int{7}) {
			t.Errorf("node %d turned with another one", i)
		}
	}
}
