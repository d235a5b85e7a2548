package tests

import (
	"encoding/binary"
	"fmt"
	"math"
	"slices"
	"testing"

	"loop.example/g00483/impl"
)

type node = impl.Node

// blocksUpTo gives so many blocks, the last one being that one.
func blocksUpTo(last int, count int) []int {
	var list []int
	for i := range count {
		list = append(list, last-count+1+i)
	}
	return list
}

// sized gives a file of that size with the blocks that it needs.
func sized(size int) node {
	return node{Kind: impl.NdFile, Gen: 3, Time: 4, Size: size, Blocks: blocksUpTo(9, neededBlocks(size))}
}

// neededBlocks counts them one by one.
func neededBlocks(size int) int {
	count := 0
	for held := 0; held < size && count < 5; held += 16 {
		count++
	}
	return count
}

func rightNodes() map[string]node {
	return map[string]node{
		"free":                      {},
		"free, an empty list":       {Blocks: []int{}},
		"a file":                    {Kind: 1},
		"a directory":               {Kind: 2},
		"a link":                    {Kind: 3},
		"an empty list":             {Kind: 1, Blocks: []int{}},
		"a directory, empty list":   {Kind: 2, Blocks: []int{}},
		"a file, all":               {Kind: 1, Gen: 300, Time: 7, Size: 17, Blocks: []int{4, 2}},
		"a directory, all":          {Kind: 2, Size: 17, Blocks: []int{4, 2}},
		"a link, all":               {Kind: 3, Gen: 300, Time: 7, Size: 17, Blocks: []int{4, 2}},
		"a file, the greatest":      {Kind: 1, Gen: 1000000, Time: 100000, Size: 80, Blocks: []int{35, 34, 33, 32, 31}},
		"a directory, the greatest": {Kind: 2, Size: 80, Blocks: []int{35, 34, 33, 32, 31}},
		"a link, the greatest":      {Kind: 3, Gen: 1000000, Time: 100000, Size: 80, Blocks: []int{35, 34, 33, 32, 31}},
		"a Gen":                     {Kind: 1, Gen: 1},
		"the greatest Gen":          {Kind: 1, Gen: 1000000},
		"the greatest Gen but one":  {Kind: 3, Gen: 999999},
		"a Time":                    {Kind: 3, Time: 1},
		"the greatest Time":         {Kind: 3, Time: 100000},
		"the greatest Time but one": {Kind: 1, Time: 99999},
		"a Gen of one byte":         {Kind: 1, Gen: 127, Time: 127},
		"a Gen of two bytes":        {Kind: 1, Gen: 128, Time: 128},
		"the greatest of two bytes": {Kind: 3, Gen: 16383, Time: 16383},
		"a Gen of three bytes":      {Kind: 3, Gen: 16384, Time: 16384},
		"size 1":                    sized(1),
		"size 15":                   sized(15),
		"size 16":                   sized(16),
		"size 17":                   sized(17),
		"size 32":                   sized(32),
		"size 33":                   sized(33),
		"size 64":                   sized(64),
		"size 65":                   sized(65),
		"size 79":                   sized(79),
		"size 80":                   sized(80),
		"block 0":                   {Kind: 1, Size: 16, Blocks: []int{0}},
		"block 35":                  {Kind: 2, Size: 16, Blocks: []int{35}},
		"blocks 0 and 35":           {Kind: 3, Size: 17, Blocks: []int{35, 0}},
		"blocks in no order":        {Kind: 1, Size: 70, Blocks: []int{3, 35, 0, 17, 1}},
	}
}

// wrongNodes have one thing each that is wrong.
func wrongNodes() map[string]node {
	all := map[string]node{
		"kind -1":              {Kind: -1},
		"kind 4":               {Kind: 4},
		"kind 128":             {Kind: 128},
		"kind 256":             {Kind: 256},
		"kind 257":             {Kind: 257},
		"the least kind":       {Kind: math.MinInt},
		"the greatest kind":    {Kind: math.MaxInt},
		"kind 1 << 32":         {Kind: 1 << 32},
		"free with a Gen":      {Gen: 1},
		"free with a Gen -1":   {Gen: -1},
		"free with a Time":     {Time: 1},
		"free with a Time -1":  {Time: -1},
		"free with a Size":     {Size: 1},
		"free with a Size -1":  {Size: -1},
		"free with a block":    {Blocks: []int{0}},
		"free, Size and block": {Size: 1, Blocks: []int{0}},
		"directory, Gen":       {Kind: 2, Gen: 1},
		"directory, Gen -1":    {Kind: 2, Gen: -1},
		"directory, most Gen":  {Kind: 2, Gen: 1000000},
		"directory, Time":      {Kind: 2, Time: 1},
		"directory, Time -1":   {Kind: 2, Time: -1},
		"directory, most Time": {Kind: 2, Time: 100000},
		"directory, both":      {Kind: 2, Gen: 1, Time: 1, Size: 16, Blocks: []int{4}},
	}
	for kind := 1; kind <= 3; kind++ {
		for name, n := range map[string]node{
			"Gen -1":               {Gen: -1},
			"Gen 1000001":          {Gen: 1000001},
			"the least Gen":        {Gen: math.MinInt},
			"the greatest Gen":     {Gen: math.MaxInt},
			"Gen 1 << 32":          {Gen: 1 << 32},
			"Time -1":              {Time: -1},
			"Time 100001":          {Time: 100001},
			"the least Time":       {Time: math.MinInt},
			"the greatest Time":    {Time: math.MaxInt},
			"Size -1":              {Size: -1},
			"the least Size":       {Size: math.MinInt},
			"Size 81":              {Size: 81, Blocks: []int{0, 1, 2, 3, 4}},
			"Size 81, six":         {Size: 81, Blocks: []int{0, 1, 2, 3, 4, 5}},
			"the greatest Size":    {Size: math.MaxInt, Blocks: []int{0, 1, 2, 3, 4}},
			"Size 0, one block":    {Size: 0, Blocks: []int{0}},
			"Size 1, no block":     {Size: 1},
			"Size 1, two blocks":   {Size: 1, Blocks: []int{0, 1}},
			"Size 16, no block":    {Size: 16},
			"Size 16, two blocks":  {Size: 16, Blocks: []int{0, 1}},
			"Size 17, one block":   {Size: 17, Blocks: []int{0}},
			"Size 17, three":       {Size: 17, Blocks: []int{0, 1, 2}},
			"Size 80, four":        {Size: 80, Blocks: []int{0, 1, 2, 3}},
			"Size 80, six":         {Size: 80, Blocks: []int{0, 1, 2, 3, 4, 5}},
			"block -1":             {Size: 16, Blocks: []int{-1}},
			"block 36":             {Size: 16, Blocks: []int{36}},
			"block 36 behind":      {Size: 17, Blocks: []int{0, 36}},
			"block 36 ahead":       {Size: 17, Blocks: []int{36, 0}},
			"the least block":      {Size: 16, Blocks: []int{math.MinInt}},
			"the greatest block":   {Size: 16, Blocks: []int{math.MaxInt}},
			"block 1 << 32":        {Size: 16, Blocks: []int{1 << 32}},
			"alike":                {Size: 17, Blocks: []int{4, 4}},
			"alike ahead":          {Size: 80, Blocks: []int{1, 1, 2, 3, 4}},
			"alike in the middle":  {Size: 80, Blocks: []int{0, 1, 1, 3, 4}},
			"alike behind":         {Size: 80, Blocks: []int{0, 1, 2, 4, 4}},
			"alike and apart":      {Size: 33, Blocks: []int{7, 8, 7}},
			"alike, first to last": {Size: 80, Blocks: []int{0, 1, 2, 3, 0}},
			"all alike":            {Size: 80, Blocks: []int{9, 9, 9, 9, 9}},
		} {
			n.Kind = kind
			all[fmt.Sprint(name, " of kind ", kind)] = n
		}
	}
	return all
}

func allNodes() map[string]node {
	all := wrongNodes()
	for name, n := range rightNodes() {
		all[name] = n
	}
	return all
}

// sameNode is as the document has it: nil is an empty list.
func sameNode(a node, b node) bool {
	list := func(n node) []int { return append([]int{n.Kind, n.Gen, n.Time, n.Size}, n.Blocks...) }
	return slices.Equal(list(a), list(b))
}

// isRight tells whether a node is right, as the document says it.
func isRight(n node) bool {
	if n.Kind == 0 {
		return sameNode(n, node{})
	}
	if n.Kind < 1 || n.Kind > 3 || n.Gen < 0 || n.Gen > 1000000 || n.Time < 0 || n.Time > 100000 {
		return false
	}
	if n.Kind == 2 && n.Gen+n.Time > 0 {
		return false
	}
	seen := map[int]int{}
	for _, at := range n.Blocks {
		if seen[at]++; seen[at] > 1 || at < 0 || at > 35 {
			return false
		}
	}
	return n.Size >= 0 && n.Size <= 80 && len(n.Blocks) == neededBlocks(n.Size)
}

// nodeText gives the text that the document asks for, by the library's own
// numbers of seven bits a byte. It writes wrong nodes, too.
func nodeText(n node) string {
	if n.Kind == 0 && sameNode(n, node{}) {
		return "\x00"
	}
	b := []byte{byte(n.Kind)}
	for _, num := range append([]int{n.Gen, n.Time, n.Size}, n.Blocks...) {
		b = binary.AppendUvarint(b, uint64(num))
	}
	return string(b)
}

func wantNode(t *testing.T, s string, want node) {
	t.Helper()
	if got, ok := impl.NodeOf(s); !ok || !sameNode(got, want) {
		t.Errorf("NodeOf(%q) = %v, %t, want %v", s, got, ok, want)
	}
}

func wantNoNode(t *testing.T, s string) {
	t.Helper()
	if got, ok := impl.NodeOf(s); ok || !sameNode(got, node{}) {
		t.Errorf("NodeOf(%q) = %v, %t", s, got, ok)
	}
}

func TestNodeNumbers(t *testing.T) {
	got := []int{impl.BlockSize, impl.Direct, impl.MaxFile, impl.MaxData, impl.MaxGen, impl.MaxTime}
	if want := []int{16, 5, 80, 36, 1000000, 100000}; !slices.Equal(got, want) {
		t.Errorf("%v, want %v", got, want)
	}
	kinds := []int{impl.NdFree, impl.NdFile, impl.NdDir, impl.NdLink}
	if want := []int{0, 1, 2, 3}; !slices.Equal(kinds, want) {
		t.Errorf("%v, want %v", kinds, want)
	}
}

func TestBlocksFor(t *testing.T) {
	for size, want := range map[int]int{
		math.MinInt: 0, math.MinInt + 1: 0, math.MinInt + 15: 0, math.MinInt + 16: 0, -1 << 32: 0,
		-1000: 0, -17: 0, -16: 0, -15: 0, -3: 0, -1: 0, 0: 0,
		1: 1, 15: 1, 16: 1, 17: 2, 31: 2, 32: 2, 33: 3, 48: 3, 49: 4, 63: 4, 64: 4, 65: 5, 79: 5, 80: 5,
		81: 5, 96: 5, 97: 5, 1000: 5, 1 << 32: 5, 1<<32 + 1: 5, 1 << 62: 5,
		math.MaxInt - 16: 5, math.MaxInt - 15: 5, math.MaxInt - 14: 5, math.MaxInt - 1: 5, math.MaxInt: 5,
	} {
		if got := impl.BlocksFor(size); got != want {
			t.Errorf("BlocksFor(%d) = %d, want %d", size, got, want)
		}
	}
	for size := -200; size <= 400; size++ {
		if got := impl.BlocksFor(size); got != neededBlocks(size) {
			t.Errorf("BlocksFor(%d) = %d, want %d", size, got, neededBlocks(size))
		}
	}
}

func TestNodeOk(t *testing.T) {
	for name, n := range rightNodes() {
		if !impl.NodeOk(n) {
			t.Errorf("%s: NodeOk(%v) is false", name, n)
		}
	}
	for name, n := range wrongNodes() {
		if impl.NodeOk(n) {
			t.Errorf("%s: NodeOk(%v) is true", name, n)
		}
	}
}

// eachNode gives nodes of every kind with each of these numbers in each place.
func eachNode(each func(n node)) {
	rows := [][]int{nil, {}, {0}, {35}, {36}, {-1}, {3, 4}, {4, 3}, {4, 4}, {0, 1, 2}, {1, 2, 1}, {8, 7, 6, 5},
		{0, 1, 2, 3, 4}, {35, 34, 33, 32, 31}, {31, 32, 33, 34, 36}, {0, 1, 2, 3, 3}, {0, 1, 2, 3, 4, 5}}
	for kind := -1; kind <= 4; kind++ {
		for _, gen := range []int{-1, 0, 1, 127, 128, 1000000, 1000001} {
			for _, time := range []int{-1, 0, 1, 127, 128, 100000, 100001} {
				for _, size := range []int{-1, 0, 1, 16, 17, 33, 64, 65, 80, 81} {
					for _, blocks := range rows {
						each(node{Kind: kind, Gen: gen, Time: time, Size: size, Blocks: blocks})
					}
				}
			}
		}
	}
}

func TestNodeOkOfEachNode(t *testing.T) {
	right := 0
	eachNode(func(n node) {
		want := isRight(n)
		if impl.NodeOk(n) != want {
			t.Errorf("NodeOk(%v) is %t", n, !want)
		}
		if want {
			right++
		}
	})
	if right < 500 {
		t.Errorf("only %d right nodes", right)
	}
}

func TestNodeOkOfEachSize(t *testing.T) {
	for size := -20; size <= 120; size++ {
		for count := range 9 {
			for kind := 1; kind <= 3; kind++ {
				n := node{Kind: kind, Size: size, Blocks: blocksUpTo(20, count)}
				if want := size >= 0 && size <= 80 && count == neededBlocks(size); impl.NodeOk(n) != want {
					t.Errorf("%d blocks for size %d: NodeOk is %t", count, size, !want)
				}
			}
		}
	}
}

func TestNodeOkLooksAtEachBlock(t *testing.T) {
	for at := range 5 {
		for block := -3; block <= 40; block++ {
			n := node{Kind: impl.NdLink, Size: 80, Blocks: []int{10, 11, 12, 13, 14}}
			n.Blocks[at] = block
			want := block >= 0 && block <= 35 && (block == 10+at || block < 10 || block > 14)
			if impl.NodeOk(n) != want {
				t.Errorf("NodeOk(%v) is %t", n, !want)
			}
		}
	}
}

func TestNodeText(t *testing.T) {
	for _, c := range []struct {
		n    node
		want string
	}{
		{node{}, "\x00"},
		{node{Blocks: []int{}}, "\x00"},
		{node{Kind: 1}, "\x01\x00\x00\x00"},
		{node{Kind: 2}, "\x02\x00\x00\x00"},
		{node{Kind: 3}, "\x03\x00\x00\x00"},
		{node{Kind: 1, Gen: 1, Time: 2, Size: 3, Blocks: []int{4}}, "\x01\x01\x02\x03\x04"},
		{node{Kind: 2, Size: 16, Blocks: []int{35}}, "\x02\x00\x00\x10\x23"},
		{node{Kind: 3, Gen: 127, Time: 127, Size: 16, Blocks: []int{0}}, "\x03\x7f\x7f\x10\x00"},
		{node{Kind: 1, Gen: 128, Time: 300}, "\x01\x80\x01\xac\x02\x00"},
		{node{Kind: 3, Gen: 1000000, Time: 100000, Size: 80, Blocks: []int{5, 4, 3, 2, 1}},
			"\x03\xc0\x84\x3d\xa0\x8d\x06\x50\x05\x04\x03\x02\x01"},
		{node{Kind: 2, Size: 65, Blocks: []int{0, 9, 1, 8, 2}}, "\x02\x00\x00\x41\x00\x09\x01\x08\x02"},
	} {
		if got := impl.NodeText(c.n); got != c.want {
			t.Errorf("NodeText(%v) = %q, want %q", c.n, got, c.want)
		}
		wantNode(t, c.want, c.n)
	}
	for name, n := range rightNodes() {
		if got := impl.NodeText(n); got != nodeText(n) {
			t.Errorf("%s: NodeText = %q, want %q", name, got, nodeText(n))
		}
	}
	for name, n := range wrongNodes() {
		if got := impl.NodeText(n); got != "" {
			t.Errorf("%s: NodeText = %q", name, got)
		}
	}
}

func TestNodeTextOfEachNode(t *testing.T) {
	eachNode(func(n node) {
		want := ""
		if isRight(n) {
			want = nodeText(n)
		}
		if got := impl.NodeText(n); got != want {
			t.Errorf("NodeText(%v) = %q, want %q", n, got, want)
		}
	})
}

func TestNodeOfRefusesOtherSizes(t *testing.T) {
	wantNoNode(t, "")
	for _, n := range rightNodes() {
		s := nodeText(n)
		for size := range len(s) {
			wantNoNode(t, s[:size])
		}
		for at := range len(s) {
			wantAsModel(t, s[at:])
			wantAsModel(t, s[:at]+s[at+1:])
		}
		for c := range 256 {
			wantNoNode(t, s+string([]byte{byte(c)}))
		}
		wantNoNode(t, s+s)
		wantNoNode(t, s+textOf(1000))
	}
}

// wantAsModel is for texts that may be another node's by chance.
func wantAsModel(t *testing.T, s string) {
	t.Helper()
	if want := shortNode(s); want != nil {
		wantNode(t, s, *want)
	} else {
		wantNoNode(t, s)
	}
}

func TestNodeOfEachFirstByte(t *testing.T) {
	for c := range 256 {
		first := string([]byte{byte(c)})
		switch {
		case c == 0:
			wantNode(t, first, node{})
			wantNoNode(t, first+"\x00\x00\x00")
		case c <= 3:
			wantNoNode(t, first)
			wantNode(t, first+"\x00\x00\x00", node{Kind: c})
			wantNode(t, first+"\x00\x00\x10\x05", node{Kind: c, Size: 16, Blocks: []int{5}})
		default:
			for _, rest := range []string{"", "\x00", "\x00\x00", "\x00\x00\x00", "\x00\x00\x00\x00", "\x00\x00\x10\x05",
				"\x01\x00\x00\x00", "\x80\x00\x00\x00\x00"} {
				wantNoNode(t, first+rest)
			}
		}
	}
}

// longer gives the number with a byte more than it needs.
func longer(n int) string {
	b := binary.AppendUvarint(nil, uint64(n))
	b[len(b)-1] |= 128
	return string(append(b, 0))
}

func TestNodeOfRefusesLongNumbers(t *testing.T) {
	for _, n := range rightNodes() {
		if n.Kind == impl.NdFree {
			continue
		}
		nums := append([]int{n.Kind, n.Gen, n.Time, n.Size}, n.Blocks...)
		for long := range nums {
			s := ""
			for i, num := range nums {
				if i == long {
					s += longer(num)
				} else {
					s += string(binary.AppendUvarint(nil, uint64(num)))
				}
			}
			wantNoNode(t, s)
		}
	}
	for _, s := range []string{
		"\x80\x00", "\x81\x00\x00\x00\x00", "\x80\x80\x00", "\x01\x80\x00\x00\x00", "\x01\x00\x80\x00\x00",
		"\x01\x00\x00\x80\x00", "\x01\x00\x00\x01\x80\x00", "\x01\xff\x00\x00\x00", "\x01\x80\x80\x00\x00\x00",
	} {
		wantNoNode(t, s)
	}
}

func TestNodeOfRefuses(t *testing.T) {
	for _, n := range wrongNodes() {
		// A Kind that is no byte has no text.
		if n.Kind >= 0 && n.Kind <= 255 {
			wantNoNode(t, nodeText(n))
		}
	}
	for _, s := range []string{
		"\x00\x00", "\x00\x00\x00", "\x00\x00\x00\x00", "\x00\x01", "\x00?", "\x00\xff",
		"\x04\x00\x00\x00", "\xff\x00\x00\x00", "\xff\x01\x00\x00\x00", "1\x00\x00\x00", "?", "node",
		"\x01", "\x01\x00", "\x01\x00\x00", "\x01\x80", "\x01\x00\x00\x80", "\x01\x00\x00\xff\xff\xff\xff\xff",
		"\x01\xc1\x84\x3d\x00\x00",         // Gen 1000001
		"\x01\x00\xa1\x8d\x06\x00",         // Time 100001
		"\x01\xff\xff\xff\xff\x07\x00\x00", // Gen 2147483647
		"\x01\x80\x80\x80\x80\x08\x00\x00", // Gen 2147483648
		"\x01\xff\xff\xff\xff\xff\xff\xff\xff\xff\x01\x00\x00",
		"\x01\x00\x00\x51\x00\x01\x02\x03\x04",         // Size 81
		"\x01\x00\x00\x51\x00\x01\x02\x03\x04\x05",     // Size 81, six blocks
		"\x01\x00\x00\xff\xff\xff\xff\x07\x00",         // Size 2147483647
		"\x01\x00\x00\x10\x24",                         // block 36
		"\x01\x00\x00\x11\x04\x04",                     // blocks alike
		"\x01\x00\x00\x50\x00\x01\x02\x03\x00",         // blocks alike and apart
		"\x01\x00\x00\x10\xff\xff\xff\xff\x07",         // block 2147483647
		"\x01\x00\x00\x10\xff\xff\xff\xff\xff\xff\x7f", // a block that is no number
		"\x02\x01\x00\x00",                             // a directory with a Gen
		"\x02\x00\x01\x00",                             // a directory with a Time
		"\x02\x01\x01\x00",
	} {
		wantNoNode(t, s)
	}
}

// Of all short texts of a few bytes those are read that are a node's.
func TestNodeOfEachShortText(t *testing.T) {
	seen := 0
	everyText("\x00\x01\x02\x03\x11\x80\xff", 6, func(s string) {
		n, ok := impl.NodeOf(s)
		if want := shortNode(s); ok != (want != nil) || ok && !sameNode(n, *want) || !ok && !sameNode(n, node{}) {
			t.Fatalf("NodeOf(%q) = %v, %t", s, n, ok)
		}
		if ok {
			seen++
		}
	})
	if seen < 100 {
		t.Errorf("only %d nodes", seen)
	}
}

// shortNode reads the node by the library's own numbers; nil, where the text
// is none's.
func shortNode(s string) *node {
	if s == "" {
		return nil
	}
	var nums []int
	for rest := []byte(s[1:]); len(rest) > 0; {
		num, size := binary.Uvarint(rest)
		if size <= 0 || num > maxNum {
			return nil
		}
		nums, rest = append(nums, int(num)), rest[size:]
	}
	n := node{Kind: int(s[0])}
	if len(nums) >= 3 {
		n.Gen, n.Time, n.Size, n.Blocks = nums[0], nums[1], nums[2], nums[3:]
	}
	if !isRight(n) || nodeText(n) != s {
		return nil
	}
	return &n
}

func TestNodeReadAsItWas(t *testing.T) {
	want := func(n node) {
		t.Helper()
		if got, ok := impl.NodeOf(impl.NodeText(n)); !ok || !sameNode(got, n) || !impl.NodeSame(got, n) {
			t.Errorf("NodeOf of NodeText of %v is %v, %t", n, got, ok)
		}
	}
	for _, n := range rightNodes() {
		want(n)
	}
	eachNode(func(n node) {
		if isRight(n) {
			want(n)
		}
	})
	for _, kind := range []int{impl.NdFile, impl.NdLink} {
		for gen := 0; gen <= 1000000; gen += 977 {
			want(node{Kind: kind, Gen: gen})
		}
		for time := 0; time <= 100000; time += 97 {
			want(node{Kind: kind, Gen: 2, Time: time, Size: 1, Blocks: []int{35}})
		}
	}
	for size := 0; size <= 80; size++ {
		for last := 4; last <= 35; last++ {
			for kind := 1; kind <= 3; kind++ {
				want(node{Kind: kind, Size: size, Blocks: blocksUpTo(last, neededBlocks(size))})
			}
		}
	}
}

// What can be read is written as it was; each text is one node's alone.
func TestNodeTextWrittenAsItWas(t *testing.T) {
	want := func(s string) {
		if n, ok := impl.NodeOf(s); ok && (!impl.NodeOk(n) || impl.NodeText(n) != s) {
			t.Errorf("NodeText of NodeOf(%q) is %q", s, impl.NodeText(n))
		}
	}
	everyText("\x00\x01\x02\x03\x10\x23\x24\x80", 6, want)
	for _, n := range rightNodes() {
		s := nodeText(n)
		for at := range len(s) {
			for c := range 256 {
				b := []byte(s)
				b[at] = byte(c)
				want(string(b))
			}
		}
	}
}

func TestNodeSame(t *testing.T) {
	base := node{Kind: 1, Gen: 2, Time: 3, Size: 40, Blocks: []int{5, 6, 7}}
	for name, n := range map[string]node{
		"another Kind":         {Kind: 3, Gen: 2, Time: 3, Size: 40, Blocks: []int{5, 6, 7}},
		"another Gen":          {Kind: 1, Gen: 3, Time: 3, Size: 40, Blocks: []int{5, 6, 7}},
		"another Time":         {Kind: 1, Gen: 2, Time: 2, Size: 40, Blocks: []int{5, 6, 7}},
		"another Size":         {Kind: 1, Gen: 2, Time: 3, Size: 41, Blocks: []int{5, 6, 7}},
		"another first block":  {Kind: 1, Gen: 2, Time: 3, Size: 40, Blocks: []int{4, 6, 7}},
		"another second block": {Kind: 1, Gen: 2, Time: 3, Size: 40, Blocks: []int{5, 8, 7}},
		"another last block":   {Kind: 1, Gen: 2, Time: 3, Size: 40, Blocks: []int{5, 6, 8}},
		"blocks turned round":  {Kind: 1, Gen: 2, Time: 3, Size: 40, Blocks: []int{7, 6, 5}},
		"a block less":         {Kind: 1, Gen: 2, Time: 3, Size: 40, Blocks: []int{5, 6}},
		"the first one less":   {Kind: 1, Gen: 2, Time: 3, Size: 40, Blocks: []int{6, 7}},
		"a block more":         {Kind: 1, Gen: 2, Time: 3, Size: 40, Blocks: []int{5, 6, 7, 8}},
		"a block 0 more":       {Kind: 1, Gen: 2, Time: 3, Size: 40, Blocks: []int{5, 6, 7, 0}},
		"no block":             {Kind: 1, Gen: 2, Time: 3, Size: 40},
		"all zero":             {},
	} {
		if impl.NodeSame(base, n) || impl.NodeSame(n, base) {
			t.Errorf("%s: NodeSame is true", name)
		}
	}
	if !impl.NodeSame(base, node{Kind: 1, Gen: 2, Time: 3, Size: 40, Blocks: []int{5, 6, 7}}) {
		t.Error("NodeSame of two that are alike is false")
	}
	for kind := -1; kind <= 4; kind++ {
		if !impl.NodeSame(node{Kind: kind}, node{Kind: kind, Blocks: []int{}}) ||
			!impl.NodeSame(node{Kind: kind, Blocks: []int{}}, node{Kind: kind}) {
			t.Errorf("kind %d: NodeSame of nil and an empty list is false", kind)
		}
	}
}

func TestNodeSameOfAllNodes(t *testing.T) {
	all := allNodes()
	for first, a := range all {
		again := a
		again.Blocks = append(make([]int, 0, 20), a.Blocks...)
		if !impl.NodeSame(a, again) {
			t.Errorf("%s: NodeSame of its copy is false", first)
		}
		for second, b := range all {
			if want := sameNode(a, b); impl.NodeSame(a, b) != want {
				t.Errorf("%s, %s: NodeSame is %t", first, second, !want)
			}
		}
	}
}

func TestNodesLeaveArguments(t *testing.T) {
	all := allNodes()
	for name, n := range all {
		room, same := roomyList(n.Blocks, 7, 8, 9, 10, 11, 12)
		n.Blocks = room
		was := n
		impl.NodeOk(n)
		impl.NodeText(n)
		for _, other := range all {
			impl.NodeSame(n, other)
			impl.NodeSame(other, n)
		}
		if !same() || !sameNode(n, was) {
			t.Errorf("%s: the argument was changed", name)
		}
	}
}

func TestNodesAnswerNewMemory(t *testing.T) {
	for name, n := range rightNodes() {
		s := nodeText(n)
		text := impl.NodeText(n)
		first, _ := impl.NodeOf(text)
		second, _ := impl.NodeOf(text)
		if sharesList(first.Blocks, second.Blocks) || sharesList(first.Blocks, n.Blocks) {
			t.Errorf("%s: two nodes share their blocks", name)
		}
		for i := range first.Blocks[:cap(first.Blocks)] {
			first.Blocks[:cap(first.Blocks)][i] = -9
		}
		if text != s || !sameNode(second, n) {
			t.Errorf("%s: %q, %v turned with another answer", name, text, second)
		}
		if again := impl.NodeText(n); len(s) > 1 && shareText(again, text) {
			t.Errorf("%s: NodeText answers one text twice", name)
		}
	}
}
