package tests

import (
	"fmt"
	"maps"
	"slices"
	"strings"
	"testing"

	"loop.example/g00483/impl"
)

// A spot is a node, with what it holds.
type spot struct {
	kind  int
	holds string
}

func fileOf(s string) spot { return spot{kind: 1, holds: s} }

func linkOf(s string) spot { return spot{kind: 3, holds: s} }

// to is an entry; a directory need not hold them in order.
func to(name string, at int) entry { return entry{Name: name, Node: at} }

func dirWith(list ...entry) spot { return spot{kind: 2, holds: dirText(list)} }

// stocked gives a branch of these nodes, the first one the root, in the lowest
// blocks.
func stocked(nodes int, data int, some ...spot) fs {
	f := rooted(nodes, data)
	blocks := 0
	for i, s := range some {
		n := node{Kind: s.kind, Size: len(s.holds)}
		for _, text := range cutUp(s.holds) {
			f.Data[blocks] = text
			n.Blocks = append(n.Blocks, blocks)
			blocks++
		}
		if s.kind == 1 || s.kind == 3 {
			n.Gen, n.Time = 3+i, 40+i
		}
		f.Nodes[i] = n
	}
	return f
}

// grown is stocked with ten nodes and 36 data.
func grown(some ...spot) fs { return stocked(10, 36, some...) }

// chain gives directories in one another, and at the end, behind so many names,
// that spot.
func chain(deep int, end spot) fs {
	var list []spot
	for i := range deep {
		list = append(list, dirWith(to("a", i+1)))
	}
	return grown(append(list, end)...)
}

// wideTree has files, links and directories at every depth.
func wideTree() fs {
	return grown(
		dirWith(to("a", 1), to("b", 4), to("c", 7), to("zzzzzz", 9)),
		dirWith(to("b", 3), to("x", 2)),
		fileOf("two"),
		dirWith(to("0", 8), to("x", 5)),
		linkOf("/a/b"),
		dirWith(to("y", 6)),
		fileOf(textFor(70)),
		dirWith(),
		linkOf(""),
		fileOf(""),
	)
}

// hidingTree holds that text in the hidden file.
func hidingTree(s string) fs {
	return grown(dirWith(to("a", 1), to("zzzzzz", 3), to("~", 2)), dirWith(to("z", 4)), fileOf(s), fileOf("three"), fileOf("four"))
}

func rightTrees() map[string]fs {
	return map[string]fs{
		"a file":                stocked(2, 2, dirWith(to("a", 1)), fileOf("x")),
		"an empty file":         stocked(2, 1, dirWith(to("a", 1)), fileOf("")),
		"a link":                stocked(2, 2, dirWith(to("a", 1)), linkOf("/x")),
		"a directory":           stocked(2, 1, dirWith(to("a", 1)), dirWith()),
		"of every depth":        wideTree(),
		"full":                  grown(turnedRoot(), fileOf("i"), linkOf("h"), dirWith(), fileOf("f"), linkOf("e"), dirWith(), fileOf("c"), linkOf("b"), dirWith()),
		"free nodes between":    grown(dirWith(to("a", 9), to("b", 4)), spot{}, spot{}, spot{}, dirWith(to("a", 7)), spot{}, spot{}, linkOf("x"), spot{}, fileOf("y")),
		"nodes turned round":    grown(dirWith(to("a", 3)), fileOf("x"), dirWith(to("a", 1)), dirWith(to("a", 2))),
		"a name again below":    grown(dirWith(to("a", 1), to("b", 2)), dirWith(to("a", 3), to("b", 4)), fileOf("x"), fileOf("y"), linkOf("z")),
		"hidden":                hidingTree("so"),
		"hidden, empty":         hidingTree(""),
		"hidden, the greatest":  hidingTree(textFor(80)),
		"hidden alone":          stocked(2, 2, dirWith(to("~", 1)), fileOf("x")),
		"hidden, node 9":        grown(dirWith(to("a", 1), to("~", 9)), fileOf(""), spot{}, spot{}, spot{}, spot{}, spot{}, spot{}, spot{}, fileOf("x")),
		"texts like entries":    grown(dirWith(to("a", 1), to("b", 2)), fileOf("\x01x\x01"), linkOf("\x01y\x00")),
		"four deep, a file":     chain(4, fileOf("x")),
		"four deep, a link":     chain(4, linkOf("x")),
		"four deep, directory":  chain(4, dirWith()),
		"three deep":            chain(3, dirWith()),
		"two of four deep":      grown(dirWith(to("a", 1), to("b", 5)), dirWith(to("a", 2)), dirWith(to("a", 3)), dirWith(to("a", 4)), fileOf(""), dirWith(to("b", 6)), dirWith(to("b", 7)), dirWith(to("b", 8)), linkOf("")),
		"blocks in no order":    scattered(9, []spot{dirWith(to("abcdef", 1), to("ghijkl", 2), to("mno", 3)), fileOf(textFor(33)), linkOf(""), dirWith()}, dice(1)),
		"a directory of blocks": grown(dirWith(to("aaaaaa", 1)), dirWith(to("aaaaaa", 2), to("bbbbbb", 3), to("cccccc", 4), to("dddddd", 5), to("eeeeee", 6), to("ffffff", 7), to("gggggg", 8), to("hhhhhh", 9)), fileOf(""), fileOf(""), fileOf(""), fileOf(""), fileOf(""), fileOf(""), fileOf(""), fileOf("")),
	}
}

// turnedRoot names nine nodes, the last one first.
func turnedRoot() spot { return dirWith(turnedRound(longNames...)...) }

// brokenTrees are right in shape, but do not hang together.
func brokenTrees() map[string]fs {
	all := map[string]fs{
		"a node not there":         stocked(3, 9, dirWith(to("a", 3))),
		"one behind, not there":    stocked(3, 9, dirWith(to("a", 1), to("b", 3)), fileOf("x")),
		"below, not there":         stocked(3, 9, dirWith(to("a", 1)), dirWith(to("b", 3))),
		"node 9 of 9":              stocked(9, 9, dirWith(to("a", 9))),
		"node 2 of 2":              stocked(2, 9, dirWith(to("a", 2))),
		"hidden, not there":        stocked(3, 9, dirWith(to("~", 3))),
		"a free node":              stocked(3, 9, dirWith(to("a", 1))),
		"a free node behind":       stocked(3, 9, dirWith(to("a", 1), to("b", 2)), fileOf("x")),
		"a free node below":        stocked(3, 9, dirWith(to("a", 1)), dirWith(to("b", 2))),
		"a free hidden node":       stocked(3, 9, dirWith(to("~", 1))),
		"the root's node":          stocked(3, 9, dirWith(to("a", 0))),
		"the root's below":         stocked(3, 9, dirWith(to("a", 1)), dirWith(to("a", 0))),
		"the root's hidden":        stocked(3, 9, dirWith(to("~", 0))),
		"two entries' node":        stocked(3, 9, dirWith(to("a", 1), to("b", 1)), fileOf("x")),
		"two entries', one hidden": stocked(3, 9, dirWith(to("a", 1), to("~", 1)), fileOf("x")),
		"two directories' node":    grown(dirWith(to("a", 1), to("b", 2)), dirWith(to("x", 3)), dirWith(to("x", 3)), fileOf("x")),
		"two, other names":         grown(dirWith(to("a", 1), to("b", 2)), dirWith(to("x", 3)), dirWith(to("y", 3)), fileOf("x")),
		"two, a directory's":       grown(dirWith(to("a", 1), to("b", 2)), dirWith(to("x", 3)), dirWith(to("x", 3)), dirWith()),
		"two, one below the other": grown(dirWith(to("a", 1), to("b", 2)), dirWith(to("b", 2)), dirWith()),
		"the root's and another's": grown(dirWith(to("a", 1), to("b", 2)), dirWith(to("x", 2)), linkOf("x")),
		"the hidden one's":         grown(dirWith(to("a", 1), to("~", 2)), dirWith(to("x", 2)), fileOf("x")),
		"its own":                  grown(dirWith(to("a", 1)), dirWith(to("a", 1))),
		"its own, among others":    grown(dirWith(to("a", 1)), dirWith(to("a", 2), to("b", 1)), fileOf("x")),
		"its own, nobody else's":   grown(dirWith(), dirWith(to("a", 1))),
		"one above it":             grown(dirWith(to("a", 1)), dirWith(to("b", 2)), dirWith(to("c", 1))),
		"each other":               grown(dirWith(), dirWith(to("a", 2)), dirWith(to("a", 1))),
		"each other, beside one":   grown(dirWith(to("a", 3)), dirWith(to("a", 2)), dirWith(to("a", 1)), fileOf("x")),
		"each other, with a file":  grown(dirWith(), dirWith(to("a", 2), to("b", 3)), dirWith(to("a", 1)), fileOf("x")),
		"three in a ring":          grown(dirWith(), dirWith(to("a", 2)), dirWith(to("a", 3)), dirWith(to("a", 1))),
		"nobody's file":            grown(dirWith(to("a", 1)), fileOf("x"), fileOf("y")),
		"nobody's empty file":      grown(dirWith(), fileOf("")),
		"nobody's link":            grown(dirWith(to("a", 1)), fileOf("x"), linkOf("y")),
		"nobody's directory":       grown(dirWith(to("a", 1)), fileOf("x"), dirWith()),
		"nobody's, full":           grown(dirWith(to("a", 1)), fileOf("x"), dirWith(to("a", 3)), fileOf("z")),
		"nobody's last node":       grown(turnedRootBut(9), fileOf(""), fileOf(""), fileOf(""), fileOf(""), fileOf(""), fileOf(""), fileOf(""), fileOf(""), fileOf("")),
		"nobody's first node":      grown(turnedRootBut(1), fileOf(""), fileOf(""), fileOf(""), fileOf(""), fileOf(""), fileOf(""), fileOf(""), fileOf(""), fileOf("")),
		"hidden, a directory":      grown(dirWith(to("~", 1)), dirWith()),
		"hidden, a full directory": grown(dirWith(to("~", 1)), dirWith(to("a", 2)), fileOf("x")),
		"hidden, a link":           grown(dirWith(to("a", 2), to("~", 1)), linkOf("x"), fileOf("x")),
		"hidden below":             grown(dirWith(to("a", 1)), dirWith(to("~", 2)), fileOf("x")),
		"hidden below, and above":  grown(dirWith(to("a", 1), to("~", 3)), dirWith(to("~", 2)), fileOf("x"), fileOf("y")),
		"hidden deep below":        grown(dirWith(to("a", 1)), dirWith(to("a", 2)), dirWith(to("a", 3)), dirWith(to("~", 4)), fileOf("x")),
		"hidden twice":             grown(dirWith(to("~", 1), to("~", 2)), fileOf("x"), fileOf("y")),
		"five deep, a file":        chain(5, fileOf("x")),
		"five deep, a link":        chain(5, linkOf("x")),
		"five deep, directory":     chain(5, dirWith()),
		"nine deep":                chain(9, dirWith()),
		"five deep, hidden":        grown(dirWith(to("a", 1)), dirWith(to("a", 2)), dirWith(to("a", 3)), dirWith(to("a", 4)), dirWith(to("~", 5)), fileOf("x")),
		"five deep behind one":     grown(dirWith(to("a", 1), to("b", 2)), fileOf("x"), dirWith(to("a", 3)), dirWith(to("b", 4)), dirWith(to("a", 5)), dirWith(to("a", 6)), linkOf("x")),
	}
	for i, s := range noDirTexts() {
		all[fmt.Sprint("root's text ", i)] = grown(spot{kind: 2, holds: s}, fileOf("x"), fileOf("y"))
		all[fmt.Sprint("text below ", i)] = grown(dirWith(to("a", 1)), spot{kind: 2, holds: s}, fileOf("y"))
		all[fmt.Sprint("nobody's text ", i)] = grown(dirWith(to("a", 1)), fileOf("y"), spot{kind: 2, holds: s})
	}
	return all
}

// turnedRootBut leaves out that node.
func turnedRootBut(at int) spot {
	return dirWith(slices.DeleteFunc(turnedRound(longNames...), func(e entry) bool { return e.Node == at })...)
}

// noDirTexts are texts that a node can hold, but no directory.
func noDirTexts() []string {
	list := []string{
		"x", "\x00", "\x01", "\x01a", "\x01a\x01 ", "\x01a\x01\x01", "\x01a\x01\x01b", "\x01a\x81\x00", "\x81\x00a\x01", "\x00\x01", "\x02a\x01",
		"\x01A\x01", "\x01/\x01", "\x01.\x01", "\x02..\x01", "\x07abcdefg\x01", "\x01b\x02\x01a\x01", "\x01a\x01\x01a\x02", "\x01~\x01\x01a\x02",
		"\x01a\x00", "\x01a\x0a", "\x01a\x7f", "\x01a\x01\x01b\x01", "\xff\xff\xff\xff\x07", "BASN", textFor(80),
	}
	return append(list, strings.Repeat("\x01a\x01", 26), textFor(16), strings.Repeat("\x00", 80))
}

// shapeFaults are what becomes of a branch that hangs together by one thing each
// that is wrong in its shape; it has a file of two blocks at node 1, and block 30
// is free.
func shapeFaults(f fs) map[string]fs {
	turned := func(at int, turn func(n *node)) fs {
		g := copied(f)
		turn(&g.Nodes[at])
		return g
	}
	blocks := f.Nodes[1].Blocks
	return map[string]fs{
		"a node more":           {Nodes: append(copied(f).Nodes, node{}), Data: f.Data},
		"one node":              {Nodes: []node{{Kind: 2}}, Data: make([]string, 36)},
		"no node":               {Data: f.Data},
		"a text more":           {Nodes: f.Nodes, Data: append(copied(f).Data, "")},
		"no data":               {Nodes: []node{{Kind: 2}, {}}},
		"nobody's text":         with(f, 30, "x"),
		"an empty block":        with(f, blocks[1], ""),
		"a short block":         with(f, blocks[0], textOf(15)),
		"a long block":          with(f, blocks[0], textOf(17)),
		"a longer last block":   with(f, blocks[1], f.Data[blocks[1]]+"x"),
		"a root with a Gen":     turned(0, func(n *node) { n.Gen = 1 }),
		"a root with a Time":    turned(0, func(n *node) { n.Time = 1 }),
		"a file for a root":     turned(0, func(n *node) { n.Kind = 1 }),
		"a link for a root":     turned(0, func(n *node) { n.Kind = 3 }),
		"a free root":           turned(0, func(n *node) { *n = node{} }),
		"a Gen too great":       turned(1, func(n *node) { n.Gen = 1000001 }),
		"a Gen below 0":         turned(1, func(n *node) { n.Gen = -1 }),
		"a Time too great":      turned(1, func(n *node) { n.Time = 100001 }),
		"a Size less":           turned(1, func(n *node) { n.Size-- }),
		"a Size more":           turned(1, func(n *node) { n.Size++ }),
		"a Size too great":      turned(1, func(n *node) { n.Size = 81 }),
		"kind 4":                turned(1, func(n *node) { n.Kind = 4 }),
		"a block less":          turned(1, func(n *node) { n.Blocks = n.Blocks[:1] }),
		"a block more":          turned(1, func(n *node) { n.Blocks = append(n.Blocks, 30) }),
		"a block twice":         turned(1, func(n *node) { n.Blocks[1] = n.Blocks[0] }),
		"another one's block":   turned(1, func(n *node) { n.Blocks[0] = 0 }),
		"a block not there":     turned(1, func(n *node) { n.Blocks[1] = 36 }),
		"block -1":              turned(1, func(n *node) { n.Blocks[0] = -1 }),
		"a free node's Time":    turned(9, func(n *node) { n.Time = 1 }),
		"a free node's block":   turned(9, func(n *node) { n.Blocks = []int{30} }),
		"a freed node's blocks": turned(1, func(n *node) { *n = node{} }),
	}
}

// wrongTrees are all that do not hang together, in shape or not.
func wrongTrees() map[string]fs {
	all := brokenTrees()
	for name, f := range wrongBranches() {
		all["shape: "+name] = f
	}
	for name, f := range shapeFaults(grown(dirWith(to("a", 1), to("b", 2), to("~", 3)), fileOf(textFor(20)), dirWith(), fileOf("x"))) {
		all["shape, hung: "+name] = f
	}
	return all
}

func allTrees() map[string]fs {
	all := wrongTrees()
	for name, f := range rightTrees() {
		all["right: "+name] = f
	}
	return all
}

// namedBy gives for each node the directory that names it, and how; false,
// where one is named twice, or what a directory holds is none of a right one's.
func namedBy(f fs) (map[int]int, map[int]string, bool) {
	above, names := map[int]int{}, map[int]string{}
	for i, n := range f.Nodes {
		if n.Kind != 2 {
			continue
		}
		list, ok := dirOf(read(f, i))
		if !ok {
			return nil, nil, false
		}
		for _, e := range list {
			_, twice := above[e.Node]
			if twice || e.Node >= len(f.Nodes) || f.Nodes[e.Node].Kind == 0 {
				return nil, nil, false
			}
			if e.Name == "~" && (i != 0 || f.Nodes[e.Node].Kind != 1) {
				return nil, nil, false
			}
			above[e.Node], names[e.Node] = i, e.Name
		}
	}
	return above, names, true
}

// pathsIn gives the nodes of a branch by their paths, each of which it goes up
// from its node to the root; false, where it doesn't hang together. The hidden
// file has the path /~ here.
func pathsIn(f fs) (map[string]int, bool) {
	if !isShaped(f) {
		return nil, false
	}
	above, names, ok := namedBy(f)
	if !ok {
		return nil, false
	}
	paths := map[string]int{"/": 0}
	for i, n := range f.Nodes {
		if n.Kind == 0 || i == 0 {
			continue
		}
		path := ""
		for at := i; at != 0; at = above[at] {
			if _, ok := above[at]; !ok || strings.Count(path, "/") == 4 {
				return nil, false
			}
			path = "/" + names[at] + path
		}
		paths[path] = i
	}
	return paths, true
}

func isHung(f fs) bool {
	_, ok := pathsIn(f)
	return ok
}

// hiddenIn gives what the document says of the hidden file.
func hiddenIn(f fs) (string, bool) {
	paths, _ := pathsIn(f)
	at, ok := paths["/~"]
	if !ok {
		return "", false
	}
	return read(f, at), true
}

// askedPaths are those of the branch, others beside and behind them, and wrong
// ones.
func askedPaths(f fs) []string {
	list := slices.Concat(somePaths, noPaths, []string{"/~", "/~/a", "/a/~", "~", "/~~"})
	paths, _ := pathsIn(f)
	for p := range paths {
		list = append(list, p, p[1:], p+"/", p+"//", "/"+p, p+"/.", p+"/..", p+"/a", p+"/x", p+"/~", p+"x", p+"0", p[:len(p)-1], p+"/a/b", p+"/abcdefg", p+"\x00")
	}
	return list
}

// wantWalk asks of one path for what the document says.
func wantWalk(t *testing.T, f fs, path string, paths map[string]int) {
	t.Helper()
	want, kind := -1, 0
	if at, ok := paths[path]; ok && path != "/~" {
		want, kind = at, f.Nodes[at].Kind
	}
	if got := impl.Walk(f, path); got != want {
		t.Fatalf("Walk(%v, %q) = %d, want %d", f, path, got, want)
	}
	if got := impl.KindAt(f, path); got != kind {
		t.Fatalf("KindAt(%v, %q) = %d, want %d", f, path, got, kind)
	}
}

// wantHung asks for all that the document says of a branch; it tells whether it
// hangs together.
func wantHung(t *testing.T, f fs) bool {
	t.Helper()
	paths, want := pathsIn(f)
	if got := impl.FsOk(f); got != want {
		t.Fatalf("FsOk(%v) is %t", f, got)
	}
	wantHidden(t, f)
	for p := range paths {
		wantWalk(t, f, p, paths)
	}
	if !want {
		wantWalk(t, f, "/", nil)
		wantWalk(t, f, "/a", nil)
	}
	return want
}

func wantHidden(t *testing.T, f fs) {
	t.Helper()
	want, wantOk := hiddenIn(f)
	if got, ok := impl.HiddenOf(f); ok != wantOk || got != want {
		t.Fatalf("HiddenOf(%v) = %q, %t, want %q, %t", f, got, ok, want, wantOk)
	}
}

func TestFsOk(t *testing.T) {
	for name, f := range rightTrees() {
		if !isHung(f) || !impl.FsOk(f) {
			t.Errorf("%s: FsOk(%v) is %t", name, f, impl.FsOk(f))
		}
	}
	for name, f := range brokenTrees() {
		if !isShaped(f) {
			t.Errorf("%s: no right shape: %v", name, f)
		}
	}
	for name, f := range wrongTrees() {
		if isHung(f) || impl.FsOk(f) {
			t.Errorf("%s: FsOk(%v) is %t", name, f, impl.FsOk(f))
		}
	}
}

func TestFsOkOfEachNewBranch(t *testing.T) {
	for nodes := range 13 {
		for data := range 39 {
			f, ok := impl.FsNew(nodes, data)
			if impl.FsOk(f) != ok || ok != (nodes >= 2 && nodes <= 10 && data >= 1 && data <= 36) {
				t.Errorf("%d nodes, %d data: FsOk is %t", nodes, data, impl.FsOk(f))
			}
			if ok && (impl.Walk(f, "/") != 0 || impl.Walk(f, "/a") != -1 || impl.KindAt(f, "/") != impl.NdDir) {
				t.Errorf("%d nodes, %d data: Walk is %d and %d", nodes, data, impl.Walk(f, "/"), impl.Walk(f, "/a"))
			}
		}
	}
}

func TestFsOkOfEachDepth(t *testing.T) {
	for deep := range 10 {
		for kind, end := range []spot{dirWith(), fileOf("x"), linkOf("x"), dirWith(to("b", 9)), dirWith(to("~", 9))} {
			f := chain(deep, end)
			if kind > 2 {
				f.Nodes[9] = node{Kind: 1}
			}
			right := deep <= 4
			switch {
			case kind == 1 || kind == 2:
				right = right && deep > 0
			case kind == 3:
				right = deep < 4
			case kind == 4:
				right = deep == 0
			}
			if got := wantHung(t, f); got != right {
				t.Errorf("%d deep, kind %d: FsOk is %t", deep, kind, got)
			}
		}
	}
}

// A node may have each number that is there, in each directory.
func TestFsOkOfEachNumber(t *testing.T) {
	for nodes := 2; nodes <= 10; nodes++ {
		for at := range 128 {
			for _, below := range []bool{false, true} {
				f := stocked(nodes, 9, dirWith(to("a", at)))
				if below && nodes > 2 {
					f = stocked(nodes, 9, dirWith(to("a", 1)), dirWith(to("a", at)))
				}
				if at < nodes && f.Nodes[at].Kind == 0 {
					if wantHung(t, f) {
						t.Errorf("node %d of %d is free: FsOk is true", at, nodes)
					}
					f.Nodes[at].Kind = 3
				}
				right := at >= 1 && at < nodes && (at > 1 || !below || nodes == 2)
				if got := wantHung(t, f); got != right {
					t.Errorf("node %d of %d: FsOk is %t", at, nodes, got)
				}
			}
		}
	}
}

func TestFsOkWithHidden(t *testing.T) {
	for kind := range 4 {
		end := spot{kind: kind}
		for place, f := range []fs{
			grown(dirWith(to("~", 1)), end),
			grown(dirWith(to("a", 2), to("~", 1)), end, fileOf("x")),
			grown(dirWith(to("a", 2)), end, dirWith(to("~", 1))),
			grown(dirWith(to("a", 2)), end, dirWith(to("b", 3), to("~", 1)), linkOf("x")),
			grown(dirWith(to("a", 2), to("~", 3)), end, dirWith(to("~", 1)), fileOf("x")),
			grown(dirWith(to("a", 2)), end, dirWith(to("a", 3)), dirWith(to("~", 1))),
		} {
			if got := wantHung(t, f); got != (kind == 1 && place < 2) {
				t.Errorf("hidden at %d, of kind %d: FsOk is %t", place, kind, got)
			}
		}
	}
}

// treeTexts are what a directory of a small branch holds.
var treeTexts = []string{
	"", "\x01a\x01", "\x01a\x02", "\x01a\x03", "\x01b\x01", "\x01~\x01", "\x01~\x03", "\x01a\x01\x01b\x02",
	"\x01a\x02\x01b\x03", "\x01a\x03\x01b\x01", "\x01a\x01\x01~\x02", "\x01a\x01\x01b\x02\x01c\x03", "\x01a",
}

// Each branch of four nodes whose directories hold such texts.
func TestFsOkOfEachSmallTree(t *testing.T) {
	kinds := []spot{{}, fileOf("x"), linkOf("")}
	for _, s := range treeTexts {
		kinds = append(kinds, spot{kind: 2, holds: s})
	}
	right := 0
	for _, root := range kinds[3:] {
		for _, first := range kinds {
			for _, second := range kinds {
				for _, third := range kinds {
					if wantHung(t, stocked(4, 4, root, first, second, third)) {
						right++
					}
				}
			}
		}
	}
	if right < 100 {
		t.Errorf("only %d right ones", right)
	}
}

func TestWalk(t *testing.T) {
	f := wideTree()
	for path, want := range map[string]int{
		"/": 0, "/a": 1, "/a/x": 2, "/a/b": 3, "/b": 4, "/a/b/x": 5, "/a/b/x/y": 6, "/c": 7, "/a/b/0": 8, "/zzzzzz": 9,
		"/a/c": -1, "/x": -1, "/d": -1, "/aa": -1, "/a/b/x/x": -1, "/a/b/y": -1, "/a/a": -1, "/b/x": -1, "/a/x/b": -1,
		"/zzzzzz/a": -1, "/a/x/a": -1, "/b/a": -1, "/a/b/0/a": -1, "/c/a": -1, "/c/a/b": -1, "/a/x/a/b": -1, "/zzzzz": -1,
		"": -1, "a": -1, "a/x": -1, "/a/": -1, "//a": -1, "/a//x": -1, "/a/x/": -1, "//": -1, "/.": -1, "/..": -1, "/a/.": -1,
		"/a/..": -1, "/a/./x": -1, "/a/../a": -1, "/./a": -1, "/zzzzzzz": -1, "/a/zzzzzzz": -1, "/a/b/x/y/z": -1,
		"/a/b/x/y/": -1, "/A": -1, "/~": -1, "/a/~": -1, " /a": -1, "/a ": -1, "/a\x00": -1,
	} {
		if got := impl.Walk(f, path); got != want {
			t.Errorf("Walk(%q) = %d, want %d", path, got, want)
		}
		kind := impl.NdFree
		if want >= 0 {
			kind = []int{2, 2, 1, 2, 3, 2, 1, 2, 3, 1}[want]
		}
		if got := impl.KindAt(f, path); got != kind {
			t.Errorf("KindAt(%q) = %d, want %d", path, got, kind)
		}
	}
}

// The hidden file is no path's, nor is what is named in a file.
func TestWalkNotToHidden(t *testing.T) {
	f := hidingTree("\x01x\x04")
	for path, want := range map[string]int{"/~": -1, "~": -1, "/~/x": -1, "/a/~": -1, "/zzzzzz": 3, "/a/z": 4, "/a": 1, "/zzzzzz/x": -1} {
		if got := impl.Walk(f, path); got != want {
			t.Errorf("Walk(%q) = %d, want %d", path, got, want)
		}
	}
	f = grown(dirWith(to("a", 1), to("b", 2), to("c", 3)), fileOf("\x01x\x03"), linkOf("\x01x\x03"), fileOf("y"))
	for _, path := range []string{"/a/x", "/b/x", "/c/x"} {
		if impl.Walk(f, path) != -1 || impl.KindAt(f, path) != impl.NdFree {
			t.Errorf("Walk(%q) = %d", path, impl.Walk(f, path))
		}
	}
}

func TestWalkOfEachPath(t *testing.T) {
	for _, f := range rightTrees() {
		paths, _ := pathsIn(f)
		for _, p := range askedPaths(f) {
			wantWalk(t, f, p, paths)
		}
	}
	for _, f := range wrongTrees() {
		for _, p := range append(askedPaths(f), "/b", "/a/x", "/b/x", "/a/a/a/a/a", "/abcdef/a") {
			wantWalk(t, f, p, nil)
		}
		wantHidden(t, f)
	}
}

// Of all paths of a few names those lead to a node that the branch has.
func TestWalkOfEachShortPath(t *testing.T) {
	f := grown(
		dirWith(to("a", 1), to("b", 2)), dirWith(to("a", 3), to("b", 4)), dirWith(to("b", 5)),
		dirWith(to("b", 6)), fileOf("x"), dirWith(to("a", 7)), dirWith(to("a", 8), to("b", 9)), linkOf("x"), fileOf("y"), dirWith())
	paths, ok := pathsIn(f)
	if !ok || len(paths) != 10 {
		t.Fatalf("%v", paths)
	}
	found := 0
	everyText("/ab", 9, func(s string) {
		wantWalk(t, f, s, paths)
		if impl.Walk(f, s) >= 0 {
			found++
		}
	})
	if found != 10 {
		t.Errorf("%d paths lead to a node", found)
	}
}

func TestHiddenOf(t *testing.T) {
	for size := range 81 {
		f := hidingTree(textFor(size))
		if got, ok := impl.HiddenOf(f); !ok || got != textFor(size) {
			t.Errorf("HiddenOf of %d bytes is %q, %t", size, got, ok)
		}
	}
	for _, s := range []string{"\x00", "\xff\x80", "\x01a\x01", "~", "?", "\n"} {
		if got, ok := impl.HiddenOf(hidingTree(s)); !ok || got != s {
			t.Errorf("HiddenOf of %q is %q, %t", s, got, ok)
		}
	}
	for name, f := range map[string]fs{
		"none":            wideTree(),
		"no node":         grown(dirWith()),
		"at its side":     grown(dirWith(to("a", 1), to("zzzzzz", 2)), fileOf("x"), fileOf("y")),
		"deeper":          grown(dirWith(to("a", 1)), dirWith(to("~", 2)), fileOf("x")),
		"deeper, too":     grown(dirWith(to("a", 1), to("~", 3)), dirWith(to("~", 2)), fileOf("x"), fileOf("y")),
		"at its side, ~":  grown(dirWith(to("~", 1), to("~", 2)), fileOf("x"), fileOf("y")),
		"at its side, ~~": grown(dirWith(to("~", 1), to("~~", 2)), fileOf("x"), fileOf("y")),
		"a link":          grown(dirWith(to("~", 1)), linkOf("x")),
		"a directory":     grown(dirWith(to("~", 1)), dirWith()),
		"nobody's node":   grown(dirWith(to("~", 1)), fileOf("x"), fileOf("y")),
		"a zero branch":   {},
	} {
		if got, ok := impl.HiddenOf(f); ok || got != "" {
			t.Errorf("%s: HiddenOf is %q, %t", name, got, ok)
		}
	}
}

// manyTrees gives branches that hang together, by a row of numbers: nodes and
// blocks lie in any order, some are free, some of the branches hide a file.
func manyTrees(count int, seed int, each func(f fs, next func(below int) int)) {
	next := dice(seed)
	for range count {
		nodes := 2 + next(9)
		numbers := shuffledUpTo(nodes-1, next)
		spots, deep := make([]spot, nodes), map[int]int{0: 0}
		lists := map[int][]entry{0: nil}
		for _, at := range numbers[:next(nodes)] {
			in, name := someDir(lists, deep, next), someName(next)
			kind := 1 + next(3)
			if name == "~" {
				in, kind = 0, 1
			}
			if place(lists[in], name) >= 0 {
				continue
			}
			lists[in] = append(lists[in], to(name, at))
			if spots[at].kind = kind; kind == 2 {
				lists[at], deep[at] = nil, deep[in]+1
			} else {
				spots[at].holds = textFor(next(81))
			}
		}
		for in, list := range lists {
			spots[in] = dirWith(inOrder(list)...)
		}
		each(scattered(36-next(9), spots, next), next)
	}
}

// shuffledUpTo gives the numbers from 1 on, in any order.
func shuffledUpTo(most int, next func(below int) int) []int {
	list := blocksUpTo(most, most)
	for i := range list {
		k := i + next(len(list)-i)
		list[i], list[k] = list[k], list[i]
	}
	return list
}

// someDir gives one that may hold something.
func someDir(lists map[int][]entry, deep map[int]int, next func(below int) int) int {
	dirs := slices.DeleteFunc(slices.Sorted(maps.Keys(lists)), func(at int) bool { return deep[at] == 4 })
	return dirs[next(len(dirs))]
}

// scattered puts what the nodes hold into blocks in any order; a file that has
// no room holds less.
func scattered(data int, spots []spot, next func(below int) int) fs {
	f := rooted(len(spots), data)
	blocks := shuffledUpTo(data, next)
	fill := func(i int, s spot) {
		n := node{Kind: s.kind, Size: min(len(s.holds), 16*len(blocks))}
		for _, text := range cutUp(s.holds[:n.Size]) {
			f.Data[blocks[0]-1] = text
			n.Blocks, blocks = append(n.Blocks, blocks[0]-1), blocks[1:]
		}
		if n.Kind == 1 || n.Kind == 3 {
			n.Gen, n.Time = next(1000001), next(100001)
		}
		f.Nodes[i] = n
	}
	for i, s := range spots {
		if s.kind == 2 {
			fill(i, s)
		}
	}
	for i, s := range spots {
		if s.kind != 2 {
			fill(i, s)
		}
	}
	return f
}

// Promise 9, for many branches: each node but the hidden one has one path, and
// no two paths lead to one node.
func TestEachPathLeadsToOneNode(t *testing.T) {
	hidden, led := 0, 0
	manyTrees(1500, 11, func(f fs, next func(below int) int) {
		paths, ok := pathsIn(f)
		if !ok || !impl.FsOk(f) {
			t.Fatalf("FsOk(%v) is %t", f, impl.FsOk(f))
		}
		leads := map[int]int{}
		for p := range paths {
			if at := impl.Walk(f, p); at >= 0 {
				leads[at]++
				led++
			}
		}
		for i, n := range f.Nodes {
			want := 1
			if n.Kind == 0 || paths["/~"] == i && i != 0 {
				want = 0
			}
			if leads[i] != want {
				t.Fatalf("%d paths lead to node %d of %v", leads[i], i, f)
			}
		}
		if _, ok := paths["/~"]; ok {
			hidden++
		}
		wantHung(t, f)
		list := askedPaths(f)
		for range 12 {
			wantWalk(t, f, list[next(len(list))], paths)
		}
	})
	if hidden < 100 || led < 4000 {
		t.Errorf("only %d hide a file, %d paths", hidden, led)
	}
}

// relaid gives the branch with another node in one entry of a directory; the
// text is as long as it was.
func relaid(f fs, dir int, at int, other int) fs {
	list, _ := dirOf(read(f, dir))
	list[at].Node = other
	g := copied(f)
	for k, text := range cutUp(dirText(list)) {
		g.Data[f.Nodes[dir].Blocks[k]] = text
	}
	return g
}

// With one entry changed to a node that another one has, the branch is right no
// more; nor with any other node.
func TestOneEntryChanged(t *testing.T) {
	others := 0
	manyTrees(400, 13, func(f fs, next func(below int) int) {
		for dir, n := range f.Nodes {
			if n.Kind != 2 {
				continue
			}
			list, _ := dirOf(read(f, dir))
			for at, e := range list {
				for other := range 12 {
					if other == e.Node {
						continue
					}
					others++
					if g := relaid(f, dir, at, other); impl.FsOk(g) || wantHung(t, g) {
						t.Fatalf("node %d for %d: FsOk(%v) is true", other, e.Node, g)
					}
				}
			}
		}
	})
	if others < 5000 {
		t.Errorf("only %d others", others)
	}
}

// Each byte of what a directory holds is turned: another branch may come of it,
// as where a name has another letter.
func TestTurnedDirectories(t *testing.T) {
	right, wrong := 0, 0
	manyTrees(250, 17, func(f fs, next func(below int) int) {
		for _, n := range f.Nodes {
			if n.Kind != 2 {
				continue
			}
			for _, at := range n.Blocks {
				for i := range len(f.Data[at]) {
					for _, bit := range []byte{1, 2, 3, 128} {
						b := []byte(f.Data[at])
						b[i] ^= bit
						if wantHung(t, with(f, at, string(b))) {
							right++
						} else {
							wrong++
						}
					}
				}
			}
		}
	})
	if right < 500 || wrong < 5000 {
		t.Errorf("only %d right, %d wrong", right, wrong)
	}
}

// Two nodes turned about in the list of nodes: what names the one names the
// other then.
func TestTurnedNodes(t *testing.T) {
	right, wrong := 0, 0
	manyTrees(600, 19, func(f fs, next func(below int) int) {
		for i := 1; i < len(f.Nodes); i++ {
			g, k := copied(f), 1+next(len(f.Nodes)-1)
			g.Nodes[i], g.Nodes[k] = g.Nodes[k], g.Nodes[i]
			if wantHung(t, g) {
				right++
			} else {
				wrong++
			}
		}
		for i := 1; i < len(f.Nodes); i++ {
			g := copied(f)
			if g.Nodes[i].Kind = 1 + next(3); g.Nodes[i].Kind == 2 {
				g.Nodes[i].Gen, g.Nodes[i].Time = 0, 0
			}
			wantHung(t, g)
		}
	})
	if right < 500 || wrong < 500 {
		t.Errorf("only %d right, %d wrong", right, wrong)
	}
}

func TestWalksLeaveArguments(t *testing.T) {
	for name, f := range allTrees() {
		f.Data = ownTexts(f.Data)
		room, same := roomyFs(f)
		impl.FsOk(room)
		got, _ := impl.HiddenOf(room)
		for _, p := range []string{"/", "/a", "/a/b/x/y", "/~", "", "/a/"} {
			asked := strings.Clone(p)
			impl.Walk(room, asked)
			if impl.KindAt(room, asked); asked != p {
				t.Errorf("%s: the path %q was changed", name, p)
			}
		}
		if !same() || !sameFs(room, f) {
			t.Errorf("%s: an argument was changed", name)
		}
		if sharesText([]string{got}, room.Data) {
			t.Errorf("%s: HiddenOf answers its argument's memory", name)
		}
	}
}

// What was hidden stays what it was, whatever becomes of the branch.
func TestHiddenOfAnswersNewMemory(t *testing.T) {
	for _, size := range someSizes {
		f := hidingTree(textFor(size))
		f.Data = ownTexts(f.Data)
		got, _ := impl.HiddenOf(f)
		other, _ := impl.HiddenOf(f)
		if size > 0 && (sharesText([]string{got}, f.Data) || shareText(got, other)) {
			t.Errorf("%d bytes: HiddenOf shares its answer", size)
		}
		if overwriteFs(f); got != textFor(size) || other != textFor(size) {
			t.Errorf("%d bytes: HiddenOf turned to %q", size, got)
		}
	}
}
