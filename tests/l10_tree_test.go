package tests

import (
	"fmt"
	"maps"
	"math"
	"slices"
	"strconv"
	"strings"
	"testing"

	"loop.example/g00483/impl"
)

type (
	item = impl.Item
	tree = impl.Tree
)

func fileAt(path string, data string, time int) item {
	return item{Path: path, Kind: 1, Data: data, Time: time}
}

func linkAt(path string, data string, time int) item {
	return item{Path: path, Kind: 3, Data: data, Time: time}
}

func dirAt(path string) item { return item{Path: path, Kind: 2} }

func treeWith(list ...item) tree { return tree{Items: list} }

// inPathOrder leaves those of one path as they stand.
func inPathOrder(list ...item) tree {
	list = slices.Clone(list)
	slices.SortStableFunc(list, func(a, b item) int { return strings.Compare(a.Path, b.Path) })
	return tree{Items: list}
}

// someTree has each kind, directories that hold something and one that doesn't,
// and names that begin as others do.
func someTree() tree {
	return treeWith(
		dirAt("/a"), fileAt("/a/b", "x", 5), dirAt("/a/bb"), fileAt("/a/bb/c", "", 0), linkAt("/a/c", "/ab", 7),
		fileAt("/a0", "yz", 100000), dirAt("/ab"), dirAt("/ab/c"), fileAt("/ab/c/d", "", 1), dirAt("/d"), linkAt("/l", "", 0), fileAt("/z", textFor(80), 9),
	)
}

// flatTree has so many items below the root, of each kind.
func flatTree(count int) tree {
	var x tree
	for i := range count {
		one := item{Path: fmt.Sprintf("/n%03d", i), Kind: 1 + i%3}
		if one.Kind != 2 {
			one.Data, one.Time = textFor(i%81), i
		}
		x.Items = append(x.Items, one)
	}
	return x
}

// deepTree has so many items in directories of ten each, four deep.
func deepTree(count int) tree {
	var x tree
	for i := range count {
		top := fmt.Sprintf("/d%d", i/10)
		one := dirAt(top + []string{"", "/a", "/a/a", "/a/b", "/a/b/x", "/a/b/y", "/b", "/c", "/c/x", "/c/y"}[i%10])
		if i%10 == 4 || i%10 > 7 {
			one = linkAt(one.Path, textFor(i), i)
		}
		x.Items = append(x.Items, one)
	}
	return x
}

// rightItems are trees that are right.
func rightItems() map[string]tree {
	all := map[string]tree{
		"no items":                 {},
		"an empty list":            {Items: []item{}},
		"a file":                   treeWith(fileAt("/a", "x", 1)),
		"a file of all zeros":      treeWith(fileAt("/a", "", 0)),
		"a link":                   treeWith(linkAt("/a", "/x", 1)),
		"a link of all zeros":      treeWith(linkAt("/a", "", 0)),
		"a directory":              treeWith(dirAt("/a")),
		"the longest file":         treeWith(fileAt("/a", textFor(80), 100000)),
		"the longest link":         treeWith(linkAt("/a", textFor(80), 100000)),
		"a file below the longest": treeWith(fileAt("/a", textFor(79), 99999)),
		"the longest paths":        treeWith(dirAt("/abcdef"), dirAt("/abcdef/abcdef"), dirAt("/abcdef/abcdef/abcdef"), linkAt("/abcdef/abcdef/abcdef/abcdef", "", 0)),
		"some":                     someTree(),
		"digits ahead of letters":  treeWith(fileAt("/0", "", 0), fileAt("/10", "", 0), fileAt("/9", "", 0), fileAt("/a", "", 0), fileAt("/z", "", 0)),
		"what is below ahead":      treeWith(dirAt("/a"), fileAt("/a/z", "", 0), fileAt("/a0", "", 0), fileAt("/aa", "", 0)),
		"of every byte":            treeWith(fileAt("/a", "\x00\xff\x80\n@=/>", 3), linkAt("/b", "\xc3\x28\x00", 4)),
	}
	for count := range 41 {
		all[fmt.Sprint(count, " below the root")] = flatTree(count)
		all[fmt.Sprint(count, " deep")] = deepTree(count)
	}
	return all
}

// turnedItem gives the tree with one item turned.
func turnedItem(x tree, at int, turn func(one *item)) tree {
	y := tree{Items: slices.Clone(x.Items)}
	turn(&y.Items[at])
	return y
}

// wrongItems are trees that are wrong by one thing each.
func wrongItems() map[string]tree {
	x := someTree().Items
	all := map[string]tree{
		"41 below the root":           flatTree(41),
		"41 deep":                     deepTree(41),
		"900 below the root":          flatTree(900),
		"41 of one path":              {Items: slices.Repeat([]item{fileAt("/a", "", 0)}, 41)},
		"a file twice":                treeWith(fileAt("/a", "", 0), fileAt("/a", "", 0)),
		"a directory twice":           treeWith(dirAt("/a"), dirAt("/a")),
		"a directory twice, then one": treeWith(dirAt("/a"), dirAt("/a"), fileAt("/a/b", "", 0)),
		"a path twice, other data":    treeWith(fileAt("/a", "x", 0), fileAt("/a", "y", 0)),
		"a path twice, other kinds":   treeWith(linkAt("/a", "", 0), fileAt("/a", "", 0)),
		"the first one twice":         {Items: slices.Insert(slices.Clone(x), 0, x[0])},
		"the last one twice":          {Items: append(slices.Clone(x), x[len(x)-1])},
		"the first one again":         {Items: append(slices.Clone(x), x[0])},
		"two out of order":            treeWith(fileAt("/b", "", 0), fileAt("/a", "", 0)),
		"two of one beginning":        treeWith(fileAt("/ab", "", 0), fileAt("/a", "", 0)),
		"longer ones behind":          treeWith(fileAt("/b", "", 0), fileAt("/aa", "", 0)),
		"out of order behind":         treeWith(fileAt("/a", "", 0), fileAt("/c", "", 0), fileAt("/b", "", 0)),
		"out of order in front":       treeWith(fileAt("/b", "", 0), fileAt("/a", "", 0), fileAt("/c", "", 0)),
		"out of order below":          treeWith(dirAt("/a"), fileAt("/a/c", "", 0), fileAt("/a/b", "", 0)),
		"what is below behind":        treeWith(dirAt("/a"), fileAt("/a0", "", 0), fileAt("/a/b", "", 0)),
		"what is below ahead":         treeWith(fileAt("/a/b", "", 0), dirAt("/a")),
		"what is below far ahead":     treeWith(fileAt("/a/b", "", 0), fileAt("/c", "", 0), dirAt("/a")),
		"what is below between":       treeWith(dirAt("/a"), fileAt("/a/b/c", "", 0), dirAt("/a/b")),
		"digits behind letters":       treeWith(fileAt("/a", "", 0), fileAt("/0", "", 0)),
		"nothing above":               treeWith(fileAt("/a/b", "", 0)),
		"nothing above a directory":   treeWith(dirAt("/a/b")),
		"nothing between":             treeWith(dirAt("/a"), fileAt("/a/b/c", "", 0)),
		"nothing at the beginning":    treeWith(dirAt("/a/b"), fileAt("/a/b/c", "", 0)),
		"nothing above three":         treeWith(dirAt("/a"), dirAt("/a/b"), fileAt("/a/b/c/d", "", 0)),
		"a file above":                treeWith(fileAt("/a", "", 0), fileAt("/a/b", "", 0)),
		"a link above":                treeWith(linkAt("/a", "", 0), fileAt("/a/b", "", 0)),
		"a file above a directory":    treeWith(fileAt("/a", "", 0), dirAt("/a/b")),
		"a link to a directory above": treeWith(linkAt("/a", "/b", 0), fileAt("/a/c", "", 0), dirAt("/b")),
		"a file between":              treeWith(dirAt("/a"), fileAt("/a/b", "", 0), fileAt("/a/b/c", "", 0)),
		"begins as a directory does":  treeWith(dirAt("/a"), fileAt("/ab/c", "", 0)),
		"begins as a longer one does": treeWith(fileAt("/a/c", "", 0), dirAt("/ab")),
		"begins as one below does":    treeWith(dirAt("/a"), dirAt("/a/b"), fileAt("/a/bb/c", "", 0)),
		"ends as a directory does":    treeWith(dirAt("/b"), fileAt("/c/b", "", 0), fileAt("/c/b/d", "", 0)),
		"a zero item":                 treeWith(item{}),
		"zero items":                  treeWith(item{}, item{}),
		"a zero item ahead":           {Items: slices.Insert(slices.Clone(x), 0, item{})},
		"a zero item behind":          {Items: append(slices.Clone(x), item{})},
		"turned round":                {Items: slices.Clone(x)},
		"data in a directory above":   treeWith(item{Path: "/a", Kind: 2, Data: "x"}, fileAt("/a/b", "", 0)),
		"a free one above":            treeWith(item{Path: "/a"}, fileAt("/a/b", "", 0)),
		"without its first one":       {Items: slices.Clone(x[1:])},
	}
	slices.Reverse(all["turned round"].Items)
	for i := 1; i < len(x); i++ {
		y := slices.Clone(x)
		y[i-1], y[i] = y[i], y[i-1]
		all[fmt.Sprint("turned at ", i)] = tree{Items: y}
	}
	maps.Copy(all, wrongPathItems())
	maps.Copy(all, wrongValueItems())
	return all
}

// wrongPathItems have one path that is none, or the root's; all are in order.
func wrongPathItems() map[string]tree {
	all := map[string]tree{}
	for i, p := range append(noPaths, "/", "/~", "~", "/a/~", "/~/a", "/ab/c/~", "/abcde~") {
		for _, one := range []item{dirAt(p), fileAt(p, "x", 1), linkAt(p, "", 0)} {
			all[fmt.Sprintf("path %d %.20q, kind %d", i, p, one.Kind)] = treeWith(one)
			all[fmt.Sprintf("path %d %.20q, kind %d, among others", i, p, one.Kind)] = inPathOrder(append(someTree().Items, one)...)
		}
	}
	return all
}

// wrongValueItems have one item of which the Kind, the Data or the Time is wrong.
func wrongValueItems() map[string]tree {
	all := map[string]tree{}
	for at, one := range someTree().Items {
		for _, kind := range someKinds[3:] {
			all[fmt.Sprint("kind ", kind, " at ", at)] = turnedItem(someTree(), at, func(one *item) { one.Kind = kind })
			all[fmt.Sprint("kind ", kind, " at ", at, ", else zero")] = turnedItem(someTree(), at, func(one *item) { *one = item{Path: one.Path, Kind: kind} })
		}
		for _, time := range []int{-1, 100001, -100000, 100000 + 1<<32, math.MinInt, math.MaxInt} {
			all[fmt.Sprint("time ", time, " at ", at)] = turnedItem(someTree(), at, func(one *item) { one.Time = time })
		}
		for _, size := range []int{81, 82, 96, 256, 5000} {
			all[fmt.Sprint(size, " bytes at ", at)] = turnedItem(someTree(), at, func(one *item) { one.Data = textFor(size) })
		}
		if one.Kind == 2 {
			all[fmt.Sprint("a directory's time at ", at)] = turnedItem(someTree(), at, func(one *item) { one.Time = 1 })
			all[fmt.Sprint("a directory's greatest time at ", at)] = turnedItem(someTree(), at, func(one *item) { one.Time = 100000 })
			all[fmt.Sprint("a directory's data at ", at)] = turnedItem(someTree(), at, func(one *item) { one.Data = "\x00" })
			all[fmt.Sprint("a directory's both at ", at)] = turnedItem(someTree(), at, func(one *item) { one.Data, one.Time = "x", 1 })
		}
	}
	return all
}

func allItems() map[string]tree {
	all := wrongItems()
	for name, x := range rightItems() {
		all["right: "+name] = x
	}
	return all
}

// abovePath gives the path above one that is right and not the root.
func abovePath(path string) string {
	return path[:max(strings.LastIndexByte(path, '/'), 1)]
}

func isItem(one item) bool {
	if !pathForm.MatchString(one.Path) || one.Path == "/" {
		return false
	}
	switch one.Kind {
	case 1, 3:
		return len(one.Data) <= 80 && one.Time >= 0 && one.Time <= 100000
	case 2:
		return one == dirAt(one.Path)
	}
	return false
}

// isTree asks of each item what the document says.
func isTree(x tree) bool {
	for i, one := range x.Items {
		if !isItem(one) || i > 0 && x.Items[i-1].Path >= one.Path {
			return false
		}
		if above := abovePath(one.Path); above != "/" && !slices.Contains(x.Items, dirAt(above)) {
			return false
		}
	}
	return len(x.Items) <= 40
}

// treeIn gives the tree of a branch by the paths that its nodes have; no items,
// where it does not hang together.
func treeIn(f fs) tree {
	var x tree
	paths, _ := pathsIn(f)
	for _, p := range slices.Sorted(maps.Keys(paths)) {
		n := f.Nodes[paths[p]]
		switch {
		case p == "/" || p == "/~":
		case n.Kind == 2:
			x.Items = append(x.Items, dirAt(p))
		default:
			x.Items = append(x.Items, item{Path: p, Kind: n.Kind, Data: read(f, paths[p]), Time: n.Time})
		}
	}
	return x
}

// gotten gives what the document says of a path; the root is there always, and
// no item has its path.
func gotten(x tree, path string) (item, bool) {
	if path == "/" {
		return dirAt("/"), true
	}
	for _, one := range x.Items {
		if one.Path == path {
			return one, true
		}
	}
	return item{}, false
}

func namesIn(x tree, path string) []string {
	var list []string
	if one, _ := gotten(x, path); !isTree(x) || one.Kind != 2 {
		return nil
	}
	for _, one := range x.Items {
		if abovePath(one.Path) == path {
			list = append(list, one.Path[strings.LastIndexByte(one.Path, '/')+1:])
		}
	}
	return list
}

// treeText gives no sign for a kind that the document names none of.
func treeText(x tree) string {
	s := ""
	for _, one := range x.Items {
		switch one.Kind {
		case 2:
			s += one.Path + "/\n"
			continue
		case 1:
			s += one.Path + "="
		case 3:
			s += one.Path + ">"
		default:
			s += one.Path
		}
		s += one.Data + "@" + strconv.Itoa(one.Time) + "\n"
	}
	return s
}

func sameTree(a tree, b tree) bool { return slices.Equal(a.Items, b.Items) }

// pathsAsked are those of the tree, others above, beside and below them, and
// wrong ones.
func pathsAsked(x tree) []string {
	list := slices.Concat(somePaths, noPaths, []string{"/", "", "/~", "~", "/~/a", "/a/~"})
	for _, one := range x.Items {
		if p := one.Path; len(p) < 60 {
			list = append(list, p, p+"/", p+"/a", p+"/b", p+"0", p+"b", "/"+p, p+"/.", p+"\x00", p[:len(p)/2], p[:max(len(p)-1, 0)])
		}
	}
	return list
}

// wantAsTold asks of one path for what the document says.
func wantAsTold(t *testing.T, x tree, path string) {
	t.Helper()
	want, wantOk := gotten(x, path)
	if got, ok := impl.TreeGet(x, path); got != want || ok != wantOk {
		t.Fatalf("TreeGet(%v, %q) = %v, %t, want %v, %t", x, path, got, ok, want, wantOk)
	}
	if got := impl.TreeNames(x, path); !slices.Equal(got, namesIn(x, path)) {
		t.Fatalf("TreeNames(%v, %q) = %q, want %q", x, path, got, namesIn(x, path))
	}
}

// wantTree asks for what the document says of the tree as a whole; it tells
// whether it is right.
func wantTree(t *testing.T, x tree) bool {
	t.Helper()
	if got := impl.TreeOk(x); got != isTree(x) {
		t.Fatalf("TreeOk(%v) is %t", x, got)
	}
	if got := impl.TreeText(x); got != treeText(x) {
		t.Fatalf("TreeText(%v) = %q, want %q", x, got, treeText(x))
	}
	if !impl.TreeSame(x, x) || !impl.TreeSame(x, tree{Items: slices.Clone(x.Items)}) {
		t.Fatalf("TreeSame of %v and its copy is false", x)
	}
	return isTree(x)
}

func TestTreeOk(t *testing.T) {
	for name, x := range rightItems() {
		if !isTree(x) || !impl.TreeOk(x) {
			t.Errorf("%s: TreeOk(%v) is %t", name, x, impl.TreeOk(x))
		}
	}
	for name, x := range wrongItems() {
		if isTree(x) || impl.TreeOk(x) {
			t.Errorf("%s: TreeOk(%v) is %t", name, x, impl.TreeOk(x))
		}
	}
}

func TestTreeOkOfEachPath(t *testing.T) {
	for _, p := range slices.Concat(somePaths, noPaths) {
		var list []item
		if pathForm.MatchString(p) {
			for above := abovePath(p); above != "/"; above = abovePath(above) {
				list = append([]item{dirAt(above)}, list...)
			}
		}
		want := pathForm.MatchString(p) && p != "/"
		for _, one := range []item{fileAt(p, "x", 1), linkAt(p, "", 0), dirAt(p)} {
			if x := (tree{Items: append(slices.Clone(list), one)}); impl.TreeOk(x) != want {
				t.Errorf("TreeOk(%v) is %t", x, !want)
			}
		}
	}
	everyText("/ab", 7, func(s string) {
		want := s == "/a" || s == "/b" || len(s) > 2 && pathForm.MatchString(s) && abovePath(s) == "/"
		if got := impl.TreeOk(treeWith(fileAt(s, "", 0))); got != want {
			t.Errorf("TreeOk of a file at %q is %t", s, got)
		}
	})
}

func TestTreeOkOfEachKind(t *testing.T) {
	for _, kind := range append([]int{6, 7, 127, 128, -2, -255, 1 << 32, math.MaxInt - 1}, someKinds...) {
		one := item{Path: "/a", Kind: kind}
		if got := impl.TreeOk(treeWith(one)); got != (kind == 1 || kind == 2 || kind == 3) {
			t.Errorf("TreeOk of kind %d is %t", kind, got)
		}
		if got := impl.TreeOk(treeWith(one, fileAt("/a/b", "", 0))); got != (kind == 2) {
			t.Errorf("TreeOk with kind %d above is %t", kind, got)
		}
	}
}

func TestTreeOkOfEachSize(t *testing.T) {
	for size := range 100 {
		for kind := 1; kind <= 3; kind++ {
			want := size <= 80 && (kind != 2 || size == 0)
			for _, data := range []string{textFor(size), strings.Repeat("\x00", size), strings.Repeat("\xff", size)} {
				if got := impl.TreeOk(treeWith(item{Path: "/a", Kind: kind, Data: data})); got != want {
					t.Errorf("TreeOk of kind %d with %d bytes is %t", kind, size, got)
				}
			}
		}
	}
}

func TestTreeOkOfEachTime(t *testing.T) {
	for _, time := range []int{0, 1, 2, 127, 128, 65536, 99999, 100000, 100001, 100002, -1, -2, -100000, 1 << 31, 1 << 32, 1<<32 + 1, math.MinInt, math.MinInt + 1, math.MaxInt} {
		for kind := 1; kind <= 3; kind++ {
			want := time >= 0 && time <= 100000 && (kind != 2 || time == 0)
			if got := impl.TreeOk(treeWith(item{Path: "/a", Kind: kind, Time: time})); got != want {
				t.Errorf("TreeOk of kind %d with time %d is %t", kind, time, got)
			}
		}
	}
}

// Of each number of items: a tree is right up to 40.
func TestTreeOkOfEachCount(t *testing.T) {
	for count := range 90 {
		for _, x := range []tree{flatTree(count), deepTree(count)} {
			want := count <= 40
			if got := impl.TreeOk(x); got != want {
				t.Errorf("TreeOk of %d items is %t", count, got)
			}
			if got := impl.TreeNames(x, "/"); len(got) > 0 != (want && count > 0) {
				t.Errorf("TreeNames of %d items is %q", count, got)
			}
		}
	}
}

// eachSmallTree gives each list of up to three of these items.
func eachSmallTree(each func(x tree)) {
	var ones []item
	for _, p := range []string{"", "/", "/a", "/a/a", "/a/a/b", "/aa", "/aa/a", "/~"} {
		for kind := range 4 {
			ones = append(ones, item{Path: p, Kind: kind})
		}
	}
	each(tree{})
	for _, first := range ones {
		each(treeWith(first))
		for _, second := range ones {
			each(treeWith(first, second))
			for _, third := range ones {
				each(treeWith(first, second, third))
			}
		}
	}
}

func TestEachSmallTree(t *testing.T) {
	right := 0
	eachSmallTree(func(x tree) {
		if wantTree(t, x) {
			right++
		}
		for _, p := range []string{"/", "/a", "/a/a", "/aa", "", "/~", "/a/"} {
			wantAsTold(t, x, p)
		}
	})
	if right < 40 {
		t.Errorf("only %d right ones", right)
	}
}

func TestTreeOfNewBranches(t *testing.T) {
	for nodes := range 13 {
		for data := range 39 {
			f, _ := impl.FsNew(nodes, data)
			if x := impl.TreeOf(f); len(x.Items) != 0 || !impl.TreeOk(x) {
				t.Errorf("%d nodes, %d data: TreeOf is %v", nodes, data, x)
			}
		}
	}
}

func TestTreeOf(t *testing.T) {
	for name, c := range map[string]struct {
		f    fs
		want tree
	}{
		"of every depth": {wideTree(), treeWith(
			dirAt("/a"), dirAt("/a/b"), linkAt("/a/b/0", "", 48), dirAt("/a/b/x"), fileAt("/a/b/x/y", textFor(70), 46),
			fileAt("/a/x", "two", 42), linkAt("/b", "/a/b", 44), dirAt("/c"), fileAt("/zzzzzz", "", 49))},
		"hidden":                {hidingTree("so"), treeWith(dirAt("/a"), fileAt("/a/z", "four", 44), fileAt("/zzzzzz", "three", 43))},
		"hidden, empty":         {hidingTree(""), treeWith(dirAt("/a"), fileAt("/a/z", "four", 44), fileAt("/zzzzzz", "three", 43))},
		"hidden alone":          {grown(dirWith(to("~", 1)), fileOf("x")), tree{}},
		"an empty directory":    {grown(dirWith(to("a", 1)), dirWith()), treeWith(dirAt("/a"))},
		"below ahead of beside": {grown(dirWith(to("a", 1), to("a0", 2), to("ab", 3)), dirWith(to("z", 4)), fileOf("x"), dirWith(), linkOf("y")), treeWith(dirAt("/a"), linkAt("/a/z", "y", 44), fileAt("/a0", "x", 42), dirAt("/ab"))},
		"a link to itself":      {grown(dirWith(to("a", 1)), linkOf("/a")), treeWith(linkAt("/a", "/a", 41))},
		"texts of a directory":  {grown(dirWith(to("a", 1), to("b", 2)), fileOf("\x01a\x02"), linkOf("\x01a\x01")), treeWith(fileAt("/a", "\x01a\x02", 41), linkAt("/b", "\x01a\x01", 42))},
		"four deep":             {chain(4, linkOf("x")), treeWith(dirAt("/a"), dirAt("/a/a"), dirAt("/a/a/a"), linkAt("/a/a/a/a", "x", 44))},
		"four deep, empty":      {chain(4, dirWith()), treeWith(dirAt("/a"), dirAt("/a/a"), dirAt("/a/a/a"), dirAt("/a/a/a/a"))},
		"a file":                {chain(1, fileOf("x")), treeWith(fileAt("/a", "x", 41))},
		"the greatest file":     {chain(2, fileOf(textFor(80))), treeWith(dirAt("/a"), fileAt("/a/a", textFor(80), 42))},
	} {
		if got := impl.TreeOf(c.f); !slices.Equal(got.Items, c.want.Items) {
			t.Errorf("%s: TreeOf is %v, want %v", name, got, c.want)
		}
	}
}

// What a file holds, and its Time, is told to the last byte and the last number.
func TestTreeOfEachSizeAndTime(t *testing.T) {
	for size := range 81 {
		for _, time := range []int{0, 1, 99999, 100000} {
			f := grown(dirWith(to("a", 1), to("b", 2)), fileOf(textFor(size)), linkOf(textFor(80-size)))
			f.Nodes[1].Time, f.Nodes[2].Time, f.Nodes[1].Gen = time, 100000-time, 1000000
			want := treeWith(fileAt("/a", textFor(size), time), linkAt("/b", textFor(80-size), 100000-time))
			if got := impl.TreeOf(f); !sameTree(got, want) {
				t.Errorf("TreeOf is %v, want %v", got, want)
			}
		}
	}
}

func TestTreeOfEachBranch(t *testing.T) {
	for name, f := range rightTrees() {
		if got := impl.TreeOf(f); !sameTree(got, treeIn(f)) || !impl.TreeOk(got) {
			t.Errorf("%s: TreeOf is %v, want %v", name, got, treeIn(f))
		}
	}
	for name, f := range wrongTrees() {
		if got := impl.TreeOf(f); len(got.Items) != 0 {
			t.Errorf("%s: TreeOf is %v", name, got)
		}
	}
}

func TestTreeGet(t *testing.T) {
	for name, x := range allItems() {
		for _, one := range x.Items {
			want, _ := gotten(x, one.Path)
			if got, ok := impl.TreeGet(x, one.Path); !ok || got != want {
				t.Errorf("%s: TreeGet of %.60q is %v, %t, want %v", name, one.Path, got, ok, want)
			}
		}
		if got, ok := impl.TreeGet(x, "/"); !ok || got != dirAt("/") {
			t.Errorf("%s: TreeGet of the root is %v, %t", name, got, ok)
		}
	}
	for _, p := range []string{"", "/b", "/a/", "//a", "/a/b/c", "/ab/", "/a/bb/", "a", "a/b", "/~", "/a/~", "/a/bbb", "/aa", "/ab/cc", "/d/a", "/z/z", "/A", "/a/b\x00", " /a", "//", "/.", "/a/.", "/a/..", "/ab/../a"} {
		if got, ok := impl.TreeGet(someTree(), p); ok || got != (item{}) {
			t.Errorf("TreeGet of %q is %v, %t", p, got, ok)
		}
	}
}

// Of a path that a tree has more than once the first item is told, wherever in
// the list it stands; of the root's path the root.
func TestTreeGetInWrongTrees(t *testing.T) {
	for name, c := range map[string]struct {
		x    tree
		path string
		want item
	}{
		"a path twice":           {treeWith(fileAt("/a", "x", 1), linkAt("/a", "y", 2)), "/a", fileAt("/a", "x", 1)},
		"a path twice, turned":   {treeWith(linkAt("/a", "y", 2), fileAt("/a", "x", 1)), "/a", linkAt("/a", "y", 2)},
		"a path thrice":          {treeWith(dirAt("/b"), dirAt("/a"), fileAt("/a", "x", 1), fileAt("/a", "y", 1)), "/a", dirAt("/a")},
		"twice, apart":           {treeWith(fileAt("/c", "1", 1), fileAt("/b", "2", 2), fileAt("/c", "3", 3)), "/c", fileAt("/c", "1", 1)},
		"a zero kind first":      {treeWith(item{Path: "/a"}, fileAt("/a", "x", 1)), "/a", item{Path: "/a"}},
		"out of order, first":    {treeWith(fileAt("/c", "1", 1), fileAt("/b", "2", 2), fileAt("/a", "3", 3)), "/c", fileAt("/c", "1", 1)},
		"out of order, between":  {treeWith(fileAt("/c", "1", 1), fileAt("/a", "2", 2), fileAt("/b", "3", 3)), "/a", fileAt("/a", "2", 2)},
		"out of order, last":     {treeWith(fileAt("/c", "1", 1), fileAt("/b", "2", 2), fileAt("/a", "3", 3)), "/a", fileAt("/a", "3", 3)},
		"the root's path":        {treeWith(fileAt("/", "x", 1), fileAt("/a", "", 0)), "/", dirAt("/")},
		"the root's path, link":  {treeWith(linkAt("/", "", 0)), "/", dirAt("/")},
		"the root's path, twice": {treeWith(fileAt("/a", "", 0), item{Path: "/", Kind: 2, Data: "x", Time: 3}, fileAt("/", "", 0)), "/", dirAt("/")},
		"beside the root's path": {treeWith(fileAt("/", "x", 1), fileAt("/a", "y", 2)), "/a", fileAt("/a", "y", 2)},
		"nothing above":          {treeWith(fileAt("/a/b/c", "x", 1)), "/a/b/c", fileAt("/a/b/c", "x", 1)},
		"a wrong time":           {treeWith(fileAt("/a", textFor(99), -7)), "/a", fileAt("/a", textFor(99), -7)},
		"a wrong kind":           {treeWith(item{Path: "/a", Kind: -3}), "/a", item{Path: "/a", Kind: -3}},
		"behind forty":           {tree{Items: append(flatTree(90).Items, fileAt("/a", "x", 1))}, "/a", fileAt("/a", "x", 1)},
	} {
		if got, ok := impl.TreeGet(c.x, c.path); !ok || got != c.want {
			t.Errorf("%s: TreeGet is %v, %t, want %v", name, got, ok, c.want)
		}
	}
	for name, x := range allItems() {
		if strings.Contains(name, "900") {
			continue
		}
		for _, p := range []string{"", "/", "/a", "/a/b", "/ab", "/~", "/a/", "/abcdefg"} {
			wantAsTold(t, x, p)
		}
	}
}

func TestTreeNames(t *testing.T) {
	for path, want := range map[string][]string{
		"/": {"a", "a0", "ab", "d", "l", "z"}, "/a": {"b", "bb", "c"}, "/a/bb": {"c"}, "/ab": {"c"}, "/ab/c": {"d"}, "/d": nil,
		"/a/b": nil, "/a/bb/c": nil, "/a/c": nil, "/a0": nil, "/l": nil, "/z": nil, "/ab/c/d": nil, "/b": nil, "/aa": nil,
		"": nil, "a": nil, "/a/": nil, "//": nil, "/~": nil, "/a/bbb": nil, "/ab/b": nil, "/A": nil, "/.": nil, "/a/.": nil, "/a/bb/..": nil,
	} {
		if got := impl.TreeNames(someTree(), path); !slices.Equal(got, want) {
			t.Errorf("TreeNames of %q is %q, want %q", path, got, want)
		}
	}
	for name, x := range rightItems() {
		for _, p := range pathsAsked(x) {
			if got, want := impl.TreeNames(x, p), namesIn(x, p); !slices.Equal(got, want) {
				t.Errorf("%s: TreeNames of %.60q is %q, want %q", name, p, got, want)
			}
		}
	}
	if got := impl.TreeNames(tree{}, "/"); len(got) != 0 {
		t.Errorf("TreeNames of no items is %q", got)
	}
}

func TestTreeNamesOfWrongTrees(t *testing.T) {
	for name, x := range wrongItems() {
		for _, p := range []string{"/", "/a", "/a/bb", "/ab", "/ab/c", "/d", "/d0", "", "/~"} {
			if got := impl.TreeNames(x, p); len(got) != 0 {
				t.Errorf("%s: TreeNames of %q is %q", name, p, got)
			}
		}
	}
}

func TestTreeSame(t *testing.T) {
	for name, x := range allItems() {
		same := tree{Items: slices.Clone(x.Items)}
		for i := range same.Items {
			same.Items[i].Path, same.Items[i].Data = strings.Clone(same.Items[i].Path), strings.Clone(same.Items[i].Data)
		}
		if !impl.TreeSame(x, x) || !impl.TreeSame(x, same) || !impl.TreeSame(same, x) {
			t.Errorf("%s: TreeSame of it and its copy is false", name)
		}
	}
	if !impl.TreeSame(tree{}, tree{Items: []item{}}) || !impl.TreeSame(tree{Items: []item{}}, tree{}) || !impl.TreeSame(tree{}, tree{}) {
		t.Error("TreeSame of no items is false")
	}
}

func TestTreeSameOfOthers(t *testing.T) {
	for name, x := range allItems() {
		if len(x.Items) > 60 {
			continue
		}
		wantOther := func(how string, y tree) {
			if impl.TreeSame(x, y) || impl.TreeSame(y, x) {
				t.Errorf("%s: TreeSame with %s is true", name, how)
			}
		}
		for i, one := range x.Items {
			wantOther("another path", turnedItem(x, i, func(one *item) { one.Path += "x" }))
			wantOther("another kind", turnedItem(x, i, func(one *item) { one.Kind++ }))
			wantOther("a byte more", turnedItem(x, i, func(one *item) { one.Data += "\x00" }))
			wantOther("another time", turnedItem(x, i, func(one *item) { one.Time-- }))
			wantOther("one less", tree{Items: slices.Delete(slices.Clone(x.Items), i, i+1)})
			wantOther("one twice", tree{Items: slices.Insert(slices.Clone(x.Items), i, one)})
			if one.Data != "" {
				wantOther("another byte", turnedItem(x, i, func(one *item) { one.Data = "~" + one.Data[1:] }))
			}
			if i > 0 && one != x.Items[i-1] {
				y := tree{Items: slices.Clone(x.Items)}
				y.Items[i-1], y.Items[i] = one, x.Items[i-1]
				wantOther("another order", y)
			}
		}
		wantOther("one more", tree{Items: append(slices.Clone(x.Items), fileAt("/zzz", "", 0))})
		wantOther("a zero item more", tree{Items: append(slices.Clone(x.Items), item{})})
	}
}

func TestTreeText(t *testing.T) {
	for want, x := range map[string]tree{
		"":                               {},
		"/a=x@1\n":                       treeWith(fileAt("/a", "x", 1)),
		"/a=@0\n":                        treeWith(fileAt("/a", "", 0)),
		"/a>/b@100000\n":                 treeWith(linkAt("/a", "/b", 100000)),
		"/a>@0\n":                        treeWith(linkAt("/a", "", 0)),
		"/a/\n":                          treeWith(dirAt("/a")),
		"/a/\n/a/b=@7\n/c>x@10\n":        treeWith(dirAt("/a"), fileAt("/a/b", "", 7), linkAt("/c", "x", 10)),
		"/a=@@1\n":                       treeWith(fileAt("/a", "@", 1)),
		"/a=\n@1\n/b=@5\n@0\n":           treeWith(fileAt("/a", "\n", 1), fileAt("/b", "@5\n", 0)),
		"/a==@2\n/b>>@3\n/c=/@4\n":       treeWith(fileAt("/a", "=", 2), linkAt("/b", ">", 3), fileAt("/c", "/", 4)),
		"/a>/@0\n/b=>@0\n/c>=@0\n":       treeWith(linkAt("/a", "/", 0), fileAt("/b", ">", 0), linkAt("/c", "=", 0)),
		"/a=\x00\xff%d%s@99999\n":        treeWith(fileAt("/a", "\x00\xff%d%s", 99999)),
		"/c/\n/b=x@1\n/a>@2\n/a/\n":      treeWith(dirAt("/c"), fileAt("/b", "x", 1), linkAt("/a", "", 2), dirAt("/a")),
		"//\n/=@0\n=@0\na/b>x@1\n":       treeWith(dirAt("/"), fileAt("/", "", 0), fileAt("", "", 0), linkAt("a/b", "x", 1)),
		"/a=x@-1\n/b>@-100001\n":         treeWith(fileAt("/a", "x", -1), linkAt("/b", "", -100001)),
		"/a=@-9223372036854775808\n":     treeWith(fileAt("/a", "", math.MinInt)),
		"/a>@9223372036854775807\n":      treeWith(linkAt("/a", "", math.MaxInt)),
		"/a/\n/b/\n":                     treeWith(item{Path: "/a", Kind: 2, Data: "x", Time: 5}, item{Path: "/b", Kind: 2, Time: -5}),
		"/ax@1\n/b@0\n/cy@-2\n/d@3\n":    treeWith(item{Path: "/a", Data: "x", Time: 1}, item{Path: "/b", Kind: 4}, item{Path: "/c", Kind: -1, Data: "y", Time: -2}, item{Path: "/d", Kind: math.MaxInt, Time: 3}),
		"@0\n":                           treeWith(item{}),
		"/a=" + textFor(200) + "@0\n":    treeWith(fileAt("/a", textFor(200), 0)),
		"/a=" + textFor(80) + "@1000\n":  treeWith(fileAt("/a", textFor(80), 1000)),
		"/a=\xc3@5\n/b>\xa4@6\n/c=ä@7\n": treeWith(fileAt("/a", "\xc3", 5), linkAt("/b", "\xa4", 6), fileAt("/c", "ä", 7)),
	} {
		if got := impl.TreeText(x); got != want {
			t.Errorf("TreeText(%v) = %q, want %q", x, got, want)
		}
	}
	for _, x := range allItems() {
		wantTree(t, x)
	}
}

// manyItems gives right trees of many items, by a row of numbers.
func manyItems(count int, seed int, each func(x tree, next func(below int) int)) {
	next := dice(seed)
	for range count {
		dirs, taken := []string{"/"}, map[string]item{}
		for range next(44) {
			dir := dirs[next(len(dirs))]
			p := strings.TrimSuffix(dir, "/") + "/" + strings.ReplaceAll(someName(next), "~", "b")
			if _, ok := taken[p]; ok || len(taken) == 40 || strings.Count(p, "/") > 4 {
				continue
			}
			one := item{Path: p, Kind: 1 + next(3)}
			if one.Kind == 2 {
				dirs = append(dirs, p)
			} else {
				one.Data, one.Time = textFor(next(81)), next(100001)
			}
			taken[p] = one
		}
		each(inPathOrder(slices.Collect(maps.Values(taken))...), next)
	}
}

// turnedTree gives the tree with one thing turned, which may leave it right.
func turnedTree(x tree, next func(below int) int) tree {
	y, at := tree{Items: slices.Clone(x.Items)}, next(len(x.Items))
	one, other := &y.Items[at], &y.Items[next(len(x.Items))]
	switch next(8) {
	case 0:
		one.Path += []string{"", "/a", "0", "/", "aaaaaa", "~"}[next(6)]
	case 1:
		one.Path = other.Path
	case 2:
		one.Kind = next(5)
	case 3:
		one.Data = textFor(76 + next(8))
	case 4:
		one.Time = 99998 + next(5)
	case 5:
		*one, *other = *other, *one
	case 6:
		y.Items = slices.Delete(y.Items, at, at+1)
	case 7:
		y.Items = append(y.Items, fileAt("/zzzzzz", "", 0))
	}
	return y
}

func TestManyTrees(t *testing.T) {
	right, wrong := 0, 0
	manyItems(500, 23, func(x tree, next func(below int) int) {
		if !wantTree(t, x) {
			t.Fatalf("no right tree: %v", x)
		}
		list := pathsAsked(x)
		for range 20 {
			wantAsTold(t, x, list[next(len(list))])
		}
		for range 20 * min(len(x.Items), 1) {
			y := turnedTree(x, next)
			if wantTree(t, y) {
				right++
			} else {
				wrong++
			}
			wantAsTold(t, y, list[next(len(list))])
			if got := impl.TreeSame(x, y); got != sameTree(x, y) {
				t.Fatalf("TreeSame(%v, %v) is %t", x, y, got)
			}
		}
	})
	if right < 1000 || wrong < 4000 {
		t.Errorf("only %d right, %d wrong", right, wrong)
	}
}

// Promise 10, for many branches: the tree of a right one is right, and tells of
// each path what the branch does.
func TestRightBranchHasRightTree(t *testing.T) {
	told, hidden := 0, 0
	manyTrees(1000, 29, func(f fs, next func(below int) int) {
		x := impl.TreeOf(f)
		if !impl.FsOk(f) || !impl.TreeOk(x) || !sameTree(x, treeIn(f)) {
			t.Fatalf("TreeOf(%v) = %v, want %v", f, x, treeIn(f))
		}
		for _, one := range x.Items {
			told++
			if got := impl.KindAt(f, one.Path); got != one.Kind {
				t.Fatalf("KindAt(%v, %q) = %d, want %d", f, one.Path, got, one.Kind)
			}
			if got, ok := impl.TreeGet(x, one.Path); !ok || got != one {
				t.Fatalf("TreeGet(%v, %q) = %v, %t", x, one.Path, got, ok)
			}
			if data, ok := impl.NodeRead(f, impl.Walk(f, one.Path)); one.Kind != impl.NdDir && (!ok || data != one.Data) {
				t.Fatalf("%v holds %q at %q, its tree %q", f, data, one.Path, one.Data)
			}
		}
		if _, ok := impl.HiddenOf(f); ok {
			hidden++
		}
		wantOthersFree(t, f, x, next)
		wantNamesBelow(t, x)
	})
	if told < 2000 || hidden < 100 {
		t.Errorf("only %d items, %d hide a file", told, hidden)
	}
}

// wantOthersFree asks that no path that is drawn and that the tree has not is
// one of the branch.
func wantOthersFree(t *testing.T, f fs, x tree, next func(below int) int) {
	t.Helper()
	list := append(pathsAsked(x), "/"+someName(next), "/"+someName(next)+"/"+someName(next))
	for range 15 {
		p := list[next(len(list))]
		one, ok := impl.TreeGet(x, p)
		if kind := impl.KindAt(f, p); kind != one.Kind || ok != (kind != impl.NdFree) {
			t.Fatalf("KindAt(%v, %q) = %d, TreeGet is %v, %t", f, p, kind, one, ok)
		}
	}
}

// wantNamesBelow asks that each item is among the names of the directory above
// it, and in no other's; what is none has no names.
func wantNamesBelow(t *testing.T, x tree) {
	t.Helper()
	below := map[string]int{}
	for _, one := range append(slices.Clone(x.Items), dirAt("/")) {
		names := impl.TreeNames(x, one.Path)
		if one.Kind != impl.NdDir && len(names) > 0 || !slices.IsSorted(names) {
			t.Fatalf("TreeNames(%v, %q) = %q", x, one.Path, names)
		}
		for _, name := range names {
			p := impl.PathJoin(one.Path, name)
			below[p]++
			if got, ok := impl.TreeGet(x, p); !ok || got.Path != p || impl.Above(p) != one.Path {
				t.Fatalf("TreeNames(%v, %q) = %q, but %q is not there", x, one.Path, names, p)
			}
		}
	}
	for _, one := range x.Items {
		if below[one.Path] != 1 {
			t.Fatalf("%q is below %d directories of %v", one.Path, below[one.Path], x)
		}
	}
	if len(below) != len(x.Items) {
		t.Fatalf("%v has %d items below directories", x, len(below))
	}
}

// What is asked again and again answers the same: no map's order is seen.
func TestTreesAnswerTheSame(t *testing.T) {
	type answers struct {
		ok    bool
		text  string
		names string
		one   item
	}
	ask := func(x tree, path string) answers {
		one, _ := impl.TreeGet(x, path)
		return answers{impl.TreeOk(x), impl.TreeText(x), strings.Join(impl.TreeNames(x, path), ","), one}
	}
	twice := treeWith(fileAt("/a", "1", 1), fileAt("/a", "2", 2), linkAt("/a", "3", 3), dirAt("/b"), dirAt("/a"), fileAt("/a/b", "", 0))
	for name, x := range map[string]tree{"flat": flatTree(40), "deep": deepTree(40), "some": someTree(), "too many": flatTree(41), "twice": twice} {
		for _, p := range []string{"/", "/a", "/d0/a", "/d0/c", "/n001"} {
			want := ask(x, p)
			for range 60 {
				if got := ask(x, p); got != want {
					t.Fatalf("%s: asked of %q again it is %v, was %v", name, p, got, want)
				}
			}
		}
	}
	for name, f := range rightTrees() {
		want := impl.TreeOf(f)
		for range 30 {
			if got := impl.TreeOf(f); !sameTree(got, want) {
				t.Fatalf("%s: TreeOf again is %v, was %v", name, got, want)
			}
		}
	}
}

func itemTexts(list ...item) []string {
	var texts []string
	for _, one := range list {
		texts = append(texts, one.Path, one.Data)
	}
	return texts
}

// ownTree gives the tree with texts of its own.
func ownTree(x tree) tree {
	var own tree
	for _, one := range x.Items {
		own.Items = append(own.Items, item{Path: strings.Clone(one.Path), Kind: one.Kind, Data: strings.Clone(one.Data), Time: one.Time})
	}
	return own
}

func TestTreesLeaveArguments(t *testing.T) {
	other := someTree()
	for name, x := range allItems() {
		if len(x.Items) > 60 {
			x.Items = x.Items[:60]
		}
		list, same := roomyList(ownTree(x).Items, fileAt("/spare", "room", 5), dirAt("/"), item{}, linkAt("/a/spare", "", 0))
		room := tree{Items: list}
		impl.TreeOk(room)
		impl.TreeSame(room, other)
		impl.TreeSame(other, room)
		if sharesText([]string{impl.TreeText(room)}, itemTexts(list...)) {
			t.Errorf("%s: TreeText answers its argument's memory", name)
		}
		for _, p := range []string{"/", "/a", "/ab", "/n001", "/d0/a", "", "/a/", "/~"} {
			asked := strings.Clone(p)
			texts := append(itemTexts(list...), asked)
			one, _ := impl.TreeGet(room, asked)
			names := impl.TreeNames(room, asked)
			if sharesText(itemTexts(one), texts) || sharesText(names, texts) {
				t.Errorf("%s: an answer for %q is its argument's memory", name, p)
			}
			for i := range names[:cap(names)] {
				names[:cap(names)][i] = "overwritten"
			}
			if asked != p || !same() {
				t.Errorf("%s: asked of %q an argument was changed", name, p)
			}
		}
		if !same() || !sameTree(room, x) || !sameTree(other, someTree()) {
			t.Errorf("%s: an argument was changed", name)
		}
	}
}

// TreeNames and TreeGet stay what they were, whatever becomes of the tree.
func TestTreesAnswerNewMemory(t *testing.T) {
	for name, x := range rightItems() {
		for _, p := range []string{"/", "/a", "/ab/c", "/n001", "/d0/a", "/d3", "/abcdef/abcdef", "", "/a/"} {
			y := ownTree(x)
			one, _ := impl.TreeGet(y, p)
			names, again, text := impl.TreeNames(y, p), impl.TreeNames(y, p), impl.TreeText(y)
			for i := range y.Items {
				y.Items[i] = fileAt("/over", "written", 3)
			}
			for i := range again[:cap(again)] {
				again[:cap(again)][i] = "overwritten"
			}
			if want, _ := gotten(x, p); one != want || !slices.Equal(names, namesIn(x, p)) || text != treeText(x) {
				t.Errorf("%s: an answer for %q turned to %v, %q, %q", name, p, one, names, text)
			}
		}
	}
}

func TestTreeOfLeavesArguments(t *testing.T) {
	for name, f := range allTrees() {
		f.Data = ownTexts(f.Data)
		room, same := roomyFs(f)
		got, other := impl.TreeOf(room), impl.TreeOf(room)
		if !same() || !sameFs(room, f) {
			t.Errorf("%s: an argument was changed", name)
		}
		if sharesText(itemTexts(got.Items...), room.Data) {
			t.Errorf("%s: TreeOf answers its argument's memory", name)
		}
		if sharesList(got.Items, other.Items) || sharesText(itemTexts(got.Items...), itemTexts(other.Items...)) {
			t.Errorf("%s: two answers share", name)
		}
		want := treeIn(f)
		for i := range other.Items[:cap(other.Items)] {
			other.Items[:cap(other.Items)][i] = fileAt("/over", "written", 3)
		}
		if overwriteFs(room); !sameTree(got, want) {
			t.Errorf("%s: TreeOf turned to %v", name, got)
		}
	}
}
