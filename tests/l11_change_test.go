package tests

import (
	"fmt"
	"maps"
	"math"
	"slices"
	"strings"
	"testing"

	"loop.example/g00483/impl"
)

// A change is a call of one of the functions that change a branch, with all that
// any of them takes.
type change struct {
	call string
	path string
	to   string
	kind int
	data string
	time int
	gen  int
}

func toMake(path string, kind int, data string, time int, gen int) change {
	return change{call: "FsMake", path: path, kind: kind, data: data, time: time, gen: gen}
}

func toPlace(path string, kind int, data string, time int, gen int) change {
	return change{call: "FsPlace", path: path, kind: kind, data: data, time: time, gen: gen}
}

func toSet(path string, data string, time int, gen int) change {
	return change{call: "FsSet", path: path, data: data, time: time, gen: gen}
}

func toDrop(path string) change { return change{call: "FsDrop", path: path} }

func toRename(from string, to string, gen int) change {
	return change{call: "FsRename", path: from, to: to, gen: gen}
}

func toHide(data string) change { return change{call: "FsHide", data: data} }

func toShow() change { return change{call: "FsShow"} }

// on gives what the call answers; FsShow has no code.
func (c change) on(f fs) (fs, int) {
	switch c.call {
	case "FsMake":
		return impl.FsMake(f, c.path, c.kind, c.data, c.time, c.gen)
	case "FsPlace":
		return impl.FsPlace(f, c.path, c.kind, c.data, c.time, c.gen)
	case "FsSet":
		return impl.FsSet(f, c.path, c.data, c.time, c.gen)
	case "FsDrop":
		return impl.FsDrop(f, c.path)
	case "FsRename":
		return impl.FsRename(f, c.path, c.to, c.gen)
	case "FsHide":
		return impl.FsHide(f, c.data)
	}
	return impl.FsShow(f), impl.ErOk
}

// told gives what the document says: the branch behind the call, nil where it is
// as it was, and the code.
func (c change) told(f fs) (*fs, int) {
	paths, ok := pathsIn(f)
	switch {
	case c.call == "FsMake" || c.call == "FsPlace":
		if at, there := paths[c.path]; there && c.call == "FsPlace" && pathForm.MatchString(c.path) {
			if f.Nodes[at].Kind != c.kind {
				return nil, impl.ErKind
			}
			return toldSet(f, paths, ok, c)
		}
		return toldMake(f, paths, ok, c)
	case c.call == "FsSet":
		return toldSet(f, paths, ok, c)
	case c.call == "FsDrop":
		return toldDrop(f, paths, ok, c)
	case c.call == "FsRename":
		return toldRename(f, paths, ok, c)
	case c.call == "FsHide":
		return toldHide(f, paths, ok, c)
	}
	return toldShow(f, paths), impl.ErOk
}

func stamped(c change) bool {
	return c.time >= 0 && c.time <= 100000 && c.gen >= 0 && c.gen <= 1000000
}

// isBelow tells whether a path is one, and not the root.
func isBelow(path string) bool { return path != "/" && pathForm.MatchString(path) }

func isWithin(p string, q string) bool { return strings.HasPrefix(p+"/", q+"/") }

func lastName(path string) string { return path[strings.LastIndexByte(path, '/')+1:] }

func toldMake(f fs, paths map[string]int, ok bool, c change) (*fs, int) {
	_, there := paths[c.path]
	switch {
	case !ok || c.kind < 1 || c.kind > 3 || !stamped(c):
		return nil, impl.ErBad
	case c.kind == 2 && (c.data != "" || c.time != 0 || c.gen != 0):
		return nil, impl.ErBad
	case !isBelow(c.path):
		return nil, impl.ErPath
	case len(c.data) > 80:
		return nil, impl.ErBig
	case there:
		return nil, impl.ErThere
	}
	g, dir, how := ledDown(f, abovePath(c.path))
	if g == nil {
		return nil, how
	}
	g, at := madeIn(*g, dir, lastName(c.path), c.kind)
	if g == nil {
		return nil, impl.ErFull
	}
	return filledAt(*g, at, c)
}

// ledDown goes from directory to directory and makes those that are not there.
func ledDown(f fs, path string) (*fs, int, int) {
	g, dir := &f, 0
	for _, name := range strings.FieldsFunc(path, func(r rune) bool { return r == '/' }) {
		list, _ := dirOf(read(*g, dir))
		if k := place(list, name); k >= 0 {
			if dir = list[k].Node; g.Nodes[dir].Kind != 2 {
				return nil, -1, impl.ErKind
			}
			continue
		}
		if g, dir = madeIn(*g, dir, name, 2); g == nil {
			return nil, -1, impl.ErFull
		}
	}
	return g, dir, impl.ErOk
}

func madeIn(f fs, dir int, name string, kind int) (*fs, int) {
	g, at := made(f, kind)
	if g == nil {
		return nil, -1
	}
	return namedIn(*g, dir, name, at), at
}

func namedIn(f fs, dir int, name string, at int) *fs {
	list, _ := dirOf(read(f, dir))
	more, _ := added(list, name, at)
	return written(f, dir, dirText(more))
}

func unnamedIn(f fs, dir int, name string) *fs {
	list, _ := dirOf(read(f, dir))
	k := place(list, name)
	return written(f, dir, dirText(slices.Delete(list, k, k+1)))
}

func filledAt(f fs, at int, c change) (*fs, int) {
	g := written(f, at, c.data)
	if g == nil {
		return nil, impl.ErFull
	}
	g.Nodes[at].Time, g.Nodes[at].Gen = c.time, c.gen
	return g, impl.ErOk
}

func toldSet(f fs, paths map[string]int, ok bool, c change) (*fs, int) {
	at, there := paths[c.path]
	switch {
	case !ok || !stamped(c):
		return nil, impl.ErBad
	case !pathForm.MatchString(c.path):
		return nil, impl.ErPath
	case !there:
		return nil, impl.ErNone
	case f.Nodes[at].Kind == 2:
		return nil, impl.ErKind
	case len(c.data) > 80:
		return nil, impl.ErBig
	}
	return filledAt(f, at, c)
}

func toldDrop(f fs, paths map[string]int, ok bool, c change) (*fs, int) {
	at, there := paths[c.path]
	switch {
	case !ok:
		return nil, impl.ErBad
	case !isBelow(c.path):
		return nil, impl.ErPath
	case !there:
		return nil, impl.ErNone
	case f.Nodes[at].Kind == 2 && read(f, at) != "":
		return nil, impl.ErBusy
	}
	return unnamedIn(*dropped(f, at), paths[abovePath(c.path)], lastName(c.path)), impl.ErOk
}

func toldRename(f fs, paths map[string]int, ok bool, c change) (*fs, int) {
	at, there := paths[c.path]
	_, taken := paths[c.to]
	switch {
	case !ok || c.gen < 0 || c.gen > 1000000:
		return nil, impl.ErBad
	case !isBelow(c.path) || !isBelow(c.to) || isWithin(c.to, c.path):
		return nil, impl.ErPath
	case !there:
		return nil, impl.ErNone
	case taken:
		return nil, impl.ErThere
	}
	g := unnamedIn(f, paths[abovePath(c.path)], lastName(c.path))
	g, dir, how := ledDown(*g, abovePath(c.to))
	if g == nil {
		return nil, how
	}
	if g = namedIn(*g, dir, lastName(c.to), at); g == nil {
		return nil, impl.ErFull
	}
	if g.Nodes[at].Kind != 2 {
		g.Nodes[at].Gen = c.gen
	}
	if !isHung(*g) {
		return nil, impl.ErPath
	}
	return g, impl.ErOk
}

func toldHide(f fs, paths map[string]int, ok bool, c change) (*fs, int) {
	switch {
	case !ok:
		return nil, impl.ErBad
	case len(c.data) > 80:
		return nil, impl.ErBig
	}
	g := &f
	at, there := paths["/~"]
	if !there {
		g, at = madeIn(f, 0, "~", 1)
	}
	if g != nil {
		g = written(*g, at, c.data)
	}
	if g == nil {
		return nil, impl.ErFull
	}
	return g, impl.ErOk
}

func toldShow(f fs, paths map[string]int) *fs {
	at, there := paths["/~"]
	if !there {
		return nil
	}
	return unnamedIn(*dropped(f, at), 0, "~")
}

// A fact is what one sees at a path, and the Gen there.
type fact struct {
	kind  int
	holds string
	time  int
	gen   int
}

// factsOf gives those of each path; the hidden file has the path /~ here.
func factsOf(f fs) map[string]fact {
	facts := map[string]fact{}
	paths, _ := pathsIn(f)
	for p, at := range paths {
		n := f.Nodes[at]
		one := fact{kind: n.Kind, time: n.Time, gen: n.Gen}
		if n.Kind != 2 {
			one.holds = read(f, at)
		}
		facts[p] = one
	}
	return facts
}

// turned gives the facts behind a change that is taken: all are as they were, but
// for the path that it names, what is below that, and the directories above.
func (c change) turned(was map[string]fact) map[string]fact {
	is := maps.Clone(was)
	switch c.call {
	case "FsMake", "FsPlace", "FsSet":
		one := fact{kind: max(c.kind, was[c.path].kind), holds: c.data, time: c.time, gen: c.gen}
		is[c.path] = one
		withAbove(is, c.path)
	case "FsDrop":
		delete(is, c.path)
	case "FsRename":
		for p, one := range was {
			if isWithin(p, c.path) {
				delete(is, p)
				is[c.to+p[len(c.path):]] = one
			}
		}
		if one := is[c.to]; one.kind != 2 {
			one.gen = c.gen
			is[c.to] = one
		}
		withAbove(is, c.to)
	case "FsHide":
		one := was["/~"]
		one.kind, one.holds = 1, c.data
		is["/~"] = one
	case "FsShow":
		delete(is, "/~")
	}
	return is
}

func withAbove(facts map[string]fact, path string) {
	for above := abovePath(path); above != "/"; above = abovePath(above) {
		if _, there := facts[above]; !there {
			facts[above] = fact{kind: 2}
		}
	}
}

// wantChange asks for what the document says of a call, and for the promise; it
// gives what the call answers.
func wantChange(t *testing.T, f fs, c change) (fs, int) {
	t.Helper()
	want, code := c.told(f)
	got, how := c.on(f)
	if how != code {
		t.Fatalf("%+v of %v is %d, want %d", c, f, how, code)
	}
	if want == nil {
		if !sameFs(got, f) {
			t.Fatalf("%+v of %v is %v, want it as it was", c, f, got)
		}
		return got, how
	}
	if !sameFs(got, *want) {
		t.Fatalf("%+v of %v is %v, want %v", c, f, got, *want)
	}
	if !impl.FsOk(got) || !isHung(got) {
		t.Fatalf("%+v of %v is %v, which is not FsOk", c, f, got)
	}
	if facts := factsOf(got); !maps.Equal(facts, c.turned(factsOf(f))) {
		t.Fatalf("%+v of %v turns %v to %v", c, f, factsOf(f), facts)
	}
	return got, how
}

// wantHow asks for that code, too.
func wantHow(t *testing.T, name string, f fs, c change, want int) fs {
	t.Helper()
	got, how := wantChange(t, f, c)
	if how != want {
		t.Errorf("%s: %+v is %d, want %d", name, c, how, want)
	}
	return got
}

// wantText asks for the tree behind a change that is taken.
func wantText(t *testing.T, f fs, c change, want string) fs {
	t.Helper()
	got := wantHow(t, want, f, c, impl.ErOk)
	if text := impl.TreeText(impl.TreeOf(got)); text != want {
		t.Errorf("%+v makes %q, want %q", c, text, want)
	}
	return got
}

// shelf has a file, a link, an empty directory, and one that holds some; its
// nodes and its blocks are the first ones.
func shelf() fs {
	return grown(
		dirWith(to("d", 1), to("f", 2), to("l", 3)),
		dirWith(to("e", 5), to("g", 4)),
		fileOf("two"), linkOf("/f"), fileOf(textFor(20)), dirWith(),
	)
}

// tight leaves so many free nodes and free blocks behind those that are used,
// which are the first ones.
func tight(f fs, nodes int, blocks int) fs {
	for _, n := range f.Nodes {
		if n.Kind != 0 {
			nodes++
		}
		blocks += len(n.Blocks)
	}
	return fs{Nodes: f.Nodes[:nodes], Data: f.Data[:blocks]}
}

// withNobodys gives the branch with one node that nobody names.
func withNobodys(f fs) fs {
	return fs{Nodes: append(slices.Clone(f.Nodes[:min(len(f.Nodes), 9)]), node{Kind: 1}), Data: f.Data}
}

// An asked is a call on a branch.
type asked struct {
	f fs
	c change
}

// A fault is a reason that a call is refused for, and what brings it about.
type fault struct {
	name string
	how  int
	turn func(x *asked)
}

// wantFirst asks of each fault alone for its code, and of each two that have
// other codes for the code of the one that is named first; that one is turned
// behind the other, so that it is there whatever both of them turn.
func wantFirst(t *testing.T, f fs, c change, faults []fault) {
	t.Helper()
	wantHow(t, "no fault", f, c, impl.ErOk)
	for i, first := range faults {
		x := asked{copied(f), c}
		first.turn(&x)
		wantHow(t, first.name, x.f, x.c, first.how)
		for _, second := range faults[i+1:] {
			if second.how == first.how {
				continue
			}
			x := asked{copied(f), c}
			second.turn(&x)
			first.turn(&x)
			wantHow(t, first.name+", "+second.name, x.f, x.c, first.how)
		}
	}
}

func badTime(x *asked)     { x.c.time = -1 }
func badGen(x *asked)      { x.c.gen = 1000001 }
func noBranch(x *asked)    { x.f = fs{} }
func nobodysNode(x *asked) { x.f = withNobodys(x.f) }
func badPath(x *asked)     { x.c.path += "/" }
func deeperPath(x *asked)  { x.c.path += "/a/a/a/a" }
func bigData(x *asked)     { x.c.data = textFor(81) }
func noRoom(x *asked)      { x.f = tight(x.f, 0, 0) }

// pathTo turns a fault's path.
func pathTo(path string) func(x *asked) {
	return func(x *asked) { x.c.path = path }
}

func renamedTo(path string) func(x *asked) {
	return func(x *asked) { x.c.to = path }
}

// numbersAt gives a greatest number's edges, and others that are beyond it.
func numbersAt(most int) (in []int, out []int) {
	return []int{0, 1, 127, 128, most - 1, most}, []int{-1, -2, most + 1, most + 2, 1<<32 + 1, math.MinInt, math.MinInt + 1, math.MaxInt}
}

func TestCodes(t *testing.T) {
	codes := []int{impl.ErOk, impl.ErPath, impl.ErNone, impl.ErThere, impl.ErKind, impl.ErFull, impl.ErRead, impl.ErCross, impl.ErBusy, impl.ErBig, impl.ErBad}
	for want, code := range codes {
		if code != want {
			t.Errorf("code %d is %d", want, code)
		}
	}
}

// What is made goes by the nodes and the blocks that are free, in the order in
// which the chapter names the steps.
func TestFsMake(t *testing.T) {
	got := wantText(t, branch(5, 9), toMake("/a/x", 1, "hello", 7, 2), "/a/\n/a/x=hello@7\n")
	want := fs{
		Nodes: []node{
			{Kind: 2, Size: 3, Blocks: []int{0}}, {Kind: 2, Size: 3, Blocks: []int{1}},
			{Kind: 1, Gen: 2, Time: 7, Size: 5, Blocks: []int{2}}, {}, {},
		},
		Data: []string{"\x01a\x01", "\x01x\x02", "hello", "", "", "", "", "", ""},
	}
	if !sameFs(got, want) {
		t.Errorf("FsMake is %v, want %v", got, want)
	}
	f := wantText(t, got, toMake("/0", 3, textFor(17), 100000, 1000000), "/0>"+textFor(17)+"@100000\n/a/\n/a/x=hello@7\n")
	if n := (node{Kind: 3, Gen: 1000000, Time: 100000, Size: 17, Blocks: []int{3, 4}}); !sameNode(f.Nodes[3], n) || f.Data[0] != "\x01\x30\x03\x01a\x01" {
		t.Errorf("FsMake is %v", f)
	}
	f = wantText(t, f, toMake("/a/d", 2, "", 0, 0), "/0>"+textFor(17)+"@100000\n/a/\n/a/d/\n/a/x=hello@7\n")
	if !sameNode(f.Nodes[4], node{Kind: 2}) || f.Data[1] != "\x01d\x04\x01x\x02" {
		t.Errorf("FsMake is %v", f)
	}
	wantHow(t, "no node is free", f, toMake("/z", 1, "", 0, 0), impl.ErFull)
}

func TestFsMakeOnThePath(t *testing.T) {
	f := shelf()
	rest := "/d/\n/d/e/\n/d/g=" + textFor(20) + "@44\n/f=two@42\n/l>/f@43\n"
	wantText(t, f, toMake("/a", 1, "x", 1, 2), "/a=x@1\n"+rest)
	wantText(t, f, toMake("/a/b/c/d", 1, "x", 1, 2), "/a/\n/a/b/\n/a/b/c/\n/a/b/c/d=x@1\n"+rest)
	wantText(t, f, toMake("/a/b/c/d", 2, "", 0, 0), "/a/\n/a/b/\n/a/b/c/\n/a/b/c/d/\n"+rest)
	wantText(t, f, toMake("/a/d", 3, "/d", 0, 0), "/a/\n/a/d>/d@0\n"+rest)
	wantText(t, f, toMake("/d/e/a", 1, "", 9, 9), strings.Replace(rest, "/d/g", "/d/e/a=@9\n/d/g", 1))
	wantText(t, f, toMake("/d/e/a/b", 3, "", 9, 9), strings.Replace(rest, "/d/g", "/d/e/a/\n/d/e/a/b>@9\n/d/g", 1))
	wantText(t, f, toMake("/d/d", 2, "", 0, 0), strings.Replace(rest, "/d/e/", "/d/d/\n/d/e/", 1))
	wantText(t, f, toMake("/d/g0", 1, "", 0, 0), strings.Replace(rest, "/f", "/d/g0=@0\n/f", 1))
	wantText(t, f, toMake("/abcdef/ghijkl/mnopqr/stuvwx", 1, "", 0, 0), "/abcdef/\n/abcdef/ghijkl/\n/abcdef/ghijkl/mnopqr/\n/abcdef/ghijkl/mnopqr/stuvwx=@0\n"+rest)
	for path, want := range map[string]int{
		"/": impl.ErPath, "": impl.ErPath, "/d/": impl.ErPath, "/~": impl.ErPath, "/a/b/c/d/e": impl.ErPath, "/f/a/a/a/a": impl.ErPath, "/abcdefg": impl.ErPath,
		"/d": impl.ErThere, "/d/e": impl.ErThere, "/d/g": impl.ErThere, "/f": impl.ErThere, "/l": impl.ErThere,
		"/f/a": impl.ErKind, "/l/a": impl.ErKind, "/d/g/a": impl.ErKind, "/f/a/b/c": impl.ErKind, "/l/d/e": impl.ErKind, "/d/g/d/g": impl.ErKind,
	} {
		for _, c := range []change{toMake(path, 1, "x", 1, 1), toMake(path, 3, "x", 1, 1), toMake(path, 2, "", 0, 0)} {
			wantHow(t, path, f, c, want)
		}
	}
}

func TestFsMakeNamesTheFirstReason(t *testing.T) {
	dirOf := func(data string, time int, gen int) func(x *asked) {
		return func(x *asked) { x.c.kind, x.c.data, x.c.time, x.c.gen = 2, data, time, gen }
	}
	kindOf := func(kind int) func(x *asked) {
		return func(x *asked) { x.c.kind = kind }
	}
	wantFirst(t, shelf(), toMake("/d/e/a/b", 1, textFor(40), 5, 6), []fault{
		{"no branch", impl.ErBad, noBranch},
		{"nobody's node", impl.ErBad, nobodysNode},
		{"free", impl.ErBad, kindOf(0)},
		{"kind 4", impl.ErBad, kindOf(4)},
		{"a bad time", impl.ErBad, badTime},
		{"a bad gen", impl.ErBad, badGen},
		{"a directory's data", impl.ErBad, dirOf("x", 0, 0)},
		{"a directory's big data", impl.ErBad, dirOf(textFor(81), 0, 0)},
		{"a directory's time", impl.ErBad, dirOf("", 1, 0)},
		{"a directory's gen", impl.ErBad, dirOf("", 0, 1)},
		{"a bad path", impl.ErPath, badPath},
		{"a deeper path", impl.ErPath, deeperPath},
		{"the root, which is there", impl.ErPath, pathTo("/")},
		{"no path", impl.ErPath, pathTo("")},
		{"big", impl.ErBig, bigData},
		{"a file is there", impl.ErThere, pathTo("/d/g")},
		{"a link is there", impl.ErThere, pathTo("/l")},
		{"a directory is there", impl.ErThere, pathTo("/d")},
		{"through a file", impl.ErKind, pathTo("/d/g/a")},
		{"through a link", impl.ErKind, pathTo("/l/a/b")},
		{"full", impl.ErFull, noRoom},
		{"no node", impl.ErFull, func(x *asked) { x.f = tight(x.f, 0, 20) }},
		{"no block", impl.ErFull, func(x *asked) { x.f = tight(x.f, 4, 0) }},
	})
}

func TestFsMakeOfEachKindTimeAndGen(t *testing.T) {
	f := shelf()
	for _, kind := range someKinds {
		want := impl.ErBad
		if kind >= 1 && kind <= 3 {
			want = impl.ErOk
		}
		wantHow(t, "kind", f, toMake("/n", kind, "", 0, 0), want)
		wantHow(t, "kind", f, toPlace("/n", kind, "", 0, 0), want)
	}
	times, noTimes := numbersAt(100000)
	gens, noGens := numbersAt(1000000)
	for kind := 1; kind <= 3; kind++ {
		for _, path := range []string{"/n", "/n/n", "/d/e/n"} {
			for _, time := range append(times, noTimes...) {
				want := impl.ErBad
				if time == 0 || kind != 2 && slices.Contains(times, time) {
					want = impl.ErOk
				}
				wantHow(t, "time", f, toMake(path, kind, "", time, 0), want)
			}
			for _, gen := range append(gens, noGens...) {
				want := impl.ErBad
				if gen == 0 || kind != 2 && slices.Contains(gens, gen) {
					want = impl.ErOk
				}
				wantHow(t, "gen", f, toMake(path, kind, "", 0, gen), want)
			}
		}
	}
}

func TestChangesOfEachSize(t *testing.T) {
	for size := range 100 {
		data, want, dir := textFor(size), impl.ErOk, impl.ErBad
		if size > 80 {
			want = impl.ErBig
		}
		if size == 0 {
			dir = impl.ErOk
		}
		for _, kind := range []int{1, 3} {
			wantHow(t, "size", shelf(), toMake("/n/n", kind, data, 3, 4), want)
			wantHow(t, "size", shelf(), toPlace("/n/n", kind, data, 3, 4), want)
		}
		wantHow(t, "size", shelf(), toMake("/n", 2, data, 0, 0), dir)
		for _, path := range []string{"/f", "/l", "/d/g"} {
			wantHow(t, "size", shelf(), toSet(path, data, 3, 4), want)
		}
		wantHow(t, "size", shelf(), toSet("/d", data, 3, 4), impl.ErKind)
		wantHow(t, "size", shelf(), toHide(data), want)
		wantHow(t, "size", hidingTree("so"), toHide(data), want)
	}
}

// wantNeeds asks of a branch with each number of free nodes and of free blocks:
// a change is taken where there are so many of both, and ErFull elsewhere.
func wantNeeds(t *testing.T, f fs, c change, nodes int, blocks int) {
	t.Helper()
	used := 0
	for _, n := range f.Nodes {
		if n.Kind != 0 {
			used++
		}
	}
	for freeNodes := range min(nodes+3, 11-used) {
		for freeBlocks := range blocks + 3 {
			want := impl.ErFull
			if freeNodes >= nodes && freeBlocks >= blocks {
				want = impl.ErOk
			}
			g := tight(f, freeNodes, freeBlocks)
			if !impl.FsOk(g) || impl.FreeOf(g) != freeBlocks {
				t.Fatalf("%v is not FsOk, or has not %d free", g, freeBlocks)
			}
			wantHow(t, fmt.Sprint(freeNodes, " nodes and ", freeBlocks, " blocks are free"), g, c, want)
		}
	}
}

func TestFsMakeWithJustEnoughRoom(t *testing.T) {
	f := shelf()
	for _, kind := range []int{1, 3} {
		for size := range 81 {
			wantNeeds(t, f, toMake("/n", kind, textFor(size), 1, 1), 1, (size+15)/16)
		}
		wantNeeds(t, f, toMake("/d/n", kind, textFor(80), 1, 1), 1, 5)
		wantNeeds(t, f, toMake("/d/e/n", kind, textFor(17), 1, 1), 1, 3)
		wantNeeds(t, f, toMake("/n/n/n", kind, "", 1, 1), 3, 2)
		wantNeeds(t, f, toMake("/n/n/n/n", kind, textFor(33), 1, 1), 4, 6)
		wantNeeds(t, f, toMake("/d/e/n/n", kind, "x", 1, 1), 2, 3)
		wantNeeds(t, f, toPlace("/n/n/n/n", kind, textFor(33), 1, 1), 4, 6)
	}
	wantNeeds(t, f, toMake("/n", 2, "", 0, 0), 1, 0)
	wantNeeds(t, f, toMake("/n/n", 2, "", 0, 0), 2, 1)
	wantNeeds(t, f, toMake("/n/n/n/n", 2, "", 0, 0), 4, 3)
	wantNeeds(t, f, toPlace("/d/n/n", 2, "", 0, 0), 2, 1)
	// What a directory holds fills its block to the last byte, and one more.
	wantNeeds(t, f, toMake("/nnnnn", 1, "", 1, 1), 1, 0)
	wantNeeds(t, f, toMake("/nnnnnn", 1, "", 1, 1), 1, 1)
	wantNeeds(t, f, toMake("/nnnnn/n", 1, "", 1, 1), 2, 1)
	wantNeeds(t, f, toMake("/nnnnnn/n", 1, "", 1, 1), 2, 2)
	wantNeeds(t, f, toMake("/nnnnnn/nnnnnn/nnnnnn", 1, textFor(80), 1, 1), 3, 8)
}

// Nine names of six signs are the most that a directory holds; they have room in
// five blocks, and there is no tenth node.
func TestFsMakeOfEachNode(t *testing.T) {
	for _, dir := range []string{"", "/aaaaaa"} {
		names := longNames
		f := branch(10, 36)
		if dir != "" {
			f, names = wantHow(t, "above", f, toMake(dir, 2, "", 0, 0), impl.ErOk), names[:8]
		}
		for _, k := range []int{4, 0, 8, 6, 2, 1, 7, 5, 3} {
			if k < len(names) {
				f = wantHow(t, names[k], f, toMake(dir+"/"+names[k], []int{1, 3}[k%2], "x", 1, 1), impl.ErOk)
			}
		}
		if got := impl.TreeNames(impl.TreeOf(f), max(dir, "/")); !slices.Equal(got, names) {
			t.Errorf("%q holds %q, want %q", dir, got, names)
		}
		wantHow(t, "a node more", f, toMake("/q", 1, "", 0, 0), impl.ErFull)
		wantHow(t, "a node more", f, toHide(""), impl.ErFull)
	}
	f := branch(10, 36)
	for _, name := range longNames[:8] {
		f = wantHow(t, name, f, toMake("/"+name, 1, "", 1, 1), impl.ErOk)
	}
	f = wantHow(t, "hidden", f, toHide("x"), impl.ErOk)
	wantHow(t, "a node more", f, toMake("/q", 1, "", 0, 0), impl.ErFull)
}

func TestFsSet(t *testing.T) {
	f := shelf()
	for _, path := range []string{"/f", "/l", "/d/g"} {
		at := impl.Walk(f, path)
		for _, data := range []string{"", "x", "one", textFor(15), textFor(16), textFor(17), textFor(20), textFor(80), "\x00\xff\n@=/>"} {
			got := wantHow(t, path, f, toSet(path, data, 9, 8), impl.ErOk)
			n := got.Nodes[at]
			if n.Kind != f.Nodes[at].Kind || n.Time != 9 || n.Gen != 8 || n.Size != len(data) || read(got, at) != data {
				t.Errorf("FsSet of %q at %s makes %v", data, path, got)
			}
			if want := 30 + len(f.Nodes[at].Blocks) - neededBlocks(len(data)); impl.FreeOf(got) != want {
				t.Errorf("FsSet of %q at %s leaves %d free, want %d", data, path, impl.FreeOf(got), want)
			}
		}
	}
	got := wantText(t, f, toSet("/d/g", "0123456789abcdefghi", 9, 3), "/d/\n/d/e/\n/d/g=0123456789abcdefghi@9\n/f=two@42\n/l>/f@43\n")
	if !slices.Equal(got.Nodes[4].Blocks, []int{4, 5}) {
		t.Errorf("FsSet takes blocks %v", got.Nodes[4].Blocks)
	}
	if got = wantHow(t, "longer", got, toSet("/f", textFor(33), 0, 0), impl.ErOk); !slices.Equal(got.Nodes[2].Blocks, []int{2, 6, 7}) {
		t.Errorf("FsSet takes blocks %v", got.Nodes[2].Blocks)
	}
	for path, want := range map[string]int{
		"": impl.ErPath, "/d/": impl.ErPath, "f": impl.ErPath, "/~": impl.ErPath, "/a/a/a/a/a": impl.ErPath,
		"/a": impl.ErNone, "/d/a": impl.ErNone, "/f/a": impl.ErNone, "/l/d": impl.ErNone, "/ff": impl.ErNone, "/d/e/e": impl.ErNone,
		"/": impl.ErKind, "/d": impl.ErKind, "/d/e": impl.ErKind,
	} {
		wantHow(t, path, f, toSet(path, "x", 1, 1), want)
		wantHow(t, path, f, toSet(path, "", 0, 0), want)
	}
}

func TestFsSetNamesTheFirstReason(t *testing.T) {
	wantFirst(t, shelf(), toSet("/d/g", textFor(40), 5, 6), []fault{
		{"no branch", impl.ErBad, noBranch},
		{"nobody's node", impl.ErBad, nobodysNode},
		{"a bad time", impl.ErBad, badTime},
		{"a bad gen", impl.ErBad, badGen},
		{"a bad path", impl.ErPath, badPath},
		{"no path", impl.ErPath, pathTo("")},
		{"not there", impl.ErNone, pathTo("/d/q")},
		{"through a file", impl.ErNone, pathTo("/f/q")},
		{"a directory", impl.ErKind, pathTo("/d")},
		{"the root", impl.ErKind, pathTo("/")},
		{"big", impl.ErBig, bigData},
		{"full", impl.ErFull, noRoom},
	})
}

func TestFsSetOfEachTimeAndGen(t *testing.T) {
	times, noTimes := numbersAt(100000)
	gens, noGens := numbersAt(1000000)
	for _, f := range []fs{shelf(), tight(shelf(), 0, 0)} {
		for _, path := range []string{"/f", "/l"} {
			for _, time := range times {
				wantHow(t, "time", f, toSet(path, "x", time, 5), impl.ErOk)
			}
			for _, gen := range gens {
				wantHow(t, "gen", f, toSet(path, "x", 5, gen), impl.ErOk)
			}
		}
		for _, path := range []string{"/f", "/l", "/d", "/", "/q", "", "/f/"} {
			for _, time := range noTimes {
				wantHow(t, "time", f, toSet(path, "", time, 0), impl.ErBad)
			}
			for _, gen := range noGens {
				wantHow(t, "gen", f, toSet(path, "", 0, gen), impl.ErBad)
			}
		}
	}
}

func TestFsSetWithJustEnoughRoom(t *testing.T) {
	for size := range 81 {
		wantNeeds(t, shelf(), toSet("/f", textFor(size), 1, 1), 0, max((size+15)/16-1, 0))
		wantNeeds(t, shelf(), toSet("/l", textFor(size), 1, 1), 0, max((size+15)/16-1, 0))
		wantNeeds(t, shelf(), toSet("/d/g", textFor(size), 1, 1), 0, max((size+15)/16-2, 0))
		wantNeeds(t, shelf(), toPlace("/d/g", 1, textFor(size), 1, 1), 0, max((size+15)/16-2, 0))
	}
}

func TestFsDrop(t *testing.T) {
	f := shelf()
	rest := "/d/\n/d/e/\n/d/g=" + textFor(20) + "@44\n/f=two@42\n/l>/f@43\n"
	for path, c := range map[string]struct {
		free int
		text string
	}{
		"/f":   {31, strings.Replace(rest, "/f=two@42\n", "", 1)},
		"/l":   {31, strings.Replace(rest, "/l>/f@43\n", "", 1)},
		"/d/g": {32, strings.Replace(rest, "/d/g="+textFor(20)+"@44\n", "", 1)},
		"/d/e": {30, strings.Replace(rest, "/d/e/\n", "", 1)},
	} {
		got := wantText(t, f, toDrop(path), c.text)
		if impl.FreeOf(got) != c.free || !sameNode(got.Nodes[impl.Walk(f, path)], node{}) {
			t.Errorf("FsDrop of %s leaves %d free, want %d: %v", path, impl.FreeOf(got), c.free, got)
		}
		wantText(t, tight(f, 0, 0), toDrop(path), c.text)
	}
	for path, want := range map[string]int{
		"": impl.ErPath, "/": impl.ErPath, "/d/": impl.ErPath, "f": impl.ErPath, "/~": impl.ErPath, "/a/a/a/a/a": impl.ErPath, "/abcdefg": impl.ErPath,
		"/a": impl.ErNone, "/d/a": impl.ErNone, "/f/a": impl.ErNone, "/ff": impl.ErNone, "/l/d": impl.ErNone, "/l/e": impl.ErNone, "/d/e/a": impl.ErNone,
		"/d": impl.ErBusy,
	} {
		wantHow(t, path, f, toDrop(path), want)
	}
	wantHow(t, "an empty root", branch(3, 9), toDrop("/"), impl.ErPath)
	wantHow(t, "hidden", hidingTree("x"), toDrop("/~"), impl.ErPath)
}

func TestFsDropNamesTheFirstReason(t *testing.T) {
	wantFirst(t, shelf(), toDrop("/d/g"), []fault{
		{"no branch", impl.ErBad, noBranch},
		{"nobody's node", impl.ErBad, nobodysNode},
		{"a bad path", impl.ErPath, badPath},
		{"the root, which holds something", impl.ErPath, pathTo("/")},
		{"no path", impl.ErPath, pathTo("")},
		{"not there", impl.ErNone, pathTo("/q")},
		{"busy", impl.ErBusy, pathTo("/d")},
	})
}

// A directory that was emptied can be dropped, until nothing is left.
func TestFsDropOfEachPath(t *testing.T) {
	for name, f := range rightTrees() {
		list := impl.TreeOf(f).Items
		for _, one := range slices.Backward(list) {
			was := impl.FreeOf(f)
			f = wantHow(t, name, f, toDrop(one.Path), impl.ErOk)
			if impl.FreeOf(f) < was+neededBlocks(len(one.Data)) {
				t.Errorf("%s: FsDrop of %s leaves %d free of %d", name, one.Path, impl.FreeOf(f), was)
			}
			wantHow(t, name, f, toDrop(one.Path), impl.ErNone)
		}
		if f = impl.FsShow(f); !sameFs(f, branch(len(f.Nodes), len(f.Data))) {
			t.Errorf("%s: of all that was dropped is left %v", name, f)
		}
	}
}

func TestFsRename(t *testing.T) {
	f := shelf()
	g := "=" + textFor(20) + "@44\n"
	wantText(t, f, toRename("/f", "/a", 7), "/a=two@42\n/d/\n/d/e/\n/d/g"+g+"/l>/f@43\n")
	wantText(t, f, toRename("/f", "/ff", 7), "/d/\n/d/e/\n/d/g"+g+"/ff=two@42\n/l>/f@43\n")
	wantText(t, f, toRename("/d/g", "/d/a", 7), "/d/\n/d/a"+g+"/d/e/\n/f=two@42\n/l>/f@43\n")
	wantText(t, f, toRename("/d/g", "/g", 7), "/d/\n/d/e/\n/f=two@42\n/g"+g+"/l>/f@43\n")
	wantText(t, f, toRename("/l", "/d/e/l", 7), "/d/\n/d/e/\n/d/e/l>/f@43\n/d/g"+g+"/f=two@42\n")
	wantText(t, f, toRename("/f", "/n/f", 7), "/d/\n/d/e/\n/d/g"+g+"/l>/f@43\n/n/\n/n/f=two@42\n")
	wantText(t, f, toRename("/f", "/n/n/n/f", 7), "/d/\n/d/e/\n/d/g"+g+"/l>/f@43\n/n/\n/n/n/\n/n/n/n/\n/n/n/n/f=two@42\n")
	wantText(t, f, toRename("/d/e", "/e", 7), "/d/\n/d/g"+g+"/e/\n/f=two@42\n/l>/f@43\n")
	wantText(t, f, toRename("/d", "/dd", 7), "/dd/\n/dd/e/\n/dd/g"+g+"/f=two@42\n/l>/f@43\n")
	wantText(t, f, toRename("/d", "/a/b", 7), "/a/\n/a/b/\n/a/b/e/\n/a/b/g"+g+"/f=two@42\n/l>/f@43\n")
	wantText(t, f, toRename("/d", "/a/b/c", 7), "/a/\n/a/b/\n/a/b/c/\n/a/b/c/e/\n/a/b/c/g"+g+"/f=two@42\n/l>/f@43\n")
	wantText(t, f, toRename("/d/g", "/d/e/g", 7), "/d/\n/d/e/\n/d/e/g"+g+"/f=two@42\n/l>/f@43\n")
	for names, want := range map[[2]string]int{
		{"/f", "/"}: impl.ErPath, {"/", "/f"}: impl.ErPath, {"/", "/a"}: impl.ErPath, {"", "/a"}: impl.ErPath, {"/f", ""}: impl.ErPath,
		{"/f", "/a/"}: impl.ErPath, {"/f/", "/a"}: impl.ErPath, {"/f", "/~"}: impl.ErPath, {"/~", "/a"}: impl.ErPath, {"/f", "/a/a/a/a/a"}: impl.ErPath,
		{"/f", "/f"}: impl.ErPath, {"/d", "/d"}: impl.ErPath, {"/d", "/d/a"}: impl.ErPath, {"/d", "/d/e/a"}: impl.ErPath, {"/d", "/d/e"}: impl.ErPath, {"/f", "/f/a"}: impl.ErPath,
		{"/q", "/a"}: impl.ErNone, {"/q", "/f"}: impl.ErNone, {"/ff", "/a"}: impl.ErNone, {"/f/a", "/a"}: impl.ErNone, {"/d/e/e", "/a"}: impl.ErNone, {"/f/a", "/f"}: impl.ErNone,
		{"/f", "/l"}: impl.ErThere, {"/f", "/d"}: impl.ErThere, {"/d/g", "/d"}: impl.ErThere, {"/d/e", "/d/g"}: impl.ErThere, {"/d", "/f"}: impl.ErThere,
		{"/d", "/f/a"}: impl.ErKind, {"/f", "/l/a"}: impl.ErKind, {"/f", "/d/g/a"}: impl.ErKind, {"/l", "/f/a/a/a"}: impl.ErKind,
		{"/d", "/a/b/c/d"}: impl.ErPath,
	} {
		wantHow(t, fmt.Sprint(names), f, toRename(names[0], names[1], 7), want)
	}
}

// A name that goes leaves its room ahead of what comes.
func TestFsRenameTakesTheLowest(t *testing.T) {
	f := grown(dirWith(to("a", 1), to("b", 2)), dirWith(to("x", 3)), fileOf("b"), fileOf("x"))
	got := wantText(t, f, toRename("/a/x", "/n/m/y", 1), "/a/\n/b=b@42\n/n/\n/n/m/\n/n/m/y=x@43\n")
	for at, want := range []node{
		{Kind: 2, Size: 9, Blocks: []int{0}}, {Kind: 2}, {Kind: 1, Gen: 5, Time: 42, Size: 1, Blocks: []int{2}},
		{Kind: 1, Gen: 1, Time: 43, Size: 1, Blocks: []int{3}}, {Kind: 2, Size: 3, Blocks: []int{1}}, {Kind: 2, Size: 3, Blocks: []int{4}},
	} {
		if !sameNode(got.Nodes[at], want) {
			t.Errorf("node %d is %v, want %v", at, got.Nodes[at], want)
		}
	}
	if !slices.Equal(got.Data[:6], []string{"\x01a\x01\x01b\x02\x01n\x04", "\x01m\x05", "b", "x", "\x01y\x03", ""}) {
		t.Errorf("the data are %q", got.Data)
	}
}

func TestFsRenameNamesTheFirstReason(t *testing.T) {
	wantFirst(t, shelf(), toRename("/d/g", "/n/x", 7), []fault{
		{"no branch", impl.ErBad, noBranch},
		{"nobody's node", impl.ErBad, nobodysNode},
		{"a bad gen", impl.ErBad, badGen},
		{"a gen below 0", impl.ErBad, func(x *asked) { x.c.gen = -1 }},
		{"a bad path", impl.ErPath, badPath},
		{"the root", impl.ErPath, pathTo("/")},
		{"to a bad path", impl.ErPath, func(x *asked) { x.c.to += "/" }},
		{"to the root", impl.ErPath, renamedTo("/")},
		{"to itself", impl.ErPath, func(x *asked) { x.c.to = x.c.path }},
		{"to within itself", impl.ErPath, func(x *asked) { x.c.to = x.c.path + "/a" }},
		{"not there", impl.ErNone, pathTo("/q")},
		{"to one that is there", impl.ErThere, renamedTo("/l")},
		{"to a file that is there", impl.ErThere, renamedTo("/f")},
		{"through a file", impl.ErKind, renamedTo("/f/a")},
		{"through a link", impl.ErKind, renamedTo("/l/a/a")},
		{"full", impl.ErFull, noRoom},
		{"too deep", impl.ErPath, func(x *asked) { x.c.path, x.c.to = "/d", "/n/n/n/n" }},
	})
	f := grown(dirWith(to("a", 1), to("d", 4)), dirWith(to("a", 2), to("f", 6)), dirWith(to("a", 3)), dirWith(to("a", 7)), dirWith(to("x", 5)), fileOf("x"), fileOf("f"), fileOf("a"))
	wantHow(t, "too deep", f, toRename("/d", "/a/a/a/b", 7), impl.ErPath)
	wantHow(t, "there, too deep", f, toRename("/d", "/a/a/a/a", 7), impl.ErThere)
	wantHow(t, "through a file, too deep", f, toRename("/d", "/a/f/a/b", 7), impl.ErKind)
	wantHow(t, "through a file, full", tight(f, 0, 0), toRename("/d", "/a/f/a/b", 7), impl.ErKind)
	wantHow(t, "full, too deep", tight(f, 0, 0), toRename("/d", "/n/n/n/n", 7), impl.ErFull)
	wantHow(t, "within, too deep", f, toRename("/a", "/a/b/b/b", 7), impl.ErPath)
}

// A directory and all below it has just enough depth, or one name too many.
func TestFsRenameOfEachDepth(t *testing.T) {
	targets := []string{"/n", "/n/n", "/n/n/n", "/n/n/n/n"}
	for below := range 4 {
		for kind, end := range []spot{dirWith(), fileOf("x"), linkOf("x")} {
			f := chain(below+1, end)
			for deep, target := range targets {
				want := impl.ErOk
				if deep+1+below > 4 {
					want = impl.ErPath
				}
				got := wantHow(t, fmt.Sprint("kind ", kind), f, toRename("/a", target, 7), want)
				if path := target + strings.Repeat("/a", below); want == impl.ErOk && impl.KindAt(got, path) != impl.KindAt(f, "/a"+strings.Repeat("/a", below)) {
					t.Errorf("%d below, of kind %d: nothing at %s", below, kind, path)
				}
			}
		}
	}
}

func TestFsRenameOfEachGen(t *testing.T) {
	gens, noGens := numbersAt(1000000)
	f := shelf()
	for _, from := range []string{"/f", "/l", "/d/g", "/d", "/d/e"} {
		at := impl.Walk(f, from)
		for _, gen := range gens {
			got := wantHow(t, from, f, toRename(from, "/n", gen), impl.ErOk)
			for i, n := range got.Nodes {
				want := f.Nodes[i].Gen
				if i == at && n.Kind != impl.NdDir {
					want = gen
				}
				if n.Gen != want || n.Time != f.Nodes[i].Time {
					t.Errorf("FsRename of %s with gen %d: node %d is %v", from, gen, i, n)
				}
			}
		}
		for _, gen := range noGens {
			wantHow(t, from, f, toRename(from, "/n", gen), impl.ErBad)
			wantHow(t, from, f, toRename(from, from, gen), impl.ErBad)
			wantHow(t, from, f, toRename(from, "/", gen), impl.ErBad)
		}
	}
}

func TestFsRenameWithJustEnoughRoom(t *testing.T) {
	f := shelf()
	wantNeeds(t, f, toRename("/f", "/ffffff", 1), 0, 0)
	wantNeeds(t, f, toRename("/f", "/d/e/f", 1), 0, 1)
	wantNeeds(t, f, toRename("/f", "/n/f", 1), 1, 1)
	wantNeeds(t, f, toRename("/f", "/n/n/f", 1), 2, 2)
	wantNeeds(t, f, toRename("/f", "/n/n/n/f", 1), 3, 3)
	wantNeeds(t, f, toRename("/d", "/n/n/n", 1), 2, 2)
	wantNeeds(t, f, toRename("/f", "/d/ffffff", 1), 0, 0)
	f = wantHow(t, "a longer name", f, toMake("/d/mmm", 1, "", 0, 0), impl.ErOk)
	wantNeeds(t, f, toRename("/f", "/d/fff", 1), 0, 0)
	wantNeeds(t, f, toRename("/f", "/d/ffff", 1), 0, 1)
	wantNeeds(t, f, toRename("/d/e", "/d/eeeeee", 1), 0, 0)
	f = wantHow(t, "another one", f, toMake("/d/n", 1, "", 0, 0), impl.ErOk)
	wantNeeds(t, f, toRename("/d/e", "/d/eee", 1), 0, 0)
	wantNeeds(t, f, toRename("/d/e", "/d/eeee", 1), 0, 1)
	// The last name of a directory goes, and its block with it.
	one := grown(dirWith(to("a", 1), to("b", 3)), dirWith(to("x", 2)), fileOf("x"), dirWith())
	wantNeeds(t, one, toRename("/a/x", "/b/x", 1), 0, 0)
	wantNeeds(t, one, toRename("/a/x", "/a/yyyyyy", 1), 0, 0)
	wantNeeds(t, one, toRename("/a/x", "/n/x", 1), 1, 0)
	wantNeeds(t, one, toRename("/a/x", "/n/n/x", 1), 2, 1)
	wantNeeds(t, one, toRename("/a/x", "/n/n/n/x", 1), 3, 2)
}

func TestFsPlace(t *testing.T) {
	f := shelf()
	rest := "/d/\n/d/e/\n/d/g=" + textFor(20) + "@44\n/f=two@42\n/l>/f@43\n"
	wantText(t, f, toPlace("/f", 1, "2", 9, 8), strings.Replace(rest, "/f=two@42", "/f=2@9", 1))
	wantText(t, f, toPlace("/l", 3, "2", 9, 8), strings.Replace(rest, "/l>/f@43", "/l>2@9", 1))
	wantText(t, f, toPlace("/a/b", 1, "2", 9, 8), "/a/\n/a/b=2@9\n"+rest)
	wantText(t, f, toPlace("/a/b", 3, "2", 9, 8), "/a/\n/a/b>2@9\n"+rest)
	wantText(t, f, toPlace("/a/b", 2, "", 0, 0), "/a/\n/a/b/\n"+rest)
	for path, is := range map[string]int{"/": 2, "/d": 2, "/d/e": 2, "/f": 1, "/d/g": 1, "/l": 3} {
		for _, kind := range someKinds {
			want := impl.ErOk
			if kind != is || kind == 2 {
				want = impl.ErKind
			}
			wantHow(t, path, f, toPlace(path, kind, "", 0, 0), want)
			if kind != is {
				wantHow(t, path, f, toPlace(path, kind, textFor(81), -1, 1000001), impl.ErKind)
				wantHow(t, path, withNobodys(f), toPlace(path, kind, "", 0, 0), impl.ErBad)
			}
		}
	}
	for path, want := range map[string]int{"": impl.ErPath, "/d/": impl.ErPath, "/~": impl.ErPath, "/f/a": impl.ErKind, "/d/g/a/a": impl.ErKind, "/a/a/a/a/a": impl.ErPath} {
		wantHow(t, path, f, toPlace(path, 1, "x", 1, 1), want)
		wantHow(t, path, f, toPlace(path, 1, "x", -1, 1), impl.ErBad)
		wantHow(t, path, f, toPlace(path, 0, "", 0, 0), impl.ErBad)
	}
}

func TestFsPlaceNamesTheFirstReason(t *testing.T) {
	wantFirst(t, shelf(), toPlace("/d/g", 1, textFor(40), 5, 6), []fault{
		{"no branch", impl.ErBad, noBranch},
		{"nobody's node", impl.ErBad, nobodysNode},
		{"a bad time", impl.ErBad, badTime},
		{"a bad gen", impl.ErBad, badGen},
		{"big", impl.ErBig, bigData},
		{"full", impl.ErFull, noRoom},
	})
	wantFirst(t, shelf(), toPlace("/n/a", 3, textFor(40), 5, 6), []fault{
		{"no branch", impl.ErBad, noBranch},
		{"nobody's node", impl.ErBad, nobodysNode},
		{"a bad time", impl.ErBad, badTime},
		{"a bad gen", impl.ErBad, badGen},
		{"a bad path", impl.ErPath, badPath},
		{"big", impl.ErBig, bigData},
		{"through a file", impl.ErKind, pathTo("/f/a")},
		{"full", impl.ErFull, noRoom},
	})
}

// wantHides asks that the hidden file holds what it should, and the tree is as it
// was.
func wantHides(t *testing.T, name string, f fs, data string) fs {
	t.Helper()
	got := wantHow(t, name, f, toHide(data), impl.ErOk)
	if s, ok := impl.HiddenOf(got); !ok || s != data {
		t.Errorf("%s: HiddenOf is %q, %t, want %q", name, s, ok, data)
	}
	if !impl.TreeSame(impl.TreeOf(got), impl.TreeOf(f)) {
		t.Errorf("%s: hidden %q, the tree is another one", name, data)
	}
	return got
}

// wantShown asks that there is no hidden file, and the tree is as it was.
func wantShown(t *testing.T, name string, f fs) fs {
	t.Helper()
	got := wantHow(t, name, f, toShow(), impl.ErOk)
	if s, ok := impl.HiddenOf(got); ok {
		t.Errorf("%s: HiddenOf is still %q", name, s)
	}
	if !impl.TreeSame(impl.TreeOf(got), impl.TreeOf(f)) {
		t.Errorf("%s: shown, the tree is another one", name)
	}
	return got
}

func TestFsHideAndFsShow(t *testing.T) {
	for name, f := range rightTrees() {
		shown := wantShown(t, name, f)
		if _, ok := impl.HiddenOf(f); !ok && !sameFs(shown, f) {
			t.Errorf("%s: FsShow is %v, want it as it was", name, shown)
		}
		if !sameFs(wantShown(t, name, shown), shown) {
			t.Errorf("%s: FsShow again is another one", name)
		}
		if impl.FreeOf(f) < 6 || !slices.ContainsFunc(shown.Nodes, func(n node) bool { return n.Kind == 0 }) {
			continue
		}
		for _, size := range someSizes {
			hidden := wantHides(t, name, f, textFor(size))
			again := wantHides(t, name, hidden, textFor(80-size))
			for _, g := range []fs{hidden, again} {
				if got := wantShown(t, name, g); !sameFs(got, shown) {
					t.Errorf("%s: behind FsHide and FsShow is %v, want %v", name, got, shown)
				}
			}
		}
		wantHow(t, name, f, toHide(textFor(81)), impl.ErBig)
	}
}

// A hidden file that is there keeps its node, its Time and its Gen; a new one has
// the lowest free node, and zeros.
func TestFsHideKeepsTheNode(t *testing.T) {
	f := hidingTree(textFor(20))
	got := wantHides(t, "there", f, "x")
	if want := (node{Kind: 1, Gen: f.Nodes[2].Gen, Time: f.Nodes[2].Time, Size: 1, Blocks: f.Nodes[2].Blocks[:1]}); !sameNode(got.Nodes[2], want) {
		t.Errorf("FsHide makes node 2 %v, want %v", got.Nodes[2], want)
	}
	got = wantHides(t, "anew", impl.FsShow(f), "x")
	if want := (node{Kind: 1, Size: 1, Blocks: f.Nodes[2].Blocks[:1]}); !sameNode(got.Nodes[2], want) {
		t.Errorf("FsHide makes node 2 %v, want %v", got.Nodes[2], want)
	}
}

func TestFsHideNamesTheFirstReason(t *testing.T) {
	wantFirst(t, shelf(), toHide(textFor(40)), []fault{
		{"no branch", impl.ErBad, noBranch},
		{"nobody's node", impl.ErBad, nobodysNode},
		{"big", impl.ErBig, bigData},
		{"full", impl.ErFull, noRoom},
		{"no node", impl.ErFull, func(x *asked) { x.f = tight(x.f, 0, 20) }},
		{"no block", impl.ErFull, func(x *asked) { x.f = tight(x.f, 4, 2) }},
	})
}

func TestFsHideWithJustEnoughRoom(t *testing.T) {
	long := wantHow(t, "a longer root", shelf(), toMake("/nnn", 1, "", 0, 0), impl.ErOk)
	for size := range 81 {
		wantNeeds(t, shelf(), toHide(textFor(size)), 1, (size+15)/16)
		wantNeeds(t, long, toHide(textFor(size)), 1, (size+15)/16+1)
		wantNeeds(t, hidingTree(textFor(20)), toHide(textFor(size)), 0, max((size+15)/16-2, 0))
		wantNeeds(t, hidingTree(""), toHide(textFor(size)), 0, (size+15)/16)
	}
}

// eachCall gives each function, asked in the simplest way.
func eachCall() []change {
	return []change{
		toMake("/n", 1, "x", 1, 1), toMake("/a/n", 3, "x", 1, 1), toMake("/n", 2, "", 0, 0), toSet("/a", "x", 1, 1), toSet("/", "", 0, 0),
		toDrop("/a"), toDrop("/b"), toRename("/a", "/n", 1), toRename("/b", "/n/n", 1), toPlace("/a", 1, "x", 1, 1), toPlace("/n", 2, "", 0, 0),
		toHide("x"), toHide(""), toShow(),
	}
}

func TestChangesOfWrongBranches(t *testing.T) {
	for name, f := range wrongTrees() {
		for _, c := range eachCall() {
			want := impl.ErBad
			if c.call == "FsShow" {
				want = impl.ErOk
			}
			if got := wantHow(t, name, f, c, want); !sameFs(got, f) {
				t.Errorf("%s: %+v makes %v", name, c, got)
			}
		}
		// No other reason is told of a branch that is wrong.
		for _, c := range []change{toMake("", 1, textFor(81), 0, 0), toSet("", "", 0, 0), toSet("/q", textFor(81), 0, 0), toDrop("/"), toRename("/", "/", 0), toPlace("/", 2, "", 0, 0), toHide(textFor(81))} {
			wantHow(t, name, f, c, impl.ErBad)
		}
	}
}

// eachChange gives the calls of all functions for a path.
func eachChange(path string, other string) []change {
	list := []change{toMake(path, 2, "", 0, 0), toPlace(path, 2, "", 0, 0), toSet(path, "", 0, 0), toSet(path, textFor(17), 5, 6), toDrop(path), toRename(path, other, 9), toRename(other, path, 9)}
	for _, kind := range []int{1, 3} {
		list = append(list, toMake(path, kind, "", 0, 0), toMake(path, kind, textFor(33), 5, 6), toPlace(path, kind, textFor(48), 7, 8))
	}
	return list
}

func TestChangesOfEachPath(t *testing.T) {
	for _, f := range rightTrees() {
		paths, _ := pathsIn(f)
		others := []string{"/n/n", "/a", "/a/n/n", "/n", "/abcdef/a"}
		for i, path := range slices.Sorted(slices.Values(askedPaths(f))) {
			for _, c := range eachChange(path, others[i%len(others)]) {
				wantChange(t, f, c)
			}
		}
		for from := range paths {
			for path := range paths {
				for _, end := range []string{"", "/n", "/n/n", "n"} {
					wantChange(t, f, toRename(from, path+end, 3))
				}
			}
		}
	}
}

// squeezed leaves no more than so many free blocks, the lowest ones.
func squeezed(f fs, free int) fs {
	g := fs{Nodes: copied(f).Nodes}
	places := map[int]int{}
	for at, s := range f.Data {
		if s == "" {
			free--
		}
		if s != "" || free >= 0 || at == len(f.Data)-1 && len(g.Data) == 0 {
			places[at] = len(g.Data)
			g.Data = append(g.Data, s)
		}
	}
	for _, n := range g.Nodes {
		for k, at := range n.Blocks {
			n.Blocks[k] = places[at]
		}
	}
	return g
}

// somePathOf draws a path that is there, or one beside or below it.
func somePathOf(f fs, next func(below int) int) string {
	paths, _ := pathsIn(f)
	delete(paths, "/~")
	list := slices.Sorted(maps.Keys(paths))
	p := strings.TrimSuffix(list[next(len(list))], "/")
	for range next(3) {
		p += "/" + strings.ReplaceAll(someName(next), "~", "b")
	}
	if next(30) == 0 {
		return noPaths[next(len(noPaths)-3)]
	}
	return max(p, "/")
}

// someChange draws a call that is often taken.
func someChange(f fs, next func(below int) int) change {
	path, kind := somePathOf(f, next), 1+next(3)
	data, time, gen := textFor(next(81)), next(100001), next(1000001)
	switch next(25) {
	case 0:
		data = textFor(81)
	case 1:
		time = 100001
	case 2:
		gen = -1
	case 3:
		kind = 4 * next(2)
	}
	dir := kind == 2 && next(12) > 0
	switch next(8) {
	case 0, 1:
		if dir {
			return toMake(path, 2, "", 0, 0)
		}
		return toMake(path, kind, data, time, gen)
	case 2:
		if dir {
			return toPlace(path, 2, "", 0, 0)
		}
		return toPlace(path, kind, data, time, gen)
	case 3:
		return toSet(path, data, time, gen)
	case 4:
		return toDrop(path)
	case 5, 6:
		return toRename(path, somePathOf(f, next), gen)
	}
	if next(3) > 0 {
		return toHide(data)
	}
	return toShow()
}

// Promise 11, for many branches and many changes.
func TestRightBranchStaysRight(t *testing.T) {
	taken, codes := map[string]int{}, map[int]int{}
	manyTrees(2000, 31, func(f fs, next func(below int) int) {
		f = squeezed(f, next(14))
		if !isHung(f) || !impl.FsOk(f) {
			t.Fatalf("no right branch: %v", f)
		}
		for range 25 {
			c := someChange(f, next)
			got, how := wantChange(t, f, c)
			if codes[how]++; how == impl.ErOk {
				taken[c.call]++
				wantMadeAndGone(t, f, got, c)
			}
		}
	})
	for _, c := range eachCall() {
		if taken[c.call] < 400 {
			t.Errorf("only %d of %s are taken", taken[c.call], c.call)
		}
	}
	for _, how := range []int{impl.ErPath, impl.ErNone, impl.ErThere, impl.ErKind, impl.ErFull, impl.ErBusy, impl.ErBig, impl.ErBad} {
		if codes[how] < 100 {
			t.Errorf("only %d have code %d", codes[how], how)
		}
	}
}

// wantMadeAndGone asks by what the other functions answer: what was made is
// there, what was dropped is not, and what was renamed is at the other path.
func wantMadeAndGone(t *testing.T, f fs, got fs, c change) {
	t.Helper()
	was, is := impl.TreeOf(f), impl.TreeOf(got)
	one, there := impl.TreeGet(is, c.path)
	switch c.call {
	case "FsMake", "FsPlace", "FsSet":
		if !there || one.Data != c.data || one.Time != c.time || got.Nodes[impl.Walk(got, c.path)].Gen != c.gen {
			t.Fatalf("%+v of %v makes %v", c, f, one)
		}
	case "FsDrop":
		if there || impl.Walk(got, c.path) != -1 || len(is.Items) != len(was.Items)-1 {
			t.Fatalf("%+v of %v leaves %v", c, f, one)
		}
	case "FsRename":
		other, _ := impl.TreeGet(is, c.to)
		before, _ := impl.TreeGet(was, c.path)
		if before.Path = c.to; there || other != before {
			t.Fatalf("%+v of %v makes %v, leaves %v", c, f, other, one)
		}
	default:
		if !impl.TreeSame(is, was) {
			t.Fatalf("%+v of %v makes the tree %v", c, f, is)
		}
	}
}

// wantBack asks that a change that was taken, a rename, is undone by another one:
// all is as it was, but for the directories that were made.
func wantBack(t *testing.T, f fs, got fs, c change) {
	t.Helper()
	was := factsOf(f)
	back := wantHow(t, "renamed back", got, toRename(c.to, c.path, was[c.path].gen), impl.ErOk)
	if withAbove(was, c.to); !maps.Equal(factsOf(back), was) {
		t.Fatalf("%+v of %v, renamed back, is %v", c, f, back)
	}
}

// However little room there is: what a name has left free by then is enough for
// the way back.
func TestRenamedBack(t *testing.T) {
	count := 0
	manyTrees(1500, 37, func(f fs, next func(below int) int) {
		f = squeezed(f, next(4))
		for _, one := range impl.TreeOf(f).Items {
			for range 3 {
				c := toRename(one.Path, somePathOf(f, next), next(1000001))
				if got, how := c.on(f); how == impl.ErOk {
					count++
					wantBack(t, f, got, c)
				}
			}
		}
	})
	if count < 1500 {
		t.Errorf("only %d were renamed", count)
	}
}

// A long row of changes on one branch, each against what the document says.
func TestManyChangesInARow(t *testing.T) {
	next := dice(41)
	for _, data := range []int{2, 6, 12, 20, 36} {
		for _, nodes := range []int{2, 5, 10} {
			f, taken := branch(nodes, data), 0
			for range 500 {
				got, how := wantChange(t, f, someChange(f, next))
				if f = got; how == impl.ErOk {
					taken++
				}
			}
			if taken < 40 {
				t.Errorf("%d nodes, %d data: only %d are taken", nodes, data, taken)
			}
		}
	}
}

// someAsked are branches of each kind with calls that are taken and refused.
func someAsked() map[string]asked {
	all := map[string]asked{}
	add := func(name string, f fs, list ...change) {
		for i, c := range list {
			all[fmt.Sprint(name, ", ", i, " ", c.call)] = asked{f, c}
		}
	}
	calls := slices.Concat(eachCall(), []change{
		toMake("/d/e/a/b", 1, textFor(40), 5, 6), toSet("/d/g", textFor(80), 5, 6), toSet("/f", "", 5, 6), toSet("/l", textFor(3), 5, 6), toDrop("/d/g"), toDrop("/d/e"),
		toDrop("/d"), toRename("/d", "/n/m", 3), toRename("/f", "/d/e/f", 3), toRename("/d", "/n/n/n/n", 3), toRename("/f", "/l/x", 3), toPlace("/f", 1, textFor(40), 3, 4),
		toPlace("/f", 2, "", 0, 0), toMake("/f/a", 1, "x", 0, 0), toHide(textFor(80)), toHide(textFor(81)), toRename("/a", "/zzzzzz/a/a/a", 3), toRename("/q", "/r", 3),
	})
	add("shelf", shelf(), calls...)
	add("tight", tight(shelf(), 1, 1), calls...)
	add("full", tight(shelf(), 0, 0), calls...)
	add("hiding", hidingTree(textFor(20)), calls...)
	add("wide", wideTree(), calls...)
	for name, f := range allTrees() {
		add(name, f, eachCall()...)
	}
	return all
}

func ownChange(c change) change {
	c.path, c.to, c.data = strings.Clone(c.path), strings.Clone(c.to), strings.Clone(c.data)
	return c
}

func TestChangesLeaveArguments(t *testing.T) {
	for name, x := range someAsked() {
		x.f.Data = ownTexts(x.f.Data)
		room, same := roomyFs(x.f)
		own := ownChange(x.c)
		got, _ := own.on(room)
		other, _ := own.on(room)
		want, _ := x.c.told(x.f)
		if want == nil {
			want = &x.f
		}
		if !same() || !sameFs(room, x.f) || own != x.c {
			t.Fatalf("%s changed an argument", name)
		}
		if fsListsShare(got, room) || fsListsShare(got, other) {
			t.Fatalf("%s answers a list of an argument, or of another answer", name)
		}
		texts := append(slices.Clone(room.Data), own.path, own.to, own.data)
		if sharesText(got.Data, texts) || sharesText(got.Data, other.Data) {
			t.Fatalf("%s answers a text of an argument, or of another answer", name)
		}
		wantApart(t, name, got)
		if overwriteFs(other); !same() || !sameFs(got, *want) {
			t.Fatalf("%s answers its argument's memory", name)
		}
		if overwriteFs(room); !sameFs(got, *want) {
			t.Fatalf("%s: %v turned with its argument", name, got)
		}
	}
}

// Two changes of one branch with room behind its lists do not meet there.
func TestChangesOfOneBranchDoNotMeet(t *testing.T) {
	room, same := roomyFs(shelf())
	first, _ := impl.FsMake(room, "/n", impl.NdFile, "first", 1, 1)
	second, _ := impl.FsMake(room, "/n", impl.NdLink, "second", 2, 2)
	third, _ := impl.FsSet(first, "/n", textFor(40), 3, 3)
	fourth, _ := impl.FsSet(first, "/n", textFor(50), 4, 4)
	for want, f := range map[string]fs{"/n=first@1\n": first, "/n>second@2\n": second, "/n=" + textFor(40) + "@3\n": third, "/n=" + textFor(50) + "@4\n": fourth} {
		if text := impl.TreeText(impl.TreeOf(f)); !strings.HasSuffix(text, want) {
			t.Errorf("the tree is %q, want %q at its end", text, want)
		}
	}
	if !same() {
		t.Error("an argument was changed")
	}
}
