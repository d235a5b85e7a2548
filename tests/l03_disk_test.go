package tests

import (
	"fmt"
	"math"
	"slices"
	"strings"
	"testing"
	"unsafe"

	"loop.example/g00483/impl"
)

type (
	put  = impl.Put
	disk = impl.Disk
)

func textOf(size int) string { return strings.Repeat("x", size) }

// putsOf gives so many writes, one sector behind the other, round and round.
func putsOf(n int, sectors int) []put {
	var list []put
	for i := range n {
		list = append(list, put{At: i % sectors, Data: fmt.Sprint("w", i)})
	}
	return list
}

func sectorsOf(n int) []string {
	var list []string
	for i := range n {
		list = append(list, fmt.Sprint("s", i))
	}
	return list
}

// sameDisk is said by the library, so that no test leans on DiskSame.
func sameDisk(a disk, b disk) bool {
	return slices.Equal(a.Sectors, b.Sectors) && slices.Equal(a.Pend, b.Pend)
}

// rightDisks hold to all limits, and meet each of them once.
func rightDisks() map[string]disk {
	return map[string]disk{
		"nothing":         {},
		"empty lists":     {Sectors: []string{}, Pend: []put{}},
		"one sector":      {Sectors: []string{""}},
		"at rest":         {Sectors: []string{"a", "", "c"}},
		"three pending":   {Sectors: []string{"a", "b", "c"}, Pend: []put{{At: 1, Data: "d"}, {At: 2, Data: "e"}, {At: 1, Data: "f"}}},
		"an empty write":  {Sectors: []string{"a", "b"}, Pend: []put{{At: 0, Data: ""}}},
		"120 sectors":     {Sectors: sectorsOf(120)},
		"a great sector":  {Sectors: []string{"a", textOf(90)}},
		"400 pending":     {Sectors: sectorsOf(7), Pend: putsOf(400, 7)},
		"399 pending":     {Sectors: sectorsOf(7), Pend: putsOf(399, 7)},
		"the first place": {Sectors: sectorsOf(3), Pend: []put{{At: 0, Data: "d"}}},
		"the last place":  {Sectors: sectorsOf(3), Pend: []put{{At: 2, Data: "d"}}},
		"place 119":       {Sectors: sectorsOf(120), Pend: []put{{At: 119, Data: "d"}}},
		"a great write":   {Sectors: []string{"a", "b"}, Pend: []put{{At: 1, Data: textOf(90)}}},
		"all limits":      {Sectors: slices.Repeat([]string{textOf(90)}, 120), Pend: slices.Repeat([]put{{At: 119, Data: textOf(90)}}, 400)},
	}
}

// wrongDisks pass one limit each; all else of them is right, and they have
// writes pending that must stay so.
func wrongDisks() map[string]disk {
	return map[string]disk{
		"121 sectors":             {Sectors: sectorsOf(121), Pend: []put{{At: 1, Data: "d"}}},
		"121 sectors, at rest":    {Sectors: sectorsOf(121)},
		"1000 sectors":            {Sectors: sectorsOf(1000), Pend: []put{{At: 999, Data: "d"}}},
		"a sector of 91":          {Sectors: []string{textOf(91), "b"}, Pend: []put{{At: 1, Data: "d"}}},
		"the last sector of 91":   {Sectors: []string{"a", "b", textOf(91)}, Pend: []put{{At: 1, Data: "d"}}},
		"a sector of 91, at rest": {Sectors: []string{"a", textOf(91)}},
		"it is overwritten":       {Sectors: []string{"a", textOf(91)}, Pend: []put{{At: 1, Data: "d"}}},
		"401 pending":             {Sectors: sectorsOf(7), Pend: putsOf(401, 7)},
		"1000 pending":            {Sectors: sectorsOf(7), Pend: putsOf(1000, 7)},
		"place -1":                {Sectors: sectorsOf(3), Pend: []put{{At: 1, Data: "d"}, {At: -1, Data: "e"}}},
		"place 3 of 3":            {Sectors: sectorsOf(3), Pend: []put{{At: 3, Data: "d"}, {At: 1, Data: "e"}}},
		"place 1 of 1":            {Sectors: []string{"a"}, Pend: []put{{At: 1, Data: "d"}}},
		"place 120 of 120":        {Sectors: sectorsOf(120), Pend: []put{{At: 0, Data: "d"}, {At: 120, Data: "e"}}},
		"the greatest place":      {Sectors: sectorsOf(3), Pend: []put{{At: math.MaxInt, Data: "d"}, {At: 0, Data: "e"}}},
		"the least place":         {Sectors: sectorsOf(3), Pend: []put{{At: 0, Data: "d"}, {At: math.MinInt, Data: "e"}}},
		"place 1 << 32":           {Sectors: sectorsOf(3), Pend: []put{{At: 1 << 32, Data: "d"}}},
		"a write of 91":           {Sectors: sectorsOf(3), Pend: []put{{At: 1, Data: textOf(91)}, {At: 0, Data: "d"}}},
		"the last write of 91":    {Sectors: sectorsOf(3), Pend: []put{{At: 0, Data: "d"}, {At: 1, Data: textOf(91)}}},
		"a write to no sectors":   {Pend: []put{{At: 0, Data: "d"}}},
		"an empty one to none":    {Pend: []put{{At: 0, Data: ""}}},
		"place -1 of no sectors":  {Pend: []put{{At: -1, Data: ""}}},
	}
}

func allDisks() map[string]disk {
	all := rightDisks()
	for name, d := range wrongDisks() {
		all[name] = d
	}
	return all
}

// somePlaces are sectors, and what lies beside them.
func somePlaces(d disk) []int {
	n := len(d.Sectors)
	return []int{math.MinInt, -2, -1, 0, 1, 2, n - 1, n, n + 1, 119, 120, 1 << 32, math.MaxInt}
}

func hasPlace(d disk, at int) bool { return at >= 0 && at < len(d.Sectors) }

// someKeeps are empty, shorter than so many writes, as long, and longer.
func someKeeps(n int) [][]bool {
	turns := make([]bool, n)
	for i := range turns {
		turns[i] = i%2 == 0
	}
	list := [][]bool{nil, {}, {true}, {false}, {false, true}, turns}
	for _, size := range []int{max(n-1, 0), n, n + 1, n + 500} {
		list = append(list, slices.Repeat([]bool{true}, size), slices.Repeat([]bool{false}, size))
	}
	return list
}

func TestDiskNumbers(t *testing.T) {
	if impl.MaxSectors != 120 || impl.MaxSector != 90 || impl.MaxPend != 400 {
		t.Error(impl.MaxSectors, impl.MaxSector, impl.MaxPend)
	}
}

func TestDiskOk(t *testing.T) {
	for name, d := range rightDisks() {
		if !impl.DiskOk(d) {
			t.Errorf("%s: DiskOk is false", name)
		}
	}
	for name, d := range wrongDisks() {
		if impl.DiskOk(d) {
			t.Errorf("%s: DiskOk is true", name)
		}
	}
}

// Each place counts, not the first or the last one alone.
func TestDiskOkLooksAtEach(t *testing.T) {
	for i := range 120 {
		d := disk{Sectors: sectorsOf(120)}
		if d.Sectors[i] = textOf(90); !impl.DiskOk(d) {
			t.Errorf("90 bytes in sector %d: DiskOk is false", i)
		}
		if d.Sectors[i] = textOf(91); impl.DiskOk(d) {
			t.Errorf("91 bytes in sector %d: DiskOk is true", i)
		}
	}
	for i := range 400 {
		d := disk{Sectors: sectorsOf(5), Pend: putsOf(400, 5)}
		for p, want := range map[put]bool{
			{At: 4, Data: textOf(90)}: true, {At: 4, Data: textOf(91)}: false, {At: 0, Data: ""}: true, {At: 4, Data: ""}: true, {At: 5, Data: ""}: false, {At: -1, Data: ""}: false,
		} {
			if d.Pend[i] = p; impl.DiskOk(d) != want {
				t.Errorf("Pend %d at %d of %d bytes: DiskOk is %t", i, p.At, len(p.Data), !want)
			}
		}
	}
}

func TestDiskOkOfEachSize(t *testing.T) {
	for n := range 130 {
		d := disk{Sectors: make([]string, n)}
		if impl.DiskOk(d) != (n <= 120) {
			t.Errorf("%d sectors: DiskOk is %t", n, n > 120)
		}
		for _, at := range somePlaces(d) {
			d.Pend = []put{{At: at}}
			if want := n <= 120 && hasPlace(d, at); impl.DiskOk(d) != want {
				t.Errorf("%d sectors, a Pend at %d: DiskOk is %t", n, at, !want)
			}
		}
	}
}

func TestDiskNew(t *testing.T) {
	for n := 1; n <= 120; n++ {
		d, ok := impl.DiskNew(n)
		if !ok || !sameDisk(d, disk{Sectors: make([]string, n)}) || !impl.DiskOk(d) {
			t.Errorf("DiskNew(%d) = %v, %t", n, d, ok)
		}
	}
	for _, n := range []int{math.MinInt, math.MinInt + 1, -120, -1, 0, 121, 122, 1 << 32, 1<<32 + 1, math.MaxInt - 1, math.MaxInt} {
		if d, ok := impl.DiskNew(n); ok || !sameDisk(d, disk{}) {
			t.Errorf("DiskNew(%d) = %v, %t", n, d, ok)
		}
	}
	first, _ := impl.DiskNew(3)
	first.Sectors[0] = "changed"
	if second, _ := impl.DiskNew(3); second.Sectors[0] != "" {
		t.Error("DiskNew answers memory that it keeps")
	}
}

func TestSectorRead(t *testing.T) {
	d := disk{
		Sectors: []string{"none", "one", "two", "empty", "", "again"},
		Pend:    []put{{At: 2, Data: "first"}, {At: 1, Data: "only"}, {At: 3, Data: ""}, {At: 2, Data: "last"}, {At: 4, Data: "new"}, {At: 5, Data: "b"}, {At: 5, Data: ""}, {At: 5, Data: "c"}, {At: 5, Data: ""}},
	}
	for at, want := range []string{"none", "only", "last", "", "new", ""} {
		if s, ok := impl.SectorRead(d, at); s != want || !ok {
			t.Errorf("SectorRead at %d = %q, %t, want %q", at, s, ok, want)
		}
	}
	for _, at := range []int{math.MinInt, -6, -1, 6, 7, 120, 1 << 32, math.MaxInt} {
		if s, ok := impl.SectorRead(d, at); s != "" || ok {
			t.Errorf("SectorRead at %d = %q, %t", at, s, ok)
		}
	}
}

func TestSectorReadOfRightDisks(t *testing.T) {
	for name, d := range rightDisks() {
		for _, at := range somePlaces(d) {
			want, wantOk := "", hasPlace(d, at)
			if wantOk {
				want = d.Sectors[at]
			}
			for _, p := range d.Pend {
				if p.At == at {
					want = p.Data
				}
			}
			if s, ok := impl.SectorRead(d, at); s != want || ok != wantOk {
				t.Errorf("%s: SectorRead at %d = %q, %t, want %q, %t", name, at, s, ok, want, wantOk)
			}
		}
	}
}

func TestSectorReadOfWrongDisks(t *testing.T) {
	for name, d := range wrongDisks() {
		for _, at := range somePlaces(d) {
			if s, ok := impl.SectorRead(d, at); s != "" || ok {
				t.Errorf("%s: SectorRead at %d = %q, %t", name, at, s, ok)
			}
		}
	}
}

func TestSectorWrite(t *testing.T) {
	for name, d := range rightDisks() {
		eachWrite(d, func(at int, data string) {
			want, wantOk := d, hasPlace(d, at) && len(data) <= 90 && len(d.Pend) < 400
			if wantOk {
				want.Pend = append(slices.Clone(d.Pend), put{At: at, Data: data})
			}
			if got, ok := impl.SectorWrite(d, at, data); ok != wantOk || !sameDisk(got, want) {
				t.Errorf("%s: SectorWrite of %d bytes at %d is %t: %v", name, len(data), at, ok, got)
			}
		})
	}
	for name, d := range wrongDisks() {
		eachWrite(d, func(at int, data string) {
			if got, ok := impl.SectorWrite(d, at, data); ok || !sameDisk(got, d) {
				t.Errorf("%s: SectorWrite of %d bytes at %d is %t: %v", name, len(data), at, ok, got)
			}
		})
	}
}

// eachWrite gives writes at all of somePlaces, of as many bytes as a sector
// may have, of fewer and of more.
func eachWrite(d disk, each func(at int, data string)) {
	for _, at := range somePlaces(d) {
		for _, size := range []int{0, 1, 89, 90, 91, 1000} {
			each(at, textOf(size))
		}
	}
}

func TestSectorWriteUpToTheLimit(t *testing.T) {
	d, _ := impl.DiskNew(3)
	for i := range 400 {
		next, ok := impl.SectorWrite(d, i%3, fmt.Sprint("w", i))
		if !ok || len(next.Pend) != i+1 || next.Pend[i] != (put{At: i % 3, Data: fmt.Sprint("w", i)}) || !slices.Equal(next.Pend[:i], d.Pend) {
			t.Fatalf("write %d: %t, %d pending", i, ok, len(next.Pend))
		}
		if s, _ := impl.SectorRead(next, i%3); s != fmt.Sprint("w", i) || !slices.Equal(next.Sectors, []string{"", "", ""}) {
			t.Fatalf("write %d: %q is read, the sectors are %q", i, s, next.Sectors)
		}
		d = next
	}
	if next, ok := impl.SectorWrite(d, 0, "more"); ok || !sameDisk(next, d) {
		t.Errorf("write 401: %t, %d pending", ok, len(next.Pend))
	}
	if next, ok := impl.SectorWrite(impl.Flush(d), 0, "more"); !ok || len(next.Pend) != 1 {
		t.Errorf("a write behind Flush: %t, %d pending", ok, len(next.Pend))
	}
}

func TestTwoWritesToOneSector(t *testing.T) {
	d := disk{Sectors: []string{"a", "b"}}
	d, first := impl.SectorWrite(d, 1, "one")
	d, second := impl.SectorWrite(d, 1, "two")
	d, third := impl.SectorWrite(d, 1, "two")
	want := disk{Sectors: []string{"a", "b"}, Pend: []put{{At: 1, Data: "one"}, {At: 1, Data: "two"}, {At: 1, Data: "two"}}}
	if !first || !second || !third || !sameDisk(d, want) {
		t.Errorf("%v", d)
	}
}

// settled is the fall that the document asks for, said from the sectors' side:
// each has the last one that was kept of what was written to it.
func settled(d disk, keep []bool) disk {
	out := disk{Sectors: slices.Clone(d.Sectors)}
	for at := range out.Sectors {
		for i := len(d.Pend) - 1; i >= 0; i-- {
			if d.Pend[i].At == at && i < len(keep) && keep[i] {
				out.Sectors[at] = d.Pend[i].Data
				break
			}
		}
	}
	return out
}

func TestFlush(t *testing.T) {
	d := disk{Sectors: []string{"a", "b", "c", "d"}, Pend: []put{{At: 1, Data: "one"}, {At: 3, Data: ""}, {At: 0, Data: "x"}, {At: 1, Data: "two"}}}
	if got := impl.Flush(d); !sameDisk(got, disk{Sectors: []string{"x", "two", "c", ""}}) {
		t.Errorf("Flush = %v", got)
	}
	for name, d := range rightDisks() {
		want := settled(d, slices.Repeat([]bool{true}, len(d.Pend)))
		got := impl.Flush(d)
		if !sameDisk(got, want) || !impl.DiskOk(got) {
			t.Errorf("%s: Flush = %v", name, got)
		}
		for at := range d.Sectors {
			ahead, _ := impl.SectorRead(d, at)
			if behind, ok := impl.SectorRead(got, at); !ok || behind != ahead {
				t.Errorf("%s: %q is read at %d, behind Flush %q", name, ahead, at, behind)
			}
		}
		if again := impl.Flush(got); !sameDisk(again, got) {
			t.Errorf("%s: Flush of Flush = %v", name, again)
		}
	}
	for name, d := range wrongDisks() {
		if got := impl.Flush(d); !sameDisk(got, d) {
			t.Errorf("%s: Flush = %v", name, got)
		}
	}
}

func TestFall(t *testing.T) {
	d := disk{Sectors: []string{"a", "b"}, Pend: []put{{At: 1, Data: "one"}, {At: 1, Data: "two"}}}
	for _, c := range []struct {
		keep []bool
		want string
	}{
		{nil, "b"}, {[]bool{}, "b"}, {[]bool{false}, "b"}, {[]bool{true}, "one"}, {[]bool{false, false}, "b"},
		{[]bool{true, false}, "one"}, {[]bool{false, true}, "two"}, {[]bool{true, true}, "two"},
		{[]bool{false, false, true, true}, "b"}, {[]bool{true, false, true}, "one"}, {[]bool{false, true, false}, "two"},
	} {
		if got := impl.Fall(d, c.keep); !sameDisk(got, disk{Sectors: []string{"a", c.want}}) {
			t.Errorf("Fall with %v = %v", c.keep, got)
		}
	}
}

func TestFallOfRightDisks(t *testing.T) {
	for name, d := range rightDisks() {
		for _, keep := range someKeeps(len(d.Pend)) {
			got := impl.Fall(d, keep)
			if !sameDisk(got, settled(d, keep)) || !impl.DiskOk(got) {
				t.Errorf("%s: Fall with %v = %v", name, keep, got)
			}
			if again := impl.Fall(got, keep); !sameDisk(again, got) {
				t.Errorf("%s: Fall of Fall = %v", name, again)
			}
		}
		all := impl.Fall(d, slices.Repeat([]bool{true}, len(d.Pend)))
		if !sameDisk(all, impl.Flush(d)) {
			t.Errorf("%s: Fall with all kept is not Flush: %v", name, all)
		}
		none := impl.Fall(d, slices.Repeat([]bool{false}, len(d.Pend)))
		if !sameDisk(none, disk{Sectors: d.Sectors}) {
			t.Errorf("%s: Fall with nothing kept = %v", name, none)
		}
	}
}

func TestFallOfWrongDisks(t *testing.T) {
	for name, d := range wrongDisks() {
		for _, keep := range someKeeps(len(d.Pend)) {
			if got := impl.Fall(d, keep); !sameDisk(got, d) {
				t.Errorf("%s: Fall with %v = %v", name, keep, got)
			}
		}
	}
}

// eachKeep gives every row of so many flags, and each of them cut shorter and
// made longer by one.
func eachKeep(n int, each func(keep []bool)) {
	for bits := range 1 << (n + 1) {
		keep := make([]bool, n+1)
		for i := range keep {
			keep[i] = bits>>i&1 == 1
		}
		each(keep)
		each(keep[:n])
		each(keep[:max(n-1, 0)])
	}
}

// eachRow gives every row of so many writes to two of three sectors.
func eachRow(n int, each func(list []put)) {
	for bits := range 1 << n {
		list := putsOf(n, 1)
		for i := range list {
			list[i].At = bits >> i & 1 * 2
		}
		each(list)
	}
}

func TestFallOfEachShortRow(t *testing.T) {
	for n := range 6 {
		eachRow(n, func(list []put) {
			d := disk{Sectors: []string{"a", "b", "c"}, Pend: list}
			eachKeep(n, func(keep []bool) {
				if got := impl.Fall(d, keep); !sameDisk(got, settled(d, keep)) {
					t.Fatalf("Fall of %v with %v = %v", d, keep, got)
				}
			})
		})
	}
}

// Promise 3: whatever was written since the flush and whatever of it is kept,
// a sector holds what was flushed, or one of the writes to it since then.
func TestFlushedStays(t *testing.T) {
	for name, d := range rightDisks() {
		sure := impl.Flush(d)
		for _, keep := range someKeeps(len(d.Pend)) {
			if got := impl.Fall(sure, keep); !sameDisk(got, sure) {
				t.Errorf("%s: Fall of Flush with %v = %v", name, keep, got)
			}
		}
	}
	for n := range 5 {
		eachRow(n, func(list []put) {
			sure, _ := impl.DiskNew(3)
			for i, s := range []string{"a", "b", "c"} {
				sure, _ = impl.SectorWrite(sure, i, s)
			}
			sure = impl.Flush(sure)
			d := sure
			for _, p := range list {
				d, _ = impl.SectorWrite(d, p.At, p.Data)
			}
			eachKeep(n, func(keep []bool) { wantFlushed(t, sure, d, keep) })
		})
	}
}

func wantFlushed(t *testing.T, sure disk, d disk, keep []bool) {
	t.Helper()
	got := impl.Fall(d, keep)
	if len(got.Pend) != 0 || len(got.Sectors) != len(sure.Sectors) {
		t.Fatalf("Fall of %v with %v = %v", d, keep, got)
	}
	for at, s := range got.Sectors {
		if s != sure.Sectors[at] && !slices.Contains(d.Pend, put{At: at, Data: s}) {
			t.Fatalf("Fall of %v with %v: sector %d is %q", d, keep, at, s)
		}
	}
	if again := impl.Fall(got, slices.Repeat([]bool{true}, 9)); !sameDisk(again, got) {
		t.Fatalf("Fall of %v = %v", got, again)
	}
}

func TestDiskSame(t *testing.T) {
	list := []disk{
		{},
		{Sectors: []string{""}},
		{Sectors: []string{"", ""}},
		{Sectors: []string{"a", "b"}},
		{Sectors: []string{"b", "a"}},
		{Sectors: []string{"a", "c"}},
		{Sectors: []string{"c", "b"}},
		{Sectors: []string{"ab", ""}},
		{Sectors: []string{"a", "b", ""}},
		{Sectors: []string{"a", "b", "c"}},
		{Pend: []put{{}}},
		{Sectors: []string{"a", "b"}, Pend: []put{{At: 0, Data: ""}}},
		{Sectors: []string{"a", "b"}, Pend: []put{{At: 0, Data: "b"}}},
		{Sectors: []string{"a", "b"}, Pend: []put{{At: 0, Data: "c"}}},
		{Sectors: []string{"a", "b"}, Pend: []put{{At: 1, Data: "b"}}},
		{Sectors: []string{"a", "b"}, Pend: []put{{At: 0, Data: "c"}, {At: 1, Data: "b"}}},
		{Sectors: []string{"a", "b"}, Pend: []put{{At: 1, Data: "b"}, {At: 0, Data: "c"}}},
		{Sectors: []string{"a", "b"}, Pend: []put{{At: 0, Data: "b"}, {At: 1, Data: "c"}}},
		{Sectors: []string{"a", "b"}, Pend: []put{{At: 0, Data: "c"}, {At: 0, Data: "c"}}},
		{Sectors: []string{"a", "b"}, Pend: []put{{At: 0, Data: "c"}, {At: 0, Data: "c"}, {At: 0, Data: "c"}}},
		{Sectors: []string{"c", "b"}, Pend: []put{{At: 0, Data: "c"}}},
		{Sectors: []string{"a", "b"}, Pend: []put{{At: -1, Data: "c"}}},
		{Sectors: []string{"a", "b"}, Pend: []put{{At: math.MaxInt, Data: "c"}}},
		{Sectors: []string{"a", "b"}, Pend: []put{{At: 1 << 32, Data: "c"}}},
		{Sectors: []string{"a", textOf(91)}},
		{Sectors: []string{"a", textOf(92)}},
		{Sectors: sectorsOf(121)},
		{Sectors: sectorsOf(122)},
		{Sectors: sectorsOf(3), Pend: putsOf(401, 3)},
		{Sectors: sectorsOf(3), Pend: putsOf(402, 3)},
	}
	for i, a := range list {
		for j, b := range list {
			b, _ := roomyDisk(b)
			if impl.DiskSame(a, b) != (i == j) {
				t.Errorf("DiskSame(%v, %v) = %t", a, b, i != j)
			}
		}
	}
}

func TestDiskSameOfEachPlace(t *testing.T) {
	for name, d := range allDisks() {
		if !impl.DiskSame(d, d) {
			t.Errorf("%s: it is not the same as itself", name)
		}
		for i := range d.Sectors {
			other, _ := roomyDisk(d)
			if other.Sectors[i] += "!"; impl.DiskSame(d, other) || impl.DiskSame(other, d) {
				t.Errorf("%s: sector %d does not count", name, i)
			}
		}
		for i := range d.Pend {
			other, _ := roomyDisk(d)
			if other.Pend[i].Data += "!"; impl.DiskSame(d, other) || impl.DiskSame(other, d) {
				t.Errorf("%s: Data of Pend %d does not count", name, i)
			}
			other, _ = roomyDisk(d)
			if other.Pend[i].At++; impl.DiskSame(d, other) || impl.DiskSame(other, d) {
				t.Errorf("%s: At of Pend %d does not count", name, i)
			}
		}
	}
}

func TestNoListIsAnEmptyOne(t *testing.T) {
	empty := disk{Sectors: []string{}, Pend: []put{}}
	if !impl.DiskSame(disk{}, empty) || !impl.DiskSame(empty, disk{}) {
		t.Error("nil and empty are not the same")
	}
	rest, other := disk{Sectors: []string{"a"}}, disk{Sectors: []string{"a"}, Pend: []put{}}
	if !impl.DiskSame(rest, other) || !impl.DiskSame(other, rest) {
		t.Error("nil and empty Pend are not the same")
	}
	for _, d := range []disk{{}, empty} {
		if got := impl.Flush(d); !sameDisk(got, disk{}) {
			t.Errorf("Flush of no sectors = %v", got)
		}
		if got, ok := impl.SectorWrite(d, 0, ""); ok || !sameDisk(got, disk{}) {
			t.Errorf("SectorWrite onto no sectors = %v, %t", got, ok)
		}
	}
}

// roomyDisk gives a copy of the disk with spare room behind its lists, and a
// function that tells whether all of it is as it was.
func roomyDisk(d disk) (disk, func() bool) {
	sectors := append(slices.Clone(d.Sectors), "spare", "room", "here")
	pend := append(slices.Clone(d.Pend), put{At: 7, Data: "spare"}, put{At: 8, Data: "room"})
	wasSectors, wasPend := slices.Clone(sectors), slices.Clone(pend)
	room := disk{Sectors: sectors[:len(d.Sectors)], Pend: pend[:len(d.Pend)]}
	return room, func() bool { return slices.Equal(sectors, wasSectors) && slices.Equal(pend, wasPend) }
}

// eachDiskCall does everything that can be done with a disk, and hands on what
// comes out.
func eachDiskCall(d disk, keep []bool, data string, each func(call string, got disk)) {
	impl.DiskOk(d)
	impl.DiskSame(d, d)
	for _, at := range somePlaces(d) {
		impl.SectorRead(d, at)
		got, _ := impl.SectorWrite(d, at, data)
		each(fmt.Sprint("SectorWrite at ", at), got)
	}
	each("Flush", impl.Flush(d))
	each("Fall", impl.Fall(d, keep))
}

func TestDisksLeaveArguments(t *testing.T) {
	for name, d := range allDisks() {
		for _, size := range []int{0, 1, len(d.Pend), len(d.Pend) + 1} {
			flags := make([]bool, size+3)
			for i := range flags {
				flags[i] = i%3 != 1
			}
			was := slices.Clone(flags)
			room, same := roomyDisk(d)
			eachDiskCall(room, flags[:size], "data", func(call string, got disk) {
				if !same() || !slices.Equal(flags, was) {
					t.Fatalf("%s: %s changed its argument", name, call)
				}
				overwrite(got)
				if !same() {
					t.Fatalf("%s: %s answers its argument's memory", name, call)
				}
			})
		}
	}
}

// overwrite writes over all that an answer holds, the spare room behind it
// included.
func overwrite(d disk) {
	sectors, pend := d.Sectors[:cap(d.Sectors)], d.Pend[:cap(d.Pend)]
	for i := range sectors {
		sectors[i] = "overwritten"
	}
	for i := range pend {
		pend[i] = put{At: -5, Data: "overwritten"}
	}
}

// Two writes onto one disk with room behind its Pend must not meet there.
func TestWritesOntoOneDiskDoNotMeet(t *testing.T) {
	room, same := roomyDisk(disk{Sectors: []string{"a", "b"}, Pend: []put{{At: 0, Data: "c"}}})
	first, _ := impl.SectorWrite(room, 0, "first")
	second, _ := impl.SectorWrite(room, 1, "second")
	if first.Pend[1] != (put{At: 0, Data: "first"}) || second.Pend[1] != (put{At: 1, Data: "second"}) || !same() {
		t.Errorf("%v, %v", first, second)
	}
	left, _ := impl.SectorWrite(first, 0, "left")
	right, _ := impl.SectorWrite(first, 0, "right")
	if left.Pend[2].Data != "left" || right.Pend[2].Data != "right" || len(first.Pend) != 2 {
		t.Errorf("%v, %v", left, right)
	}
}

func sharesList[T any](a []T, b []T) bool {
	if cap(a) == 0 || cap(b) == 0 {
		return false
	}
	var one T
	fromA, fromB := uintptr(unsafe.Pointer(unsafe.SliceData(a))), uintptr(unsafe.Pointer(unsafe.SliceData(b)))
	endA, endB := fromA+uintptr(cap(a))*unsafe.Sizeof(one), fromB+uintptr(cap(b))*unsafe.Sizeof(one)
	return fromA < endB && fromB < endA
}

func textsOf(d disk) []string {
	list := slices.Clone(d.Sectors)
	for _, p := range d.Pend {
		list = append(list, p.Data)
	}
	return list
}

func sharesText(a []string, b []string) bool {
	return slices.ContainsFunc(a, func(s string) bool {
		return slices.ContainsFunc(b, func(other string) bool { return shareText(s, other) })
	})
}

func TestDisksAnswerNewMemory(t *testing.T) {
	for name, d := range allDisks() {
		data := strings.Clone("data")
		keep := slices.Repeat([]bool{true, false, true}, len(d.Pend))
		eachDiskCall(d, keep, data, func(call string, got disk) {
			if sharesList(got.Sectors, d.Sectors) || sharesList(got.Pend, d.Pend) {
				t.Fatalf("%s: %s answers a list of its argument", name, call)
			}
			if sharesText(textsOf(got), append(textsOf(d), data)) {
				t.Fatalf("%s: %s answers a text of its argument", name, call)
			}
			if sharesText(got.Sectors, textsOf(disk{Pend: got.Pend})) {
				t.Fatalf("%s: %s answers two lists that share a text", name, call)
			}
		})
		for at := range d.Sectors {
			if s, _ := impl.SectorRead(d, at); sharesText([]string{s}, textsOf(d)) {
				t.Fatalf("%s: SectorRead at %d answers a text of its argument", name, at)
			}
		}
	}
}
