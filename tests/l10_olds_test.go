package tests

import (
	"encoding/binary"
	"math"
	"slices"
	"strconv"
	"strings"
	"testing"

	"loop.example/g00648/impl"
)

// Types of one, two and three lines; the last of each just fills its lines.
const (
	pairKind  = 0 // "ir"
	fullKind  = 1 // seven fields, one line
	twoKind   = 2 // eight fields, two lines
	threeKind = 3 // 23 fields, three lines
)

// oldConfig has a log of two lines, 4 and 5, and data in 6 .. 15.
func oldConfig() impl.Config {
	return impl.Config{Lines: 16, Log: 2, Young: 8, Types: []string{"ir", "rrrrrri", "riiiiiir", "r" + strings.Repeat("i", 21) + "r"}}
}

// An oldThing is an object, and the line with which it begins.
type oldThing struct {
	line int64
	obj  impl.Obj
}

func pairAt(line, v, ref int64) oldThing { return oldThing{line, node(pairKind, v, ref)} }

// twoAt names a first and b last.
func twoAt(line, a, b int64) oldThing {
	return oldThing{line, node(twoKind, a, line, 0, -1, 0, 0, 5, b)}
}

func threeAt(line, a, b int64) oldThing {
	vals := make([]int64, 23)
	vals[0], vals[1], vals[21], vals[22] = a, line, -7, b
	return oldThing{line, node(threeKind, vals...)}
}

// put has data from byte at on.
func put(image string, at int64, data string) string {
	return image[:at] + data + image[at+int64(len(data)):]
}

// oldImage is formatted, with these objects; a later one lies over an earlier one.
func oldImage(c impl.Config, things ...oldThing) string {
	image := impl.Format(c)
	for _, o := range things {
		image = put(image, 64*o.line, impl.ObjectBytes(c.Types, o.obj))
	}
	return image
}

func withRoots(image string, roots ...int64) string {
	for i, ref := range roots {
		image = withWord(image, 16+int64(i), ref)
	}
	return image
}

// wordIn reads the bytes by themselves.
func wordIn(image string, word int64) int64 {
	return int64(binary.BigEndian.Uint64([]byte(image[8*word : 8*word+8])))
}

// mayBeNamed is what chapter 10 says of references: nothing, or old and of a line of data.
func mayBeNamed(c impl.Config, ref int64) bool {
	return ref == 0 || ref%2 == 0 && ref >= 2*(4+c.Log) && ref < 2*c.Lines
}

// objectIn is what chapter 10 says of OldObject, and how many lines it has, told word by word.
func objectIn(c impl.Config, image string, line int64) (impl.Obj, int64, bool) {
	if line < 4+c.Log || line >= c.Lines {
		return impl.Obj{}, 0, false
	}
	mark := wordIn(image, 8*line)
	if mark < 1 || mark > int64(len(c.Types)) {
		return impl.Obj{}, 0, false
	}
	kinds := c.Types[mark-1]
	run := int64(len(kinds)/8 + 1)
	if line+run > c.Lines {
		return impl.Obj{}, 0, false
	}
	o := impl.Obj{Type: mark - 1}
	for i := range 8*run - 1 {
		v := wordIn(image, 8*line+1+i)
		if i >= int64(len(kinds)) {
			if v != 0 {
				return impl.Obj{}, 0, false
			}
			continue
		}
		if kinds[i] == 'r' && !mayBeNamed(c, v) {
			return impl.Obj{}, 0, false
		}
		o.Vals = append(o.Vals, v)
	}
	return o, run, true
}

// walkByQueue is what chapter 10 says of Walk: the lines with which objects begin, and all that they have.
func walkByQueue(c impl.Config, image string, refs []int64) (starts, taken []int64, ok bool) {
	if len(refs) > 400 {
		return nil, nil, false
	}
	meet := func(ref int64) {
		if ref != 0 && !slices.Contains(starts, ref/2) {
			starts = append(starts, ref/2)
		}
	}
	for _, ref := range refs {
		if !mayBeNamed(c, ref) {
			return nil, nil, false
		}
		meet(ref)
	}
	for done := 0; done < len(starts); done++ {
		o, run, ok := objectIn(c, image, starts[done])
		if !ok {
			return nil, nil, false
		}
		taken = append(taken, linesFrom(starts[done], starts[done]+run)...)
		for i, kind := range c.Types[o.Type] {
			if kind == 'r' {
				meet(o.Vals[i])
			}
		}
	}
	slices.Sort(taken)
	if len(slices.Compact(slices.Clone(taken))) != len(taken) {
		return nil, nil, false
	}
	return starts, taken, true
}

// graphByQueue is what chapter 10 says of DurableOf.
func graphByQueue(c impl.Config, image string) (impl.Graph, bool) {
	var roots []int64
	for i := range int64(8) {
		roots = append(roots, wordIn(image, 16+i))
	}
	starts, _, ok := walkByQueue(c, image, roots)
	if !ok {
		return impl.Graph{}, false
	}
	told := func(ref int64) int64 { return int64(slices.Index(starts, ref/2)) + 1 }
	var g impl.Graph
	for _, ref := range roots {
		g.Roots = append(g.Roots, told(ref))
	}
	for _, line := range starts {
		o, _, _ := objectIn(c, image, line)
		for i, kind := range c.Types[o.Type] {
			if kind == 'r' {
				o.Vals[i] = told(o.Vals[i])
			}
		}
		g.Nodes = append(g.Nodes, o)
	}
	return g, true
}

// holdWalk holds Walk and LiveMap against what the chapter says, and tells whether there is one.
func holdWalk(t *testing.T, what string, c impl.Config, image string, refs []int64) bool {
	t.Helper()
	starts, taken, right := walkByQueue(c, image, refs)
	if l, ok := impl.Walk(c, image, refs); ok != right || !sameNumbers(l, starts) {
		t.Errorf("%s: Walk(%v) = %v, %v, want %v, %v", what, refs, l, ok, starts, right)
	}
	want := ""
	if right {
		want = mapBytes(64, taken...)
	}
	if m, ok := impl.LiveMap(c, image, refs); ok != right || m != want {
		t.Errorf("%s: LiveMap(%v) = %v, %v, want %v, %v", what, refs, impl.LinesOf(m), ok, taken, right)
	}
	return right
}

// holdImage holds all that is asked of an image of c against what the chapter says.
func holdImage(t *testing.T, what string, c impl.Config, image string) bool {
	t.Helper()
	for line := int64(-2); line <= c.Lines+2; line++ {
		want, _, right := objectIn(c, image, line)
		if o, ok := impl.OldObject(c, image, line); ok != right || !sameObj(o, want) {
			t.Errorf("%s: OldObject(%d) = %v, %v, want %v, %v", what, line, o, ok, want, right)
		}
	}
	var roots []int64
	rooted := true
	for i := range int64(8) {
		roots = append(roots, wordIn(image, 16+i))
		rooted = rooted && mayBeNamed(c, roots[i])
	}
	wantRoots := roots
	if !rooted {
		wantRoots = nil
	}
	if l, ok := impl.RootsOf(c, image); ok != rooted || !sameNumbers(l, wantRoots) {
		t.Errorf("%s: RootsOf = %v, %v, want %v, %v", what, l, ok, wantRoots, rooted)
	}
	right := holdWalk(t, what, c, image, roots)
	g, _ := graphByQueue(c, image)
	if h, ok := impl.DurableOf(c, image); ok != right || !sameGraphs(h, g) {
		t.Errorf("%s: DurableOf = %v, %v, want %v, %v", what, h, ok, g, right)
	}
	return right
}

// noImage: nothing is told of it, wherever it is asked.
func noImage(t *testing.T, what string, c impl.Config, image string) {
	t.Helper()
	for _, line := range append([]int64{0, 1, 6, 7, 8, 15}, edges...) {
		if o, ok := impl.OldObject(c, image, line); ok || !sameObj(o, impl.Obj{}) {
			t.Errorf("%s: OldObject(%d) = %v, %v", what, line, o, ok)
		}
	}
	if l, ok := impl.RootsOf(c, image); ok || len(l) != 0 {
		t.Errorf("%s: RootsOf = %v, %v", what, l, ok)
	}
	for _, refs := range [][]int64{nil, {0}, {14}, {16}, edges} {
		noWalk(t, what, c, image, refs)
	}
	noGraph(t, what, c, image)
}

func noWalk(t *testing.T, what string, c impl.Config, image string, refs []int64) {
	t.Helper()
	if l, ok := impl.Walk(c, image, refs); ok || len(l) != 0 {
		t.Errorf("%s: Walk(%v) = %v, %v", what, refs, l, ok)
	}
	if m, ok := impl.LiveMap(c, image, refs); ok || m != "" {
		t.Errorf("%s: LiveMap(%v) = %q, %v", what, refs, m, ok)
	}
}

func noGraph(t *testing.T, what string, c impl.Config, image string) {
	t.Helper()
	if g, ok := impl.DurableOf(c, image); ok || !sameGraphs(g, impl.Graph{}) {
		t.Errorf("%s: DurableOf = %v, %v", what, g, ok)
	}
}

// wantWalk says what there is to be found, line by line.
func wantWalk(t *testing.T, what string, c impl.Config, image string, refs, starts, taken []int64) {
	t.Helper()
	if l, ok := impl.Walk(c, image, refs); !ok || !sameNumbers(l, starts) {
		t.Errorf("%s: Walk(%v) = %v, %v, want %v", what, refs, l, ok, starts)
	}
	if m, ok := impl.LiveMap(c, image, refs); !ok || m != mapBytes(64, taken...) {
		t.Errorf("%s: LiveMap(%v) = %v, %v, want %v", what, refs, impl.LinesOf(m), ok, taken)
	}
}

// ringImage has 6 and 7 in a ring, 8 .. 9 that names both and itself, 10 .. 12 that names 8 twice, and 13, which nothing reaches.
func ringImage() string {
	return oldImage(oldConfig(), pairAt(6, 60, 14), pairAt(7, 70, 12), twoAt(8, 14, 16), threeAt(10, 16, 16), pairAt(13, 130, 12), pairAt(15, 150, 30))
}

func TestP10OldObjects(t *testing.T) {
	c := oldConfig()
	image := ringImage()
	for line, want := range map[int64]impl.Obj{
		6: node(0, 60, 14), 7: node(0, 70, 12), 8: twoAt(8, 14, 16).obj, 10: threeAt(10, 16, 16).obj, 13: node(0, 130, 12), 15: node(0, 150, 30),
	} {
		if o, ok := impl.OldObject(c, image, line); !ok || !sameObj(o, want) {
			t.Errorf("OldObject(%d) = %v, %v", line, o, ok)
		}
	}
	for _, line := range append([]int64{0, 1, 2, 3, 4, 5, 9, 11, 12, 14, 16, 17, 127, 128, 1<<32 + 6, math.MaxInt64/64 + 7}, edges...) {
		if o, ok := impl.OldObject(c, image, line); ok || !sameObj(o, impl.Obj{}) {
			t.Errorf("OldObject(%d) = %v, %v", line, o, ok)
		}
	}
}

// TestP10LinesOfDataAlone: an object in each line is one from the first line of data on, to the last.
func TestP10LinesOfDataAlone(t *testing.T) {
	for _, size := range [][2]int64{{8, 1}, {8, 3}, {16, 2}, {16, 11}, {128, 32}, {128, 1}, {37, 32}} {
		c := oldConfig()
		c.Lines, c.Log = size[0], size[1]
		image := ""
		for line := range c.Lines {
			image += impl.ObjectBytes(c.Types, node(pairKind, line, 2*(c.Lines-1)))
		}
		for line := int64(-1); line <= c.Lines; line++ {
			data := line >= 4+c.Log && line < c.Lines
			o, ok := impl.OldObject(c, image, line)
			if ok != data || ok && !sameObj(o, node(pairKind, line, 2*(c.Lines-1))) {
				t.Errorf("%v: OldObject(%d) = %v, %v", size, line, o, ok)
			}
			holdWalk(t, "one line", c, image, []int64{2 * line})
		}
		holdWalk(t, "all lines", c, image, []int64{2 * (4 + c.Log), 2 * (c.Lines - 1)})
	}
}

func TestP10ObjectsAtTheEnd(t *testing.T) {
	c := oldConfig()
	for run, thing := range map[int64]func(line, a, b int64) oldThing{1: pairAt, 2: twoAt, 3: threeAt} {
		at := 16 - run
		image := oldImage(c, thing(at, 0, 2*at))
		if o, ok := impl.OldObject(c, image, at); !ok || !sameObj(o, thing(at, 0, 2*at).obj) {
			t.Errorf("run %d: OldObject = %v, %v", run, o, ok)
		}
		wantWalk(t, "it ends with the image", c, image, []int64{2 * at}, []int64{at}, linesFrom(at, 16))
	}
	// What would go past the end is cut there.
	for _, thing := range []oldThing{twoAt(15, 0, 0), threeAt(14, 0, 0), threeAt(15, 0, 0)} {
		s := impl.ObjectBytes(c.Types, thing.obj)
		image := (impl.Format(c)[:64*thing.line] + s)[:64*16]
		if o, ok := impl.OldObject(c, image, thing.line); ok || !sameObj(o, impl.Obj{}) {
			t.Errorf("past the end: OldObject(%d) = %v, %v", thing.line, o, ok)
		}
		noWalk(t, "past the end", c, image, []int64{2 * thing.line})
		noGraph(t, "past the end", c, withRoots(image, 2*thing.line))
		wantWalk(t, "nothing reaches it", c, image, nil, nil, nil)
	}
}

// TestP10References: which numbers an object, a slot and refs may have as references.
func TestP10References(t *testing.T) {
	c := oldConfig()
	numbers := append([]int64{1<<32 + 12, 1<<32 + 13, 1 << 62}, edges...)
	for n := int64(-40); n <= 820; n++ {
		numbers = append(numbers, n)
	}
	var all []oldThing
	for line := int64(6); line < 16; line++ {
		all = append(all, pairAt(line, line, 0))
	}
	image := oldImage(c, all...)
	for _, ref := range numbers {
		right := ref == 0 || ref >= 12 && ref <= 30 && ref%2 == 0
		named := withWord(image, 8*9+2, ref)
		if _, ok := impl.OldObject(c, named, 9); ok != right {
			t.Errorf("OldObject with %d: %v", ref, ok)
		}
		if _, ok := impl.Walk(c, named, []int64{18}); ok != right {
			t.Errorf("Walk to %d: %v", ref, ok)
		}
		if _, ok := impl.Walk(c, image, []int64{12, ref}); ok != right {
			t.Errorf("Walk from %d: %v", ref, ok)
		}
		if _, ok := impl.LiveMap(c, image, []int64{ref, 12}); ok != right {
			t.Errorf("LiveMap from %d: %v", ref, ok)
		}
		for _, slot := range []int64{0, 5, 7} {
			rooted := withWord(image, 16+slot, ref)
			if l, ok := impl.RootsOf(c, rooted); ok != right || ok && l[slot] != ref {
				t.Errorf("RootsOf with %d in slot %d = %v, %v", ref, slot, l, ok)
			}
			if _, ok := impl.DurableOf(c, rooted); ok != right {
				t.Errorf("DurableOf with %d in slot %d: %v", ref, slot, ok)
			}
		}
		// Whole numbers may be any.
		if o, ok := impl.OldObject(c, withWord(image, 8*9+1, ref), 9); !ok || o.Vals[0] != ref {
			t.Errorf("OldObject with the whole number %d = %v, %v", ref, o, ok)
		}
	}
}

func TestP10BytesThatAreNoObject(t *testing.T) {
	c := oldConfig()
	image := withRoots(oldImage(c, pairAt(6, 60, 0), twoAt(8, 0, 0), threeAt(10, 0, 0), oldThing{13, node(fullKind, 0, 0, 0, 0, 0, 0, 9)}), 12, 16, 20, 26)
	if !holdImage(t, "as it is", c, image) {
		t.Fatal("it has no graph")
	}
	for _, r := range []struct {
		line int64
		word int64 // of the line's object
		v    int64
	}{
		{6, 0, 0}, {6, 0, 5}, {6, 0, 2}, {6, 0, 3}, {6, 0, 4}, {6, 0, -1}, {6, 0, math.MinInt64}, {6, 0, math.MaxInt64}, {6, 0, 1<<32 + 1},
		{6, 3, 1}, {6, 7, 1}, {6, 5, -1}, {6, 7, math.MinInt64}, {8, 9, 1}, {8, 15, 1}, {8, 12, 1 << 56}, {8, 0, 1}, {8, 0, 0},
		{13, 0, 0}, {13, 1, 1}, {13, 6, 2}, {10, 23, 3}, {10, 1, 8}, {10, 0, 5}, {10, 23, 32},
	} {
		wrong := withWord(image, 8*r.line+r.word, r.v)
		what := "line " + strconv.FormatInt(r.line, 10) + ", word " + strconv.FormatInt(r.word, 10)
		if o, ok := impl.OldObject(c, wrong, r.line); ok || !sameObj(o, impl.Obj{}) {
			t.Errorf("%s: OldObject = %v, %v", what, o, ok)
		}
		noWalk(t, what, c, wrong, []int64{2 * r.line})
		noGraph(t, what, c, wrong)
		holdImage(t, what, c, wrong)
		// When nothing reaches it, it may be anything.
		if _, ok := impl.Walk(c, wrong, []int64{0}); !ok {
			t.Errorf("%s: not even without refs", what)
		}
	}
}

func TestP10Roots(t *testing.T) {
	c := oldConfig()
	for _, roots := range [][]int64{
		{}, {12}, {0, 12}, {0, 0, 0, 0, 0, 0, 0, 30}, {12, 0, 12, 0, 30, 0, 12, 14}, {30, 28, 26, 24, 22, 20, 18, 16},
	} {
		image := withRoots(impl.Format(c), roots...)
		want := append(slices.Clone(roots), make([]int64, 8-len(roots))...)
		// Nobody asks here whether an object begins there.
		if l, ok := impl.RootsOf(c, image); !ok || !sameNumbers(l, want) {
			t.Errorf("RootsOf = %v, %v, want %v", l, ok, want)
		}
	}
	// The words ahead of line 2 and behind it are none of them.
	image := withWord(withWord(impl.Format(c), 15, 1), 24, 1)
	if l, ok := impl.RootsOf(c, image); !ok || !sameNumbers(l, make([]int64, 8)) {
		t.Errorf("RootsOf = %v, %v", l, ok)
	}
}

func TestP10Walks(t *testing.T) {
	c := oldConfig()
	image := ringImage()
	for _, r := range []struct{ refs, starts, taken []int64 }{
		{nil, nil, nil},
		{[]int64{0, 0}, nil, nil},
		{[]int64{12}, []int64{6, 7}, []int64{6, 7}},
		{[]int64{14}, []int64{7, 6}, []int64{6, 7}},
		{[]int64{14, 12}, []int64{7, 6}, []int64{6, 7}},
		{[]int64{0, 12, 0, 14, 12, 0}, []int64{6, 7}, []int64{6, 7}},
		{[]int64{16}, []int64{8, 7, 6}, []int64{6, 7, 8, 9}},
		{[]int64{20}, []int64{10, 8, 7, 6}, linesFrom(6, 13)},
		{[]int64{20, 30, 12}, []int64{10, 15, 6, 8, 7}, append(linesFrom(6, 13), 15)},
		{[]int64{30}, []int64{15}, []int64{15}},
		{[]int64{30, 30, 30}, []int64{15}, []int64{15}},
		{[]int64{26}, []int64{13, 6, 7}, []int64{6, 7, 13}},
		{[]int64{30, 26, 20}, []int64{15, 13, 10, 6, 8, 7}, append(linesFrom(6, 14), 15)},
		{manyRefs(400, 30), []int64{15}, []int64{15}},
		{append(manyRefs(399, 0), 14), []int64{7, 6}, []int64{6, 7}},
		{manyRefs(400, 0), nil, nil},
	} {
		wantWalk(t, "the ring", c, image, r.refs, r.starts, r.taken)
		holdWalk(t, "the ring", c, image, r.refs)
	}
	for _, ref := range []int64{0, 12, 30} {
		noWalk(t, "401 refs", c, image, manyRefs(401, ref))
	}
	for _, refs := range [][]int64{{18}, {22}, {24}, {28}, {12, 28}, {2}, {8}, {10}, {32}, {254}, {1}, {13}, {12, 13}, {-12}} {
		noWalk(t, "no objects", c, image, refs)
	}
}

func TestP10Graphs(t *testing.T) {
	c := oldConfig()
	image := ringImage()
	two := func(a, b int64) impl.Obj { return twoAt(8, a, b).obj }
	three := func(a, b int64) impl.Obj { return threeAt(10, a, b).obj }
	for _, r := range []struct {
		roots []int64
		want  impl.Graph
	}{
		{nil, graph(make([]int64, 8))},
		{[]int64{12}, graph([]int64{1, 0, 0, 0, 0, 0, 0, 0}, node(0, 60, 2), node(0, 70, 1))},
		{[]int64{0, 14, 0, 12, 14}, graph([]int64{0, 1, 0, 2, 1, 0, 0, 0}, node(0, 70, 2), node(0, 60, 1))},
		{[]int64{0, 0, 0, 0, 0, 0, 0, 30}, graph([]int64{0, 0, 0, 0, 0, 0, 0, 1}, node(0, 150, 1))},
		{[]int64{16, 0, 30}, graph([]int64{1, 0, 2, 0, 0, 0, 0, 0}, two(3, 1), node(0, 150, 2), node(0, 70, 4), node(0, 60, 3))},
		{[]int64{0, 20, 0, 0, 20}, graph([]int64{0, 1, 0, 0, 1, 0, 0, 0}, three(2, 2), two(3, 2), node(0, 70, 4), node(0, 60, 3))},
	} {
		rooted := withRoots(image, r.roots...)
		g, ok := impl.DurableOf(c, rooted)
		if !ok || !sameGraphs(g, r.want) {
			t.Errorf("DurableOf with %v = %v, %v, want %v", r.roots, g, ok, r.want)
		}
		if !impl.GraphOk(c.Types, g) || !sameGraphs(impl.Plain(c.Types, g), g) {
			t.Errorf("DurableOf with %v = %v, which is not plain", r.roots, g)
		}
		holdImage(t, "the ring", c, rooted)
	}
	for _, roots := range [][]int64{{18}, {0, 28}, {12, 24}, {2}, {0, 0, 10}, {1}, {12, 0, 0, 0, 0, 0, 0, 5}, {32}, {-2}} {
		noGraph(t, "wrong roots", c, withRoots(image, roots...))
	}
}

// TestP10LinesTogether: two that are reached have no line together, whichever is found first; one that is not reached may.
func TestP10LinesTogether(t *testing.T) {
	c := oldConfig()
	c.Types = []string{"ir", "rrrrrri", "riiiiiii", "r" + strings.Repeat("i", 22)}
	inside := func(line int64) []int64 { return []int64{2 * line} }
	// The whole numbers with which further lines of an object begin are marks of types, so that objects begin there, too.
	two := func(line, a, last int64) oldThing { return oldThing{line, node(twoKind, a, 0, 0, 0, 0, 0, 0, last)} }
	three := func(line, a int64, marks [2]int64) oldThing {
		vals := make([]int64, 23)
		vals[0], vals[7], vals[15] = a, marks[0], marks[1]
		return oldThing{line, node(threeKind, vals...)}
	}
	over := oldImage(c, two(8, 0, 1), three(11, 0, [2]int64{3, 1}), pairAt(14, 140, 0))
	for _, line := range []int64{8, 9, 11, 12, 13, 14} {
		if _, ok := impl.OldObject(c, over, line); !ok {
			t.Fatalf("no object at %d", line)
		}
	}
	wantWalk(t, "8 alone", c, over, inside(8), []int64{8}, []int64{8, 9})
	wantWalk(t, "9 alone", c, over, inside(9), []int64{9}, []int64{9})
	wantWalk(t, "11 alone", c, over, inside(11), []int64{11}, []int64{11, 12, 13})
	wantWalk(t, "12 alone", c, over, inside(12), []int64{12}, []int64{12, 13})
	wantWalk(t, "13 alone", c, over, inside(13), []int64{13}, []int64{13})
	wantWalk(t, "neighbours", c, over, []int64{18, 28, 22, 22}, []int64{9, 14, 11}, []int64{9, 11, 12, 13, 14})
	for _, refs := range [][]int64{{16, 18}, {18, 16}, {22, 24}, {24, 22}, {22, 26}, {26, 22}, {24, 26}, {26, 24}, {16, 28, 0, 18}, {22, 28, 26}, {26, 28, 0, 22}, {18, 26, 24}} {
		noWalk(t, "together", c, over, refs)
		noGraph(t, "together", c, withRoots(over, refs...))
	}
	// The same, when one is found by the other.
	noWalk(t, "it names its own line", c, put(over, 64*8, impl.ObjectBytes(c.Types, two(8, 18, 1).obj)), inside(8))
	noWalk(t, "it names its last line", c, put(over, 64*11, impl.ObjectBytes(c.Types, three(11, 26, [2]int64{3, 1}).obj)), inside(11))
	back := oldImage(c, two(8, 0, 1), pairAt(14, 1, 18), pairAt(15, 2, 16))
	wantWalk(t, "14 names 9", c, back, inside(14), []int64{14, 9}, []int64{9, 14})
	wantWalk(t, "15 names 8", c, back, inside(15), []int64{15, 8}, []int64{8, 9, 15})
	noWalk(t, "14 and 15", c, back, []int64{28, 30})
	noGraph(t, "14 and 15", c, withRoots(back, 0, 30, 28))
	holdImage(t, "14", c, withRoots(back, 28))
	holdImage(t, "15", c, withRoots(back, 0, 30, 30))
}

func TestP10WrongConfigs(t *testing.T) {
	image := withRoots(oldImage(logConfig(), oldThing{7, node(0, 5)}), 14)
	if !holdImage(t, "as it is", logConfig(), image) {
		t.Fatal("it has no graph")
	}
	for what, c := range wrongConfigs() {
		noImage(t, what, c, image)
		if l, ok := impl.Planned(c, impl.MapOf(nil), nil); ok || len(l) != 0 {
			t.Errorf("%s: Planned of none = %v, %v", what, l, ok)
		}
		if l, ok := impl.Planned(c, impl.MapOf(nil), []int64{0}); ok || len(l) != 0 {
			t.Errorf("%s: Planned = %v, %v", what, l, ok)
		}
	}
	for _, n := range append([]int64{8, 11, 13, 128, 129, 0, 7}, edges...) {
		c := logConfig()
		c.Lines = n
		noImage(t, "another size", c, image)
	}
}

func TestP10ImagesOfOtherLengths(t *testing.T) {
	c := oldConfig()
	image := withRoots(ringImage(), 14)
	for _, n := range []int{0, 1, 63, 64, 128, 191, 192, 64 * 7, 64*15 - 1, 64 * 15, 64*15 + 1, 64*16 - 1} {
		noImage(t, strconv.Itoa(n)+" bytes", c, image[:n])
	}
	for _, n := range []int{1, 63, 64, 65, 64 * 112, 64 * 113} {
		noImage(t, strconv.Itoa(n)+" bytes more", c, image+noughts(n))
	}
}

// TestP10LineZeroIsNotAsked: an image is told by its length alone; the lines ahead of line 2, the map and the log may be anything.
func TestP10LineZeroIsNotAsked(t *testing.T) {
	c := oldConfig()
	image := withRoots(ringImage(), 20, 0, 30)
	for _, n := range []int64{0, 1, 3, 4, 5} {
		image = withLine(image, n, line("\xff"))
	}
	if !holdImage(t, "other lines", c, image) {
		t.Error("it has no graph")
	}
	// Nor does Walk ask for the roots.
	wantWalk(t, "wrong roots", c, withRoots(image, 1, 2, 3), []int64{30}, []int64{15}, []int64{15})
}

func TestP10TheGreatestImage(t *testing.T) {
	c := impl.Config{Lines: 128, Log: 1, Young: 2, Types: []string{"r", "ri"}}
	image := impl.Format(c)
	var starts []int64
	for line := int64(127); line >= 5; line-- {
		image = put(image, 64*line, impl.ObjectBytes(c.Types, node(line%2, append([]int64{2 * (line - 1)}, make([]int64, line%2)...)...)))
		starts = append(starts, line)
	}
	noWalk(t, "the last one names a line of the log", c, image, []int64{254})
	image = withWord(image, 8*5+1, 254)
	wantWalk(t, "all lines", c, image, []int64{254}, starts, linesFrom(5, 128))
	if !holdImage(t, "all lines", c, withRoots(image, 0, 254)) {
		t.Error("it has no graph")
	}
	if g, ok := impl.DurableOf(c, withRoots(image, 10)); !ok || len(g.Nodes) != 123 || g.Nodes[0].Vals[0] != 2 || g.Nodes[122].Vals[0] != 1 {
		t.Errorf("DurableOf = %v, %v", g, ok)
	}
	small := impl.Config{Lines: 8, Log: 3, Young: 2, Types: []string{"r"}}
	if !holdImage(t, "one line of data", small, withRoots(oldImage(small, oldThing{7, node(0, 14)}), 0, 14)) {
		t.Error("it has no graph")
	}
}

// someOlds lays objects one behind the other, with gaps, and lets them name each other, and now and then something else.
func (d *dice) someOlds(c impl.Config, wrong int64) (string, []int64) {
	image := impl.Format(c)
	var starts []int64
	kindOf := map[int64]int64{}
	for line := 4 + c.Log; line < c.Lines; {
		kind := d.below(int64(len(c.Types)))
		run := impl.RunOf(c.Types[kind])
		if d.below(4) == 0 || line+run > c.Lines {
			line++
			continue
		}
		starts = append(starts, line)
		kindOf[line] = kind
		line += run
	}
	ref := func() int64 {
		switch k := d.below(8); {
		case k < 3 || len(starts) == 0:
			return 0
		case wrong > 0 && d.below(wrong) == 0:
			return []int64{2 * (4 + c.Log + d.below(c.Lines-4-c.Log)), 2 * (1 + d.below(c.Lines)), d.anyRef()}[d.below(3)]
		}
		return 2 * starts[d.below(int64(len(starts)))]
	}
	for _, line := range starts {
		o := impl.Obj{Type: kindOf[line]}
		for _, kind := range c.Types[o.Type] {
			// Small numbers look like marks and references, where a line is taken for an object.
			v := []int64{0, 0, 0, 1, 2, d.below(1 << 30), math.MinInt64}[d.below(7)]
			if kind == 'r' {
				v = ref()
			}
			o.Vals = append(o.Vals, v)
		}
		image = put(image, 64*line, impl.ObjectBytes(c.Types, o))
	}
	var roots []int64
	for range 8 {
		roots = append(roots, ref())
	}
	return withRoots(image, roots...), roots
}

func TestP10AnyImages(t *testing.T) {
	d := &dice{100}
	count := map[bool]int{}
	for i := range int64(1500) {
		c := d.config()
		if i%2 == 0 {
			c = oldConfig()
			c.Lines = 9 + d.below(40)
		}
		image, roots := d.someOlds(c, []int64{0, 60, 300}[i%3])
		if i%5 == 4 {
			image = withWord(image, d.below(8*c.Lines), d.below(40))
		}
		count[holdImage(t, "any image", c, image)]++
		for range 3 {
			refs := slices.Clone(roots[d.below(8):])
			for range d.below(20) {
				refs = append(refs, roots[d.below(8)])
			}
			holdWalk(t, "any refs", c, image, refs)
		}
		if t.Failed() {
			t.Fatalf("config %v", c)
		}
	}
	if count[true] < 300 || count[false] < 150 {
		t.Errorf("right and wrong: %v", count)
	}
}

// TestP10AnyBytes: bytes of any kind are walked or refused.
func TestP10AnyBytes(t *testing.T) {
	d := &dice{101}
	for range 300 {
		c := d.config()
		image := []byte(d.text(64 * c.Lines))
		for at := range image {
			if d.below(50) != 0 {
				image[at] = 0
			}
		}
		holdImage(t, "any bytes", c, string(image))
		holdImage(t, "any bytes", c, d.text(64*c.Lines))
	}
}

// plannedByHand is what chapter 10 says of Planned.
func plannedByHand(c impl.Config, m string, types []int64) ([]int64, bool) {
	taken := takenIn(m)
	var places []int64
	for _, kind := range types {
		run := int64(len(c.Types[kind])/8 + 1)
		at := 4 + c.Log
		for ; at+run <= c.Lines; at++ {
			if !slices.Contains(taken[at:at+run], true) {
				break
			}
		}
		if at+run > c.Lines {
			return nil, false
		}
		for n := at; n < at+run; n++ {
			taken[n] = true
		}
		places = append(places, at)
	}
	return places, true
}

// holdPlanned holds Planned against the chapter; places were free, and no two have a line together.
func holdPlanned(t *testing.T, c impl.Config, m string, types []int64) bool {
	t.Helper()
	want, right := plannedByHand(c, m, types)
	l, ok := impl.Planned(c, m, types)
	if ok != right || !sameNumbers(l, want) {
		t.Errorf("Planned(%v, %v, %v) = %v, %v, want %v, %v", c, impl.LinesOf(m), types, l, ok, want, right)
		return right
	}
	for i, at := range l {
		var free bool
		if m, free = impl.TakeRun(m, at, impl.RunOf(c.Types[types[i]])); !free || at < 4+c.Log {
			t.Errorf("Planned(%v, %v) = %v: %d was not free", c, types, l, at)
		}
	}
	return right
}

func TestP10Planned(t *testing.T) {
	c := oldConfig()
	for _, r := range []struct {
		taken, types, want []int64
	}{
		{nil, nil, nil},
		{linesFrom(0, 128), nil, nil},
		{nil, []int64{0}, []int64{6}},
		{nil, []int64{0, 1, 2, 3}, []int64{6, 7, 8, 10}},
		{nil, []int64{3, 2, 1, 0}, []int64{6, 9, 11, 12}},
		{[]int64{7}, []int64{0, 2, 0}, []int64{6, 8, 10}},
		{[]int64{7, 9}, []int64{2, 3, 0, 0}, []int64{10, 12, 6, 8}},
		{[]int64{7, 10}, []int64{3, 2, 0, 0}, []int64{11, 8, 6, 14}},
		{[]int64{0, 1, 2, 3, 4, 5}, []int64{0}, []int64{6}},
		{linesFrom(16, 128), []int64{3, 3, 3, 0}, []int64{6, 9, 12, 15}},
		{linesFrom(6, 13), []int64{3}, []int64{13}},
		{linesFrom(6, 15), []int64{0}, []int64{15}},
		{linesFrom(6, 16), nil, nil},
		{nil, make([]int64, 10), linesFrom(6, 16)},
		{[]int64{8, 12}, make([]int64, 8), []int64{6, 7, 9, 10, 11, 13, 14, 15}},
		{[]int64{8, 12}, []int64{2, 3, 3}, []int64{6, 9, 13}},
	} {
		m := mapBytes(64, r.taken...)
		if l, ok := impl.Planned(c, m, r.types); !ok || !sameNumbers(l, r.want) {
			t.Errorf("Planned(%v, %v) = %v, %v, want %v", r.taken, r.types, l, ok, r.want)
		}
		holdPlanned(t, c, m, r.types)
	}
}

func noPlan(t *testing.T, what string, c impl.Config, m string, types []int64) {
	t.Helper()
	if l, ok := impl.Planned(c, m, types); ok || len(l) != 0 {
		t.Errorf("%s: Planned(%v) = %v, %v", what, types, l, ok)
	}
}

func TestP10NoPlaces(t *testing.T) {
	c := oldConfig()
	for _, r := range []struct{ taken, types []int64 }{
		{nil, make([]int64, 11)},
		{[]int64{8}, make([]int64, 10)},
		{linesFrom(6, 16), []int64{0}},
		{linesFrom(6, 15), []int64{2}},
		{linesFrom(6, 14), []int64{3}},
		{linesFrom(6, 15), []int64{0, 0}},
		{nil, []int64{3, 3, 3, 2}},
		{nil, []int64{3, 3, 3, 3}},
		{nil, []int64{3, 3, 3, 0, 0}},
		{[]int64{7, 9, 11, 13, 15}, []int64{2}},
		{[]int64{7, 9, 11, 13, 15}, []int64{0, 2, 0}},
		{[]int64{8, 11, 14}, []int64{3}},
	} {
		noPlan(t, "no place", c, mapBytes(64, r.taken...), r.types)
	}
}

func TestP10AsManyPlacesAsThereAre(t *testing.T) {
	great := impl.Config{Lines: 128, Log: 1, Young: 2, Types: []string{"i", strings.Repeat("i", 23)}}
	small := impl.Config{Lines: 8, Log: 3, Young: 2, Types: []string{"i", strings.Repeat("i", 8)}}
	m := impl.MapOf(nil)
	if l, ok := impl.Planned(great, m, make([]int64, 123)); !ok || !sameNumbers(l, linesFrom(5, 128)) {
		t.Errorf("Planned of 123 = %v, %v", l, ok)
	}
	if l, ok := impl.Planned(great, m, manyRefs(41, 1)); !ok || len(l) != 41 || l[40] != 125 {
		t.Errorf("Planned of 41 = %v, %v", l, ok)
	}
	if l, ok := impl.Planned(small, m, []int64{0}); !ok || !sameNumbers(l, []int64{7}) {
		t.Errorf("Planned of one = %v, %v", l, ok)
	}
	noPlan(t, "one more", great, m, make([]int64, 124))
	noPlan(t, "one more of three", great, m, manyRefs(42, 1))
	noPlan(t, "one more of one", small, m, []int64{0, 0})
	noPlan(t, "two lines in one", small, m, []int64{1})
	for _, n := range []int{400, 401, 1000} {
		noPlan(t, "many", great, m, make([]int64, n))
	}
}

func TestP10WrongPlans(t *testing.T) {
	c := oldConfig()
	m := impl.MapOf(nil)
	for _, kind := range append([]int64{-1, -2, 4, 5, 12, 1 << 32, -1 << 32}, edges...) {
		for _, types := range [][]int64{{kind}, {0, kind}, {kind, 0}, {1, 2, kind, 3}} {
			noPlan(t, "no type", c, m, types)
		}
	}
	for what, m := range wrongMaps() {
		for _, types := range [][]int64{nil, {}, {0}, {3, 0}, {-1}} {
			noPlan(t, what, c, m, types)
		}
	}
}

func TestP10AnyPlans(t *testing.T) {
	d := &dice{102}
	count := map[bool]int{}
	for range 1500 {
		c := d.config()
		var types []int64
		for range d.below(1 + d.below(60)) {
			types = append(types, d.below(int64(len(c.Types))))
		}
		m := d.someMap()
		if d.below(3) == 0 {
			m = impl.MapOf(nil)
		}
		count[holdPlanned(t, c, m, types)]++
		if t.Failed() {
			t.Fatal("as above")
		}
	}
	if count[true] < 300 || count[false] < 300 {
		t.Errorf("with and without places: %v", count)
	}
}

// TestP10WhatIsPlannedIsFound: a graph that is laid where Planned says is the graph that DurableOf tells.
func TestP10WhatIsPlannedIsFound(t *testing.T) {
	d := &dice{103}
	found := 0
	for range 300 {
		c := d.config()
		g := impl.Plain(c.Types, d.someGraph(c.Types, 8, d.below(40)))
		var types []int64
		for _, o := range g.Nodes {
			types = append(types, o.Type)
		}
		m := d.someMap()
		places, ok := impl.Planned(c, m, types)
		if !ok {
			continue
		}
		found++
		laid := func(ref int64) int64 {
			if ref == 0 {
				return 0
			}
			return 2 * places[ref-1]
		}
		image := impl.Format(c)
		for slot, ref := range g.Roots {
			image = withWord(image, 16+int64(slot), laid(ref))
		}
		var taken []int64
		for i, o := range copied(g).Nodes {
			for j, kind := range c.Types[o.Type] {
				if kind == 'r' {
					o.Vals[j] = laid(o.Vals[j])
				}
			}
			image = put(image, 64*places[i], impl.ObjectBytes(c.Types, o))
			taken = append(taken, linesFrom(places[i], places[i]+impl.RunOf(c.Types[o.Type]))...)
		}
		if h, ok := impl.DurableOf(c, image); !ok || !sameGraphs(h, g) {
			t.Fatalf("%v: DurableOf = %v, %v, want %v", c, h, ok, g)
		}
		roots, _ := impl.RootsOf(c, image)
		wantWalk(t, "laid", c, image, roots, places, taken)
	}
	if found < 60 {
		t.Errorf("%d graphs found places", found)
	}
}

func TestP17ArgumentsOfOldsStay(t *testing.T) {
	c := oldConfig()
	types, allTypes := roomyTexts(c.Types)
	c.Types = types
	wantTypes := slices.Clone(allTypes)
	refs, allRefs := roomyNumbers([]int64{20, 0, 30, 12})
	plan, allPlan := roomyNumbers([]int64{0, 3, 2})
	image := withRoots(ringImage(), 0, 20, 0, 30)
	m := mapBytes(64, 7, 9)
	ask := func() string {
		o, _ := impl.OldObject(c, image, 10)
		roots, _ := impl.RootsOf(c, image)
		found, _ := impl.Walk(c, image, refs)
		live, _ := impl.LiveMap(c, image, refs)
		g, _ := impl.DurableOf(c, image)
		places, _ := impl.Planned(c, m, plan)
		text := live
		lists := [][]int64{o.Vals, roots, found, places, g.Roots}
		for _, n := range g.Nodes {
			lists = append(lists, n.Vals)
		}
		for _, l := range lists {
			text += numbersText(l) + ";"
		}
		// What is spoilt in one list is not to be seen in another one.
		for i, l := range lists {
			spoilNumbers(l)
			for _, other := range lists[i+1:] {
				if slices.Contains(other, -99) {
					t.Errorf("two lists share memory: %v and %v", l, other)
				}
			}
		}
		return text
	}
	first := ask()
	if again := ask(); again != first {
		t.Errorf("first %q, then %q", first, again)
	}
	if !sameNumbers(allRefs, []int64{20, 0, 30, 12, 7777, 7777, 7777}) || !sameNumbers(allPlan, []int64{0, 3, 2, 7777, 7777, 7777}) {
		t.Errorf("refs became %v, types to be planned %v", allRefs, allPlan)
	}
	if !sameTexts(allTypes, wantTypes) {
		t.Errorf("the types became %q", allTypes)
	}
}
