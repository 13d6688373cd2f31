package tests

import (
	"math"
	"slices"
	"strconv"
	"strings"
	"testing"

	"loop.example/g00648/impl"
)

func nursery(size int64, words ...int64) impl.Nursery {
	return impl.Nursery{Size: size, Words: words}
}

func sameNursery(a, b impl.Nursery) bool { return a.Size == b.Size && sameNumbers(a.Words, b.Words) }

// A youngThing is an object of a nursery as the tests read it.
type youngThing struct {
	kind, age int64
	vals      []int64
}

// thingsOf takes a right nursery apart, by the words with which objects begin, and lists these.
func thingsOf(types []string, n impl.Nursery) (map[int64]youngThing, []int64) {
	things := map[int64]youngThing{}
	var starts []int64
	for at := int64(0); at < int64(len(n.Words)); {
		kind := n.Words[at] / 4
		end := at + 1 + int64(len(types[kind]))
		things[at] = youngThing{kind: kind, age: n.Words[at] % 4, vals: n.Words[at+1 : end]}
		starts = append(starts, at)
		at = end
	}
	return things, starts
}

// closureByQueue is what chapter 8 says of YoungClosure.
func closureByQueue(types []string, n impl.Nursery, roots []int64) []int64 {
	things, _ := thingsOf(types, n)
	var list []int64
	meet := func(ref int64) {
		if ref%2 == 1 && !slices.Contains(list, ref) {
			list = append(list, ref)
		}
	}
	for _, r := range roots {
		meet(r)
	}
	for done := 0; done < len(list); done++ {
		y := things[list[done]/2]
		for i, kind := range types[y.kind] {
			if kind == 'r' {
				meet(y.vals[i])
			}
		}
	}
	return list
}

// someNursery is right: objects of all ages that name each other, old lines and nothing.
func (d *dice) someNursery(types []string, size int64, stop int64) impl.Nursery {
	n := impl.Nursery{Size: size}
	var starts []int64
	for range stop {
		kind := d.below(int64(len(types)))
		if int64(len(n.Words)+1+len(types[kind])) > size {
			continue
		}
		starts = append(starts, int64(len(n.Words)))
		n.Words = append(n.Words, 4*kind+d.below(4))
		n.Words = append(n.Words, make([]int64, len(types[kind]))...)
	}
	things, _ := thingsOf(types, n)
	for _, start := range starts {
		y := things[start]
		for i, kind := range types[y.kind] {
			y.vals[i] = []int64{0, -1, math.MaxInt64, math.MinInt64, d.below(1 << 30), d.below(99)}[d.below(6)]
			if kind == 'r' {
				y.vals[i] = d.someRef(starts)
			}
		}
	}
	return n
}

// someRef is nothing, old, or young and of one of these words.
func (d *dice) someRef(starts []int64) int64 {
	switch k := d.below(4); {
	case k == 0:
		return 0
	case k == 1 || len(starts) == 0:
		return 2 * (1 + d.below(127))
	}
	return 2*starts[d.below(int64(len(starts)))] + 1
}

func (d *dice) someRoots(types []string, n impl.Nursery, count int64) []int64 {
	_, starts := thingsOf(types, n)
	var roots []int64
	for range count {
		roots = append(roots, d.someRef(starts))
	}
	return roots
}

func wrongNursery(t *testing.T, what string, types []string, n impl.Nursery) {
	t.Helper()
	if impl.NurseryOk(types, n) {
		t.Errorf("%s: it is right", what)
	}
	if l := impl.Starts(types, n); len(l) != 0 {
		t.Errorf("%s: Starts = %v", what, l)
	}
	if l := impl.Ages(types, n); len(l) != 0 {
		t.Errorf("%s: Ages = %v", what, l)
	}
	for _, kind := range []int64{0, -1, 99} {
		if m, ref, code := impl.YoungAlloc(types, n, kind); !sameNursery(m, impl.Nursery{}) || ref != 0 || code != impl.NuBad {
			t.Errorf("%s: YoungAlloc(%d) = %v, %d, %d", what, kind, m, ref, code)
		}
	}
	if o, ok := impl.YoungObject(types, n, 1); ok || !sameObj(o, impl.Obj{}) {
		t.Errorf("%s: YoungObject = %v, %v", what, o, ok)
	}
	if m, ok := impl.YoungSet(types, n, 1, 0, 0); ok || !sameNursery(m, impl.Nursery{}) {
		t.Errorf("%s: YoungSet = %v, %v", what, m, ok)
	}
	for _, roots := range [][]int64{nil, {0}, {1}} {
		noClosure(t, what, types, n, roots)
	}
}

// noClosure: a collection from these roots is refused, and leaves nothing.
func noClosure(t *testing.T, what string, types []string, n impl.Nursery, roots []int64) {
	t.Helper()
	if l, ok := impl.YoungClosure(types, n, roots); ok || len(l) != 0 {
		t.Errorf("%s: YoungClosure(%v) = %v, %v", what, roots, l, ok)
	}
	if m, l, ok := impl.Minor(types, n, roots); ok || len(l) != 0 || !sameNursery(m, impl.Nursery{}) {
		t.Errorf("%s: Minor(%v) = %v, %v, %v", what, roots, m, l, ok)
	}
}

// holdNursery holds what is asked of a right nursery against its words.
func holdNursery(t *testing.T, types []string, n impl.Nursery) {
	t.Helper()
	if !impl.NurseryOk(types, n) {
		t.Fatalf("%q %v is not right", types, n)
	}
	things, starts := thingsOf(types, n)
	if l := impl.Starts(types, n); !sameNumbers(l, starts) {
		t.Errorf("Starts(%q, %v) = %v", types, n, l)
	}
	ages := make([]int64, 4)
	for word := int64(-2); word <= int64(len(n.Words))+2; word++ {
		y, begins := things[word]
		o, ok := impl.YoungObject(types, n, 2*word+1)
		if ok != begins || !sameObj(o, impl.Obj{Type: y.kind, Vals: y.vals}) {
			t.Errorf("YoungObject(%q, %v, %d) = %v, %v", types, n, 2*word+1, o, ok)
		}
		if begins {
			ages[y.age]++
		}
	}
	if l := impl.Ages(types, n); !sameNumbers(l, ages) {
		t.Errorf("Ages(%q, %v) = %v, want %v", types, n, l, ages)
	}
}

// holdMinor: what the roots name, and what that names, is as it was, and nothing else is there.
func holdMinor(t *testing.T, types []string, n impl.Nursery, roots []int64) (impl.Nursery, []int64) {
	t.Helper()
	closure := closureByQueue(types, n, roots)
	if l, ok := impl.YoungClosure(types, n, roots); !ok || !sameNumbers(l, closure) {
		t.Fatalf("YoungClosure(%q, %v, %v) = %v, %v, want %v", types, n, roots, l, ok, closure)
	}
	m, moved, ok := impl.Minor(types, n, roots)
	if !ok || m.Size != n.Size || len(moved) != len(roots) || !impl.NurseryOk(types, m) {
		t.Fatalf("Minor(%q, %v, %v) = %v, %v, %v", types, n, roots, m, moved, ok)
	}
	was, _ := thingsOf(types, n)
	is, starts := thingsOf(types, m)
	if len(starts) != len(closure) {
		t.Fatalf("Minor(%q, %v, %v) = %v, where %v should be", types, n, roots, m, closure)
	}
	where := map[int64]int64{}
	for i, ref := range closure {
		where[ref] = 2*starts[i] + 1
	}
	same := func(before, after int64) bool {
		if before%2 == 1 {
			return after == where[before]
		}
		return after == before
	}
	for i, r := range roots {
		if !same(r, moved[i]) {
			t.Errorf("Minor(%q, %v, %v): the root %d became %d", types, n, roots, r, moved[i])
		}
	}
	for _, ref := range closure {
		a, b := was[ref/2], is[where[ref]/2]
		if b.kind != a.kind || b.age != min(a.age+1, 3) {
			t.Errorf("Minor(%q, %v, %v): %v became %v", types, n, roots, a, b)
		}
		for i, kind := range types[a.kind] {
			if kind == 'r' && !same(a.vals[i], b.vals[i]) || kind == 'i' && a.vals[i] != b.vals[i] {
				t.Errorf("Minor(%q, %v, %v): %v became %v", types, n, roots, a, b)
			}
		}
	}
	return m, moved
}

// pairs has n objects of one field, of type 0 and age 0.
func pairs(n int) []int64 { return make([]int64, 2*n) }

func TestP8RightNurseries(t *testing.T) {
	types := []string{"ir", "rri", "i"}
	for _, n := range []impl.Nursery{
		nursery(2), nursery(400), nursery(3), nursery(2, 8, 5), nursery(2, 11, -5),
		nursery(3, 0, 5, 0), nursery(3, 3, 5, 1), nursery(3, 0, 5, 2), nursery(3, 0, 5, 254),
		nursery(4, 4, 0, 0, 0), nursery(4, 7, 1, 1, 1), nursery(12, 1, 0, 7, 2, 44, 0, 3, 9, 13),
		nursery(9, 0, 1, 13, 1, 2, 1, 2, 3, 7), nursery(7, 0, 5, 7, 7, 1, 7, 9),
		nursery(400, 0, math.MaxInt64, 0, 0, math.MinInt64, 1),
	} {
		holdNursery(t, types, n)
	}
	single := []string{"i", "r"}
	holdNursery(t, single, nursery(400, pairs(200)...))
	holdNursery(t, single, nursery(400, append(pairs(199), 7, 797)...))
	holdNursery(t, single, nursery(400, append([]int64{4, 797}, pairs(199)...)...))
	twelve := append(strings.Split("i i i i i i i i i i i", " "), strings.Repeat("r", 23))
	holdNursery(t, twelve, nursery(24, append([]int64{47}, manyRefs(23, 1)...)...))
	if l := impl.Ages(types, nursery(2)); !sameNumbers(l, []int64{0, 0, 0, 0}) {
		t.Errorf("Ages of an empty nursery = %v", l)
	}
}

func TestP8AnyNurseries(t *testing.T) {
	d := &dice{80}
	for i := range int64(300) {
		types := d.types(1 + d.below(12))
		if i%2 == 0 {
			types = []string{"ir", "rri", "i"}
		}
		n := d.someNursery(types, 2+d.below(399), d.below(40))
		holdNursery(t, types, n)
		for _, count := range []int64{0, 1, d.below(6), d.below(401)} {
			m, moved := holdMinor(t, types, n, d.someRoots(types, n, count))
			holdNursery(t, types, m)
			again, still := holdMinor(t, types, m, moved)
			if len(again.Words) != len(m.Words) || !sameNumbers(still, moved) {
				t.Errorf("%q %v: the second collection made %v of %v", types, n, again, m)
			}
			holdMinor(t, types, again, d.someRoots(types, again, d.below(3)))
		}
		if t.Failed() {
			t.Fatal("as above")
		}
	}
}

func TestP8WrongTypesOfNurseries(t *testing.T) {
	for what, types := range wrongTypes() {
		wrongNursery(t, what, types, nursery(12))
		wrongNursery(t, what, types, nursery(12, 0, 0))
	}
}

func TestP8WrongNurseries(t *testing.T) {
	types := []string{"ir", "rri", "i"}
	for what, n := range map[string]impl.Nursery{
		"the zero value":              {},
		"Size 1":                      nursery(1),
		"Size 401":                    nursery(401),
		"Size 401, full":              nursery(401, make([]int64, 401)...),
		"one word more than Size":     nursery(2, 0, 5, 0),
		"two objects, one fits":       nursery(3, 8, 5, 8, 5),
		"Size 400 and 402 words":      nursery(400, make([]int64, 402)...),
		"the type beyond":             nursery(12, 12, 0, 0),
		"the type beyond, behind":     nursery(12, 8, 0, 12, 0),
		"a head below 0":              nursery(12, -1, 0, 0),
		"a head of -4":                nursery(12, -4, 0, 0),
		"it ends ahead":               nursery(12, 0, 5),
		"a head alone":                nursery(12, 8),
		"the last one ends ahead":     nursery(12, 8, 1, 4, 0, 0),
		"a head behind all":           nursery(12, 8, 1, 8),
		"a word inside":               nursery(12, 0, 5, 3),
		"the last word":               nursery(12, 0, 5, 5),
		"behind all words":            nursery(12, 0, 5, 7),
		"inside of another":           nursery(12, 0, 5, 9, 8, 1),
		"inside, by the one behind":   nursery(12, 8, 1, 0, 5, 3),
		"behind the nursery":          nursery(12, 0, 5, 25),
		"the last young reference":    nursery(12, 0, 5, 799),
		"no reference":                nursery(12, 0, 5, 256),
		"no young reference":          nursery(12, 0, 5, 801),
		"a reference below 0":         nursery(12, 0, 5, -1),
		"a reference of -2":           nursery(12, 0, 5, -2),
		"the second reference":        nursery(12, 4, 1, 3, 1),
		"an object that nobody names": nursery(12, 8, 1, 0, 5, 256),
		"two words behind all":        nursery(12, 8, 1, 0, 5, 13),
	} {
		wrongNursery(t, what, types, n)
	}
	for _, e := range append([]int64{801, 802, 1<<32 + 1, 1 << 32}, edges...) {
		what := "far away: " + strconv.FormatInt(e, 10)
		wrongNursery(t, what, types, nursery(e))
		wrongNursery(t, what, types, nursery(e, 8, 0))
		wrongNursery(t, what, types, nursery(12, e, 0, 0))
		wrongNursery(t, what, types, nursery(12, 0, 0, e))
	}
}

// TestP8AgesOfHeads: four heads are of one type, and the next one is of the next.
func TestP8AgesOfHeads(t *testing.T) {
	types := []string{"i", "ii", "iii"}
	for head := int64(-5); head <= 17; head++ {
		kind, age := head/4, head%4
		right := head >= 0 && kind < 3
		for fields := int64(1); fields <= 3; fields++ {
			n := nursery(8, append([]int64{head}, make([]int64, fields)...)...)
			if !right || fields < kind+1 {
				wrongNursery(t, "head "+strconv.FormatInt(head, 10), types, n)
			} else if fields == kind+1 {
				holdNursery(t, types, n)
				if l := impl.Ages(types, n); l[age] != 1 || l[0]+l[1]+l[2]+l[3] != 1 {
					t.Errorf("Ages of head %d = %v", head, l)
				}
			}
		}
	}
}

func TestP8YoungAlloc(t *testing.T) {
	types := []string{"ir", "rri", "i"}
	full := nursery(9, 3, 5, 7, 1, 2, 1)
	for _, r := range []struct {
		n    impl.Nursery
		kind int64
		want impl.Nursery
		ref  int64
		code int64
	}{
		{nursery(12), 0, nursery(12, 0, 0, 0), 1, impl.NuOk},
		{nursery(12), 1, nursery(12, 4, 0, 0, 0), 1, impl.NuOk},
		{nursery(12), 2, nursery(12, 8, 0), 1, impl.NuOk},
		{full, 0, nursery(9, 3, 5, 7, 1, 2, 1, 0, 0, 0), 13, impl.NuOk},
		{full, 2, nursery(9, 3, 5, 7, 1, 2, 1, 8, 0), 13, impl.NuOk},
		{full, 1, nursery(0), 0, impl.NuFull},
		{nursery(2), 2, nursery(2, 8, 0), 1, impl.NuOk},
		{nursery(2), 0, nursery(0), 0, impl.NuFull},
		{nursery(2, 8, 0), 2, nursery(0), 0, impl.NuFull},
		{nursery(3, 8, 0), 2, nursery(0), 0, impl.NuFull},
		{nursery(4, 8, 0), 2, nursery(4, 8, 0, 8, 0), 5, impl.NuOk},
		{nursery(12), -1, nursery(0), 0, impl.NuForm},
		{nursery(12), 3, nursery(0), 0, impl.NuForm},
		{nursery(2, 8, 0), 3, nursery(0), 0, impl.NuForm},
		{nursery(2, 8, 0), -1, nursery(0), 0, impl.NuForm},
		{nursery(1), 3, nursery(0), 0, impl.NuBad},
	} {
		n, ref, code := impl.YoungAlloc(types, r.n, r.kind)
		if !sameNursery(n, r.want) || ref != r.ref || code != r.code {
			t.Errorf("YoungAlloc(%v, %d) = %v, %d, %d", r.n, r.kind, n, ref, code)
		}
	}
	for _, e := range edges {
		if n, ref, code := impl.YoungAlloc(types, nursery(12), e); !sameNursery(n, impl.Nursery{}) || ref != 0 || code != impl.NuForm {
			t.Errorf("YoungAlloc of type %d = %v, %d, %d", e, n, ref, code)
		}
	}
	eight := []string{"i", "i", "i", "i", "i", "i", "i", strings.Repeat("r", 23)}
	if n, ref, code := impl.YoungAlloc(eight, nursery(24), 7); !sameNursery(n, nursery(24, append([]int64{28}, make([]int64, 23)...)...)) || ref != 1 || code != impl.NuOk {
		t.Errorf("YoungAlloc of the greatest type = %v, %d, %d", n, ref, code)
	}
}

// TestP8AllocatedUntilFull: the greatest nursery takes two hundred of the smallest, and no more.
func TestP8AllocatedUntilFull(t *testing.T) {
	types := []string{"r"}
	n := nursery(400)
	for i := range int64(200) {
		m, ref, code := impl.YoungAlloc(types, n, 0)
		if code != impl.NuOk || ref != 4*i+1 {
			t.Fatalf("object %d: %d, %d", i, ref, code)
		}
		n, _ = impl.YoungSet(types, m, ref, 0, ref)
		if v := n.Words[len(n.Words)-1]; v != ref {
			t.Fatalf("object %d names %d", i, v)
		}
	}
	holdNursery(t, types, n)
	if m, ref, code := impl.YoungAlloc(types, n, 0); code != impl.NuFull || ref != 0 || !sameNursery(m, impl.Nursery{}) {
		t.Errorf("one more: %v, %d, %d", m, ref, code)
	}
	m, _ := holdMinor(t, types, n, []int64{797, 1})
	if !sameNursery(m, nursery(400, 1, 1, 1, 5)) {
		t.Errorf("Minor = %v", m)
	}
}

// TestP8GreatestRing: two hundred objects, each of which names the one ahead of it, are all copied.
func TestP8GreatestRing(t *testing.T) {
	types := []string{"r"}
	n, want := nursery(400), nursery(400)
	for i := range int64(200) {
		n.Words = append(n.Words, 2, 4*((i+199)%200)+1)
		want.Words = append(want.Words, 3, 4*((i+1)%200)+1)
	}
	m, moved := holdMinor(t, types, n, []int64{401, 0, 405})
	if len(m.Words) != 400 || !sameNumbers(moved, []int64{1, 0, 5}) {
		t.Errorf("Minor = %v, %v", m, moved)
	}
	if m, moved = holdMinor(t, types, n, []int64{401}); !sameNursery(m, want) || !sameNumbers(moved, []int64{1}) {
		t.Errorf("Minor = %v, %v", m, moved)
	}
}

func TestP8YoungObjects(t *testing.T) {
	types := []string{"ir", "rri", "i"}
	n := nursery(12, 3, 5, 7, 6, 2, 1, 9, 8, 4)
	for ref, want := range map[int64]impl.Obj{1: node(0, 5, 7), 7: node(1, 2, 1, 9), 15: node(2, 4)} {
		if o, ok := impl.YoungObject(types, n, ref); !ok || !sameObj(o, want) {
			t.Errorf("YoungObject(%d) = %v, %v", ref, o, ok)
		}
	}
	for _, ref := range append([]int64{0, 2, 6, 14, 3, 5, 9, 11, 13, 17, 19, 21, 23, 25, 254, 256, 799, 801, 1<<32 + 1}, edges...) {
		if o, ok := impl.YoungObject(types, n, ref); ok || !sameObj(o, impl.Obj{}) {
			t.Errorf("YoungObject(%d) = %v, %v", ref, o, ok)
		}
		for _, i := range []int64{0, 1} {
			if m, ok := impl.YoungSet(types, n, ref, i, 0); ok || !sameNursery(m, impl.Nursery{}) {
				t.Errorf("YoungSet(%d, %d) = %v, %v", ref, i, m, ok)
			}
		}
	}
}

func TestP8YoungSet(t *testing.T) {
	types := []string{"ir", "rri", "i"}
	n := nursery(12, 3, 5, 7, 6, 2, 1, 9, 8, 4)
	fields := map[int64]string{1: "ir", 7: "rri", 15: "i"}
	numbers := append([]int64{0, 1, 7, 15, 2, 128, 254, 3, 5, 9, 11, 13, 17, 19, 21, 25, 255, 256, 257, 799, 800, 801}, edges...)
	mayName := map[int64]bool{0: true, 1: true, 7: true, 15: true, 2: true, 128: true, 254: true}
	for ref, kinds := range fields {
		for _, i := range append([]int64{0, 1, 2, 3, 4, 23}, edges...) {
			for _, v := range numbers {
				want := impl.Nursery{}
				right := i >= 0 && i < int64(len(kinds)) && (kinds[i] == 'i' || mayName[v])
				if right {
					want = nursery(12, slices.Clone(n.Words)...)
					want.Words[ref/2+1+i] = v
				}
				if m, ok := impl.YoungSet(types, n, ref, i, v); ok != right || !sameNursery(m, want) {
					t.Errorf("YoungSet(%d, %d, %d) = %v, %v", ref, i, v, m, ok)
				}
			}
		}
	}
}

func TestP8OrderOfClosure(t *testing.T) {
	types := []string{"ir", "rri", "i"}
	// Words 0, 4, 7, 11 and 14, that is 1, 9, 15, 23 and 29, name each other in rings; 35 is alone.
	n := nursery(20, 4, 29, 15, 8, 0, 1, 1, 5, 23, 9, 0, 2, 2, 20, 3, 3, 9, 11, 77)
	for _, r := range []struct{ roots, want []int64 }{
		{nil, nil},
		{[]int64{0, 2, 254, 0}, nil},
		{[]int64{1}, []int64{1, 29, 15, 9, 23}},
		{[]int64{15}, []int64{15, 23, 9, 1, 29}},
		{[]int64{15, 1}, []int64{15, 1, 23, 9, 29}},
		{[]int64{23}, []int64{23}},
		{[]int64{35}, []int64{35}},
		{[]int64{35, 0, 23, 35, 23, 254, 35}, []int64{35, 23}},
		{[]int64{9, 35}, []int64{9, 35, 1, 29, 15, 23}},
		{manyRefs(400, 23), []int64{23}},
		{append(manyRefs(399, 254), 35), []int64{35}},
	} {
		if l, ok := impl.YoungClosure(types, n, r.roots); !ok || !sameNumbers(l, r.want) {
			t.Errorf("YoungClosure(%v) = %v, %v, want %v", r.roots, l, ok, r.want)
		}
		holdMinor(t, types, n, r.roots)
	}
}

func TestP8WrongRoots(t *testing.T) {
	types := []string{"ir", "rri", "i"}
	n := nursery(12, 3, 5, 7, 6, 2, 1, 9, 8, 4)
	for _, ref := range append([]int64{3, 5, 9, 13, 17, 19, 25, 256, 799, 801, -2, 1<<32 + 1}, edges...) {
		for _, roots := range [][]int64{{ref}, {1, 7, ref}, {ref, 1}, append(manyRefs(399, 1), ref)} {
			noClosure(t, "a root", types, n, roots)
		}
	}
	for _, ref := range []int64{0, 1, 2, 254} {
		noClosure(t, "401 roots", types, n, manyRefs(401, ref))
		holdMinor(t, types, n, manyRefs(400, ref))
	}
	noClosure(t, "an empty nursery", types, nursery(12), []int64{1})
	holdMinor(t, types, nursery(12), []int64{0, 2, 254})
}

func TestP8Collections(t *testing.T) {
	types := []string{"ir", "rri", "i"}
	// Words 0 and 9 name each other, 3 names itself and an old line, and nobody names 7.
	n := nursery(16, 0, 50, 19, 5, 7, 254, -3, 10, 60, 3, 70, 1, 2, 80, 0)
	for _, r := range []struct {
		roots, words, moved []int64
	}{
		{nil, nil, nil},
		{[]int64{0, 254, 2}, nil, []int64{0, 254, 2}},
		{[]int64{19}, []int64{3, 70, 7, 1, 50, 1}, []int64{1}},
		{[]int64{7, 0, 1, 7}, []int64{6, 1, 254, -3, 1, 50, 15, 3, 70, 9}, []int64{1, 0, 9, 1}},
		{[]int64{15, 25}, []int64{11, 60, 3, 80, 0}, []int64{1, 5}},
	} {
		m, moved, ok := impl.Minor(types, n, r.roots)
		if !ok || !sameNursery(m, nursery(16, r.words...)) || !sameNumbers(moved, r.moved) {
			t.Errorf("Minor(%v) = %v, %v, %v", r.roots, m, moved, ok)
		}
		holdMinor(t, types, n, r.roots)
	}
}

// TestP8CollectedAgainAndAgain: objects grow older up to 3, and stay where they are.
func TestP8CollectedAgainAndAgain(t *testing.T) {
	types := []string{"ir", "rri", "i"}
	n, roots := nursery(16, 0, 50, 15, 8, 60, 8, 61, 0, 70, 1), []int64{15, 11}
	for round := int64(1); round <= 5; round++ {
		n, roots = holdMinor(t, types, n, roots)
		age := min(round, 3)
		if !sameNursery(n, nursery(16, age, 70, 11, 8+age, 61, age, 50, 1)) || !sameNumbers(roots, []int64{1, 7}) {
			t.Errorf("round %d: %v, %v", round, n, roots)
		}
	}
	n, ref, _ := impl.YoungAlloc(types, n, 2)
	n, _ = holdMinor(t, types, n, []int64{roots[1], ref})
	if l := impl.Ages(types, n); !sameNumbers(l, []int64{0, 1, 0, 1}) {
		t.Errorf("Ages = %v", l)
	}
}

// TestP8MixedWork: objects that are made, written and collected are as a graph of their own says.
func TestP8MixedWork(t *testing.T) {
	d := &dice{81}
	types := []string{"ir", "rri", "i"}
	for range 60 {
		n := nursery(12 + d.below(60))
		roots := make([]int64, 5)
		for range 80 {
			slot := d.below(5)
			switch d.below(5) {
			case 0, 1:
				m, ref, code := impl.YoungAlloc(types, n, d.below(3))
				if code == impl.NuOk {
					n, roots[slot] = m, ref
				}
			case 2, 3:
				n = d.written(t, types, n, roots[slot])
			case 4:
				n, roots = holdMinor(t, types, n, roots)
			}
		}
		holdNursery(t, types, n)
		holdMinor(t, types, n, roots)
	}
}

// written sets a field of the object of ref, where there is one, and looks whether it has it.
func (d *dice) written(t *testing.T, types []string, n impl.Nursery, ref int64) impl.Nursery {
	t.Helper()
	o, ok := impl.YoungObject(types, n, ref)
	if !ok {
		return n
	}
	i := d.below(int64(len(o.Vals)))
	v := d.someRoots(types, n, 1)[0]
	m, ok := impl.YoungSet(types, n, ref, i, v)
	o.Vals[i] = v
	if now, there := impl.YoungObject(types, m, ref); !ok || !there || !sameObj(now, o) {
		t.Fatalf("YoungSet(%v, %d, %d, %d) = %v, %v", n, ref, i, v, m, ok)
	}
	return m
}

func TestP17ArgumentsOfNurseriesStay(t *testing.T) {
	types, allTypes := roomyTexts([]string{"ir", "rri", "i"})
	words, allWords := roomyNumbers([]int64{0, 50, 19, 5, 7, 254, -3, 10, 60, 3, 70, 1})
	roots, allRoots := roomyNumbers([]int64{7, 0, 1})
	wordsBefore, rootsBefore := slices.Clone(allWords), slices.Clone(allRoots)
	n := impl.Nursery{Size: 20, Words: words}
	ask := func() string {
		a, ref, code := impl.YoungAlloc(types, n, 2)
		o, _ := impl.YoungObject(types, n, 7)
		s, _ := impl.YoungSet(types, n, 7, 2, 8)
		c, _ := impl.YoungClosure(types, n, roots)
		m, moved, _ := impl.Minor(types, n, roots)
		text := strconv.FormatBool(impl.NurseryOk(types, n)) + numbersText([]int64{a.Size, ref, code, o.Type, s.Size, m.Size})
		for _, l := range [][]int64{a.Words, o.Vals, s.Words, c, m.Words, moved, impl.Starts(types, n), impl.Ages(types, n)} {
			text += numbersText(l) + ";"
			spoilNumbers(l)
		}
		return text
	}
	first := ask()
	if again := ask(); again != first {
		t.Errorf("first %s, then %s", first, again)
	}
	if !sameNumbers(allWords, wordsBefore) || !sameNumbers(allRoots, rootsBefore) {
		t.Errorf("words %v, roots %v", allWords, allRoots)
	}
	if !sameTexts(allTypes, []string{"ir", "rri", "i", "spare", "spare", "spare"}) {
		t.Errorf("types %q", allTypes)
	}
}

// TestP17NothingMovesIsNewMemory: a collection that moves nothing answers lists of its own.
func TestP17NothingMovesIsNewMemory(t *testing.T) {
	types := []string{"i"}
	n, roots := nursery(4, 3, 5), []int64{1, 0}
	m, moved, ok := impl.Minor(types, n, roots)
	if !ok || !sameNursery(m, n) || !sameNumbers(moved, roots) {
		t.Fatalf("Minor = %v, %v, %v", m, moved, ok)
	}
	spoilNumbers(m.Words)
	spoilNumbers(moved)
	if !sameNumbers(n.Words, []int64{3, 5}) || !sameNumbers(roots, []int64{1, 0}) {
		t.Errorf("words %v, roots %v", n.Words, roots)
	}
}
