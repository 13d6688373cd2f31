package tests

import (
	"math"
	"strings"
	"testing"

	"loop.example/g00648/impl"
)

func TestP4ReferencesOfPlaces(t *testing.T) {
	for n := int64(-300); n <= 900; n++ {
		old, young := int64(0), int64(0)
		if n >= 1 && n <= 127 {
			old = 2 * n
		}
		if n >= 0 && n <= 399 {
			young = 2*n + 1
		}
		if got := impl.OldRef(n); got != old {
			t.Errorf("OldRef(%d) = %d", n, got)
		}
		if got := impl.YoungRef(n); got != young {
			t.Errorf("YoungRef(%d) = %d", n, got)
		}
	}
	for _, e := range append([]int64{1<<62 + 1, 1<<63 - 1, -1 << 62, 1<<32 + 5}, edges...) {
		if impl.OldRef(e) != 0 || impl.YoungRef(e) != 0 {
			t.Errorf("OldRef(%d) = %d, YoungRef = %d", e, impl.OldRef(e), impl.YoungRef(e))
		}
	}
}

func TestP4ReferencesAreToldApart(t *testing.T) {
	kinds := map[int64]int64{0: 0}
	places := map[int64]int64{}
	for n := int64(1); n <= 127; n++ {
		kinds[2*n], places[2*n] = 1, n
	}
	for n := int64(0); n <= 399; n++ {
		kinds[2*n+1], places[2*n+1] = 2, n
	}
	numbers := append([]int64{1<<32 + 2, 1<<32 + 3, 1 << 62, 1<<62 + 1}, edges...)
	for n := int64(-900); n <= 1700; n++ {
		numbers = append(numbers, n)
	}
	for _, n := range numbers {
		kind, ok := kinds[n]
		if !ok {
			kind = -1
		}
		place, ok := places[n]
		if !ok {
			place = -1
		}
		if impl.RefKind(n) != kind || impl.PlaceOf(n) != place {
			t.Errorf("%d: RefKind = %d, PlaceOf = %d, want %d, %d", n, impl.RefKind(n), impl.PlaceOf(n), kind, place)
		}
	}
}

// anyRef is nothing, old or young.
func (d *dice) anyRef() int64 {
	switch d.below(3) {
	case 0:
		return 0
	case 1:
		return impl.OldRef(1 + d.below(127))
	}
	return impl.YoungRef(d.below(400))
}

// anyObject has values at the ends of their ranges, too.
func (d *dice) anyObject(types []string) impl.Obj {
	o := impl.Obj{Type: d.below(int64(len(types)))}
	for _, kind := range types[o.Type] {
		v := []int64{0, -1, math.MaxInt64, math.MinInt64, d.below(1 << 30), 256}[d.below(6)]
		if kind == 'r' {
			v = d.anyRef()
		}
		o.Vals = append(o.Vals, v)
	}
	return o
}

// rightObject holds an object against its bytes, word by word.
func rightObject(t *testing.T, types []string, o impl.Obj) {
	t.Helper()
	want := impl.WordBytes(o.Type + 1)
	for _, v := range o.Vals {
		want += impl.WordBytes(v)
	}
	for len(want)%64 != 0 {
		want += "\x00"
	}
	if s := impl.ObjectBytes(types, o); !impl.ObjOk(types, o) || s != want {
		t.Errorf("%v of %q: %v, %q", o, types, impl.ObjOk(types, o), s)
	}
	if back, ok := impl.ReadObject(types, want); !ok || !sameObj(back, o) {
		t.Errorf("%v of %q: ReadObject = %v, %v", o, types, back, ok)
	}
}

func TestP4ObjectsComeBack(t *testing.T) {
	d := &dice{40}
	for n := int64(1); n <= 23; n++ {
		types := []string{strings.Repeat("r", int(n)), strings.Repeat("i", int(n)), d.kinds(n)}
		for range 20 {
			rightObject(t, types, d.anyObject(types))
		}
	}
	for range 300 {
		types := d.types(1 + d.below(12))
		rightObject(t, types, d.anyObject(types))
	}
	last := strings.Split("i i i i i i i i i i i r", " ")
	rightObject(t, last, impl.Obj{Type: 11, Vals: []int64{799}})
}

func TestP4ObjectsThatJustFillTheirLines(t *testing.T) {
	for fields, lines := range map[int]int{7: 1, 8: 2, 15: 2, 16: 3, 23: 3} {
		types := []string{strings.Repeat("i", fields)}
		vals := make([]int64, fields)
		for i := range vals {
			vals[i] = -1
		}
		s := impl.ObjectBytes(types, impl.Obj{Vals: vals})
		if len(s) != 64*lines {
			t.Errorf("%d fields: %d bytes", fields, len(s))
		}
		rightObject(t, types, impl.Obj{Vals: vals})
		for _, wrong := range []string{s[:len(s)-64], s + noughts(64), s[:len(s)-1], s + "\x00", s[:len(s)-8]} {
			wrongBytes(t, types, wrong)
		}
	}
}

func wrongBytes(t *testing.T, types []string, s string) {
	t.Helper()
	if o, ok := impl.ReadObject(types, s); ok || !sameObj(o, impl.Obj{}) {
		t.Errorf("ReadObject(%q, %q) = %v, %v", types, s, o, ok)
	}
}

func wrongObject(t *testing.T, types []string, o impl.Obj) {
	t.Helper()
	if impl.ObjOk(types, o) || impl.ObjectBytes(types, o) != "" {
		t.Errorf("%v of %q: %v, %q", o, types, impl.ObjOk(types, o), impl.ObjectBytes(types, o))
	}
	if f := impl.Forwarded(types, o, nil, nil); !sameObj(f, impl.Obj{}) {
		t.Errorf("%v of %q: Forwarded = %v", o, types, f)
	}
}

func TestP4WrongObjects(t *testing.T) {
	types := []string{"ir", "rri"}
	for _, o := range []impl.Obj{
		{}, {Type: 2, Vals: []int64{5, 0}}, {Type: -1, Vals: []int64{5, 0}}, {Type: 1, Vals: []int64{0, 0}},
		{Vals: []int64{5}}, {Vals: []int64{5, 0, 0}}, {Type: 1, Vals: []int64{0, 0, 0, 0}},
		{Vals: []int64{5, -1}}, {Vals: []int64{5, -2}}, {Vals: []int64{5, 256}}, {Vals: []int64{5, 801}}, {Vals: []int64{5, 1 << 40}},
		{Type: 1, Vals: []int64{256, 0, 0}}, {Type: 1, Vals: []int64{0, 256, 0}},
	} {
		wrongObject(t, types, o)
	}
	for _, e := range edges {
		wrongObject(t, types, impl.Obj{Type: e, Vals: []int64{5, 0}})
		wrongObject(t, types, impl.Obj{Vals: []int64{5, e}})
	}
	for _, l := range wrongTypes() {
		wrongObject(t, l, impl.Obj{Vals: []int64{0}})
		wrongObject(t, l, impl.Obj{})
		wrongBytes(t, l, impl.WordBytes(1)+noughts(56))
	}
}

func TestP4WrongBytesOfObjects(t *testing.T) {
	types := []string{"ir", "rri", strings.Repeat("i", 15), strings.Repeat("r", 16)}
	for _, s := range []string{"", "x", impl.WordBytes(1), noughts(63), noughts(64), noughts(65), noughts(128), noughts(256), impl.WordBytes(1) + noughts(55)} {
		wrongBytes(t, types, s)
	}
	for _, mark := range append([]int64{0, 5, 6, 255, 1<<32 + 1, 1<<56 + 1}, edges...) {
		wrongBytes(t, types, impl.WordBytes(mark)+noughts(56))
	}
	s := impl.ObjectBytes(types, impl.Obj{Vals: []int64{5, 18}})
	for at := 24; at < 64; at++ {
		wrongBytes(t, types, s[:at]+"\x01"+s[at+1:])
	}
	for _, ref := range append([]int64{256, 801, -1}, edges...) {
		wrongBytes(t, types, impl.WordBytes(1)+impl.WordBytes(5)+impl.WordBytes(ref)+noughts(40))
	}
	long := impl.ObjectBytes(types, impl.Obj{Type: 3, Vals: make([]int64, 16)})
	for at := 17 * 8; at < 192; at++ {
		wrongBytes(t, types, long[:at]+"\x80"+long[at+1:])
	}
	wrongBytes(t, types, impl.WordBytes(3)+noughts(56))
	wrongBytes(t, types, impl.WordBytes(1)+noughts(120))
	wrongBytes(t, types, impl.WordBytes(4)+noughts(120))
}

// manyRefs has ref n times.
func manyRefs(n int, ref int64) []int64 {
	l := make([]int64, n)
	for i := range l {
		l[i] = ref
	}
	return l
}

func TestP4Forwarded(t *testing.T) {
	types := []string{"ir", "rri"}
	pair := impl.Obj{Type: 1, Vals: []int64{7, 9, 7}}
	for _, r := range []struct{ from, to, want []int64 }{
		{nil, nil, []int64{7, 9, 7}},
		{[]int64{7}, []int64{20}, []int64{20, 9, 7}},
		{[]int64{7, 7}, []int64{20, 22}, []int64{20, 9, 7}},
		{[]int64{7, 9}, []int64{9, 7}, []int64{9, 7, 7}},
		{[]int64{9, 7}, []int64{0, 0}, []int64{0, 0, 7}},
		{[]int64{9, 20, 7}, []int64{20, 22, 799}, []int64{799, 20, 7}},
		{[]int64{0, 5, -7, 1 << 40}, []int64{2, 2, 2, 2}, []int64{7, 9, 7}},
		{append(manyRefs(399, 5), 9), manyRefs(400, 254), []int64{7, 254, 7}},
	} {
		if f := impl.Forwarded(types, pair, r.from, r.to); f.Type != 1 || !sameNumbers(f.Vals, r.want) {
			t.Errorf("Forwarded(%v, %v) = %v, want %v", r.from, r.to, f, r.want)
		}
	}
	empty := impl.Obj{Type: 1, Vals: []int64{0, 7, 0}}
	if f := impl.Forwarded(types, empty, []int64{0}, []int64{30}); f.Type != 1 || !sameNumbers(f.Vals, []int64{30, 7, 0}) {
		t.Errorf("nothing forwarded: %v", f)
	}
}

func TestP4WrongForwarding(t *testing.T) {
	types := []string{"ir", "rri"}
	o := impl.Obj{Vals: []int64{5, 7}}
	for _, r := range []struct{ from, to []int64 }{
		{[]int64{7}, nil}, {nil, []int64{7}}, {[]int64{7, 9}, []int64{7}}, {[]int64{7}, []int64{20, 22}},
		{manyRefs(401, 9), manyRefs(401, 20)}, {manyRefs(400, 9), manyRefs(401, 20)}, {manyRefs(401, 9), manyRefs(400, 20)},
		{[]int64{7}, []int64{-1}}, {[]int64{7}, []int64{256}}, {[]int64{7}, []int64{801}},
		{[]int64{9}, []int64{256}}, {[]int64{7, 9}, []int64{20, math.MaxInt64}}, {[]int64{7, 7}, []int64{20, math.MinInt64}},
	} {
		if f := impl.Forwarded(types, o, r.from, r.to); !sameObj(f, impl.Obj{}) {
			t.Errorf("Forwarded(%v, %v) = %v", r.from, r.to, f)
		}
	}
}

func TestP4ForwardedKeepsTypeAndNumbers(t *testing.T) {
	d := &dice{41}
	for range 300 {
		types := d.types(1 + d.below(12))
		o := d.anyObject(types)
		first := map[int64]int64{}
		var from, to []int64
		for range d.below(300) {
			a, b := d.anyRef(), d.anyRef()
			from, to = append(from, a), append(to, b)
			if _, ok := first[a]; !ok {
				first[a] = b
			}
		}
		f := impl.Forwarded(types, o, from, to)
		if f.Type != o.Type || !impl.ObjOk(types, f) {
			t.Fatalf("%v became %v", o, f)
		}
		for i, kind := range types[o.Type] {
			want := o.Vals[i]
			if b, ok := first[want]; ok && kind == 'r' {
				want = b
			}
			if f.Vals[i] != want {
				t.Errorf("value %d of %v became %d, want %d", i, o, f.Vals[i], want)
			}
		}
	}
}

func TestP17ObjectsLeaveTheirArguments(t *testing.T) {
	types, allTypes := roomyTexts([]string{"ir", "rri"})
	vals, allVals := roomyNumbers([]int64{7, 9, 7})
	from, allFrom := roomyNumbers([]int64{7, 9})
	to, allTo := roomyNumbers([]int64{20, 22})
	o := impl.Obj{Type: 1, Vals: vals}
	look := func() [][]int64 {
		return [][]int64{append([]int64(nil), allVals...), append([]int64(nil), allFrom...), append([]int64(nil), allTo...)}
	}
	before, texts := look(), append([]string(nil), allTypes...)
	s := impl.ObjectBytes(types, o)
	impl.ObjOk(types, o)
	f := impl.Forwarded(types, o, from, to)
	still := impl.Forwarded(types, o, nil, nil)
	still.Vals[0] = 1
	f.Vals[1] = 1
	a, _ := impl.ReadObject(types, s)
	a.Vals[0] = 1
	for i, l := range look() {
		if !sameNumbers(l, before[i]) {
			t.Errorf("list %d became %v", i, l)
		}
	}
	if !sameTexts(allTypes, texts) || impl.ObjectBytes(types, o) != s {
		t.Errorf("%q", allTypes)
	}
	if b, ok := impl.ReadObject(types, s); !ok || !sameObj(b, o) {
		t.Errorf("ReadObject = %v, %v", b, ok)
	}
}
