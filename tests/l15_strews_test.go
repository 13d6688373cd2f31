package tests

import (
	"math"
	"runtime"
	"slices"
	"testing"
	"time"

	"loop.example/g00648/impl"
)

func strew(at, kind, a int64) impl.Strew { return impl.Strew{At: at, Kind: kind, A: a} }

// strewnAct is what a Strew puts: all but kind, A and power is zero.
func strewnAct(kind, a int64) impl.Act { return impl.Act{Kind: kind, A: a, Power: -1} }

func mayBeStrewn(kind int64) bool {
	return kind == impl.AcMinor || kind == impl.AcMajor || kind == impl.AcEvict
}

func sameAct(a, b impl.Act) bool {
	return a.Kind == b.Kind && a.A == b.A && a.B == b.B && a.C == b.C && a.Power == b.Power && sameNumbers(a.Keep, b.Keep)
}

func sameActs(a, b []impl.Act) bool { return slices.EqualFunc(a, b, sameAct) }

// fullActs have all fields, none of them as another one's.
func fullActs(n int) []impl.Act {
	var list []impl.Act
	for i := range int64(n) {
		list = append(list, impl.Act{Kind: 1 + i%14, A: 10 + i, B: 100 + i, C: 200 + i, Power: 300 + i, Keep: []int64{i, 2 * i}})
	}
	return list
}

func wantStrewn(t *testing.T, what string, list []impl.Act, where []impl.Strew, want ...impl.Act) {
	t.Helper()
	if got, ok := impl.Strewn(list, where); !ok || !sameActs(got, want) {
		t.Errorf("%s: Strewn = %v %v, want %v", what, got, ok, want)
	}
}

func notStrewn(t *testing.T, what string, list []impl.Act, where ...impl.Strew) {
	t.Helper()
	if got, ok := impl.Strewn(list, where); ok || len(got) != 0 {
		t.Errorf("%s: Strewn = %v %v", what, got, ok)
	}
}

func TestP15PlacesOfStrews(t *testing.T) {
	l := fullActs(3)
	minor, major, evict := strewnAct(impl.AcMinor, 5), strewnAct(impl.AcMajor, 6), strewnAct(impl.AcEvict, 7)
	for _, c := range []struct {
		what  string
		where []impl.Strew
		want  []impl.Act
	}{
		{"nothing", nil, l},
		{"no more than an empty list", []impl.Strew{}, l},
		{"ahead of the first", []impl.Strew{strew(0, impl.AcMinor, 5)}, []impl.Act{minor, l[0], l[1], l[2]}},
		{"between two", []impl.Strew{strew(1, impl.AcMajor, 6)}, []impl.Act{l[0], major, l[1], l[2]}},
		{"ahead of the last", []impl.Strew{strew(2, impl.AcEvict, 7)}, []impl.Act{l[0], l[1], evict, l[2]}},
		{"behind all", []impl.Strew{strew(3, impl.AcMinor, 5)}, []impl.Act{l[0], l[1], l[2], minor}},
		{"several at one place", []impl.Strew{strew(1, impl.AcEvict, 7), strew(1, impl.AcMinor, 5), strew(1, impl.AcMajor, 6), strew(1, impl.AcMinor, 5)},
			[]impl.Act{l[0], evict, minor, major, minor, l[1], l[2]}},
		{"several behind all", []impl.Strew{strew(3, impl.AcMajor, 6), strew(3, impl.AcEvict, 7)}, []impl.Act{l[0], l[1], l[2], major, evict}},
		{"everywhere", []impl.Strew{strew(0, impl.AcMajor, 6), strew(1, impl.AcEvict, 7), strew(2, impl.AcMinor, 5), strew(2, impl.AcMajor, 6), strew(3, impl.AcEvict, 7)},
			[]impl.Act{major, l[0], evict, l[1], minor, major, l[2], evict}},
	} {
		wantStrewn(t, c.what, l, c.where, c.want...)
		if got := impl.Stripped(c.want); !sameActs(got, l) {
			t.Errorf("%s: Stripped = %v, want %v", c.what, got, l)
		}
	}
	for _, a := range append([]int64{0, 1, -1, 128}, edges...) {
		for _, kind := range []int64{impl.AcMinor, impl.AcMajor, impl.AcEvict} {
			wantStrewn(t, "any A", nil, []impl.Strew{strew(0, kind, a)}, strewnAct(kind, a))
		}
	}
}

func TestP15NoActs(t *testing.T) {
	for _, none := range [][]impl.Act{nil, {}} {
		wantStrewn(t, "nothing", none, nil)
		wantStrewn(t, "nothing", none, []impl.Strew{})
		wantStrewn(t, "alone", none, []impl.Strew{strew(0, impl.AcMinor, 1), strew(0, impl.AcEvict, 2)}, strewnAct(impl.AcMinor, 1), strewnAct(impl.AcEvict, 2))
		notStrewn(t, "behind no acts", none, strew(1, impl.AcMinor, 0))
		notStrewn(t, "ahead of no acts", none, strew(-1, impl.AcMinor, 0))
		if got := impl.Stripped(none); len(got) != 0 {
			t.Errorf("Stripped of nothing = %v", got)
		}
		if got := impl.Gathered(none, []impl.Answer{}); len(got) != 0 {
			t.Errorf("Gathered of nothing = %v", got)
		}
		if got := impl.Gathered(none, []impl.Answer{{N: 1}}); len(got) != 0 {
			t.Errorf("Gathered of an answer and no act = %v", got)
		}
	}
	if got := impl.Stripped([]impl.Act{strewnAct(impl.AcMinor, 0), strewnAct(impl.AcEvict, 1), strewnAct(impl.AcMajor, 2)}); len(got) != 0 {
		t.Errorf("Stripped of what is strewn alone = %v", got)
	}
}

func TestP15WrongStrews(t *testing.T) {
	l := fullActs(4)
	for _, at := range append([]int64{5, -2}, edges...) {
		notStrewn(t, "no place", l, strew(at, impl.AcMinor, 0))
		notStrewn(t, "no place behind one", l, strew(4, impl.AcMinor, 0), strew(at, impl.AcMinor, 0))
		notStrewn(t, "no place ahead of one", l, strew(at, impl.AcMinor, 0), strew(4, impl.AcMinor, 0))
	}
	for _, kind := range append([]int64{0, 1, 2, 13, impl.AcAbort, impl.AcCrash, 19, 20, 15 + 256, 16 << 32}, edges...) {
		notStrewn(t, "no kind", l, strew(0, kind, 0))
		notStrewn(t, "no kind behind one", l, strew(0, impl.AcMajor, 0), strew(0, kind, 0))
		notStrewn(t, "no kind ahead of one", l, strew(0, kind, 0), strew(0, impl.AcMajor, 0))
	}
	notStrewn(t, "falls by one", l, strew(2, impl.AcMinor, 0), strew(1, impl.AcMinor, 0))
	notStrewn(t, "falls at the end", l, strew(0, impl.AcMinor, 0), strew(4, impl.AcMinor, 0), strew(3, impl.AcMinor, 0))
	notStrewn(t, "falls and rises", l, strew(3, impl.AcMinor, 0), strew(0, impl.AcMinor, 0), strew(3, impl.AcMinor, 0))
	notStrewn(t, "falls from the last to the first", l, strew(4, impl.AcMinor, 0), strew(0, impl.AcMinor, 0))
}

func TestP15LimitsOfStrews(t *testing.T) {
	// As many as there may be, wherever they come from.
	for acts := range mostActs + 1 {
		l := fullActs(acts)
		where := slices.Repeat([]impl.Strew{strew(int64(acts), impl.AcEvict, 3)}, mostActs-acts)
		all := append(slices.Clone(l), slices.Repeat([]impl.Act{strewnAct(impl.AcEvict, 3)}, len(where))...)
		wantStrewn(t, "60", l, where, all...)
		if got := impl.Stripped(all); !sameActs(got, l) {
			t.Errorf("Stripped of 60 = %v, want %v", got, l)
		}
		notStrewn(t, "61", l, append(where, strew(int64(acts), impl.AcMinor, 0))...)
	}
	answers := make([]impl.Answer, mostActs+1)
	for i := range answers {
		answers[i] = impl.Answer{Code: int64(i % 3), N: int64(i)}
	}
	if got := impl.Gathered(fullActs(60), answers[:60]); !slices.Equal(got, answers[:60]) {
		t.Errorf("Gathered of 60 = %v", got)
	}
	for _, a := range []impl.Act{act(impl.AcNew), strewnAct(impl.AcMinor, 0)} {
		if got := impl.Stripped(repeated(61, a)); len(got) != 0 {
			t.Errorf("Stripped of 61 = %v", got)
		}
		if got := impl.Gathered(repeated(61, a), answers); len(got) != 0 {
			t.Errorf("Gathered of 61 = %v", got)
		}
	}
	notStrewn(t, "61 acts", fullActs(61))
	notStrewn(t, "61 acts and one", fullActs(61), strew(0, impl.AcMinor, 0))
	notStrewn(t, "61 alone", nil, slices.Repeat([]impl.Strew{strew(0, impl.AcMinor, 0)}, 61)...)
	notStrewn(t, "very many", fullActs(3), slices.Repeat([]impl.Strew{strew(3, impl.AcMinor, 0)}, 100000)...)
}

// TestP15KindsThatAreStripped: of each kind, those that are none among them.
func TestP15KindsThatAreStripped(t *testing.T) {
	var kinds []int64
	for kind := int64(-2); kind <= 21; kind++ {
		kinds = append(kinds, kind)
	}
	kinds = append(kinds, 16+256, 15<<32)
	kinds = append(kinds, edges...)
	var list, left []impl.Act
	var answers, kept []impl.Answer
	for i, kind := range kinds {
		a := impl.Act{Kind: kind, A: int64(i), Power: 2, Keep: []int64{kind}}
		answer := impl.Answer{Code: 20 + int64(i), N: kind}
		list, answers = append(list, a), append(answers, answer)
		if !mayBeStrewn(kind) {
			left, kept = append(left, a), append(kept, answer)
		}
	}
	if len(list)-len(left) != 3 {
		t.Fatalf("%d kinds are stripped", len(list)-len(left))
	}
	if got := impl.Stripped(list); !sameActs(got, left) {
		t.Errorf("Stripped = %v, want %v", got, left)
	}
	if got := impl.Gathered(list, answers); !slices.Equal(got, kept) {
		t.Errorf("Gathered = %v, want %v", got, kept)
	}
	for _, n := range []int{0, 1, len(answers) - 1} {
		if got := impl.Gathered(list, answers[:n]); len(got) != 0 {
			t.Errorf("Gathered of %d answers = %v", n, got)
		}
	}
	if got := impl.Gathered(list, append(answers, impl.Answer{})); len(got) != 0 {
		t.Errorf("Gathered of an answer too many = %v", got)
	}
}

// someStrews fit acts of this number.
func (d *dice) someStrews(acts int64) []impl.Strew {
	var where []impl.Strew
	for range d.below(mostActs - acts + 1) {
		where = append(where, strew(d.below(acts+1), impl.AcMinor+d.below(3), d.somePlace(128)))
	}
	slices.SortStableFunc(where, func(a, b impl.Strew) int { return int(a.At - b.At) })
	return where
}

// strewnByHand puts the last one first, so that places ahead of it stay.
func strewnByHand(list []impl.Act, where []impl.Strew) []impl.Act {
	all := slices.Clone(list)
	for i := len(where) - 1; i >= 0; i-- {
		all = slices.Insert(all, int(where[i].At), strewnAct(where[i].Kind, where[i].A))
	}
	return all
}

// TestP15AnyStrews: what is strewn among acts, those with collections of their own among them, is stripped off again.
func TestP15AnyStrews(t *testing.T) {
	d := &dice{state: 150}
	for range 3000 {
		var list []impl.Act
		for range d.below(mostActs + 1) {
			a := impl.Act{Kind: d.somePlace(21), A: d.somePlace(9), B: d.below(5), C: d.below(5), Power: d.below(9) - 1}
			for range d.below(4) {
				a.Keep = append(a.Keep, d.below(9))
			}
			list = append(list, a)
		}
		plain := slices.DeleteFunc(slices.Clone(list), func(a impl.Act) bool { return mayBeStrewn(a.Kind) })
		where := d.someStrews(int64(len(list)))
		all := strewnByHand(list, where)
		wantStrewn(t, "any", list, where, all...)
		if got := impl.Stripped(all); !sameActs(got, plain) {
			t.Fatalf("Stripped %v = %v, want %v", all, got, plain)
		}
		var answers, kept []impl.Answer
		for i, a := range all {
			answers = append(answers, impl.Answer{Code: d.below(3), N: int64(i)})
			if !mayBeStrewn(a.Kind) {
				kept = append(kept, answers[i])
			}
		}
		if got := impl.Gathered(all, answers); !slices.Equal(got, kept) {
			t.Fatalf("Gathered %v = %v, want %v", all, got, kept)
		}
	}
}

// TestP15NobodyNotices: what acts answer on a heap with room for all is what they answer among collections.
func TestP15NobodyNotices(t *testing.T) {
	d := &dice{state: 151}
	for range 60 {
		image := d.greatHeap()
		list := d.someWork(image, 40)
		strewn, ok := impl.Strewn(list, d.someStrews(int64(len(list))))
		if !ok {
			t.Fatal("not strewn")
		}
		plain := impl.Stripped(list)
		if !sameActs(impl.Stripped(strewn), plain) {
			t.Fatalf("Stripped %v, want %v", strewn, plain)
		}
		among, alone := impl.HeapPlay(image, strewn), impl.HeapPlay(image, plain)
		if got := impl.Gathered(strewn, among.Answers); !slices.Equal(got, alone.Answers) {
			t.Fatalf("Gathered %v = %v, want %v", strewn, got, alone.Answers)
		}
		wantGraph(t, "now", among.Now, alone.Now)
		wantGraph(t, "safe", among.Safe, alone.Safe)
	}
}

// TestP15NobodyStays: the goroutines of a call have ended soon behind it, those of a refusal, too.
func TestP15NobodyStays(t *testing.T) {
	before := runtime.NumGoroutine()
	l, answers := fullActs(60), make([]impl.Answer, 60)
	for range 200 {
		impl.Strewn(l[:50], []impl.Strew{strew(3, impl.AcMinor, 0), strew(50, impl.AcMajor, 0)})
		impl.Strewn(l, []impl.Strew{strew(3, impl.AcMinor, 0)})
		impl.Strewn(l[:50], []impl.Strew{strew(3, impl.AcMinor, 0), strew(50, impl.AcNew, 0)})
		impl.Stripped(l)
		impl.Stripped(append(l, l[0]))
		impl.Gathered(l, answers)
		impl.Gathered(l, answers[:59])
	}
	for wait := 0; runtime.NumGoroutine() > before; wait++ {
		if wait == 100 {
			t.Fatalf("%d goroutines, %d ahead of the calls", runtime.NumGoroutine(), before)
		}
		time.Sleep(10 * time.Millisecond)
	}
}

// spoilActs writes into all memory of an answer, and behind it.
func spoilActs(l []impl.Act) {
	l = l[:cap(l)]
	for i := range l {
		spoilNumbers(l[i].Keep)
		l[i] = impl.Act{Kind: -99, A: -99}
	}
}

// TestP17ArgumentsOfStrewsStay: nothing is written into acts, Keeps, Strews and answers, nor into the room behind
// them, and what is answered shares none of it, where nothing is put in or taken away, too.
func TestP17ArgumentsOfStrewsStay(t *testing.T) {
	list, look := roomyActs(fullActs(6))
	before := look()
	all := slices.Repeat([]impl.Strew{strew(2, impl.AcMinor, 4)}, 4)
	answers := slices.Repeat([]impl.Answer{{Code: 1, N: 2}}, 9)
	strewn := func(where []impl.Strew) []impl.Act {
		l, _ := impl.Strewn(list, where)
		return l
	}
	for what, ask := range map[string]func() []impl.Act{
		"strewn":          func() []impl.Act { return strewn(all[:3]) },
		"nothing strewn":  func() []impl.Act { return strewn(nil) },
		"stripped":        func() []impl.Act { return impl.Stripped(append(slices.Clone(list), strewnAct(impl.AcMinor, 0))) },
		"nothing to go":   func() []impl.Act { return impl.Stripped(list) },
		"many and no act": func() []impl.Act { l, _ := impl.Strewn(nil, all); return l },
	} {
		first := ask()
		text := actsText(first)
		spoilActs(first)
		if again := actsText(ask()); again != text {
			t.Errorf("%s: first %s, then %s", what, text, again)
		}
		if look() != before {
			t.Errorf("%s: the acts became %s, they were %s", what, look(), before)
		}
	}
	for _, n := range []int{6, 5} {
		got := impl.Gathered(list, answers[:n])
		got = got[:cap(got)]
		for i := range got {
			got[i] = impl.Answer{N: 77}
		}
	}
	if !slices.Equal(all, slices.Repeat([]impl.Strew{strew(2, impl.AcMinor, 4)}, 4)) || !slices.Equal(answers, slices.Repeat([]impl.Answer{{Code: 1, N: 2}}, 9)) || look() != before {
		t.Errorf("strews %v, answers %v, acts %s", all, answers, look())
	}
}

func actsText(l []impl.Act) string {
	text := ""
	for _, a := range l {
		text += numbersText([]int64{a.Kind, a.A, a.B, a.C, a.Power}) + "keep " + numbersText(a.Keep) + ";"
	}
	return text
}

// TestP17KeepsAreApart: acts that shared a Keep do not share it in an answer.
func TestP17KeepsAreApart(t *testing.T) {
	keep := []int64{1, 2, 0, math.MaxInt64}
	list := repeated(5, impl.Act{Kind: impl.AcCrash, Power: 4, Keep: keep[:3]})
	strewn, _ := impl.Strewn(list, []impl.Strew{strew(1, impl.AcMinor, 0)})
	whole, _ := impl.Strewn(list, nil)
	for _, l := range [][]impl.Act{strewn, whole, impl.Stripped(list), impl.Stripped(strewn)} {
		for i := range l {
			before := actsText(slices.Concat(l[:i], l[i+1:]))
			spoilNumbers(l[i].Keep)
			if after := actsText(slices.Concat(l[:i], l[i+1:])); after != before {
				t.Errorf("writing into Keep %d changed %s to %s", i, before, after)
			}
		}
	}
	if !sameNumbers(keep, []int64{1, 2, 0, math.MaxInt64}) {
		t.Errorf("the Keep became %v", keep)
	}
}
