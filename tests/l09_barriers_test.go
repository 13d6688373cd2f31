package tests

import (
	"math"
	"slices"
	"strconv"
	"testing"

	"loop.example/g00648/impl"
)

// A youngWrite is a number in a word of an image.
type youngWrite struct{ word, v int64 }

// withWord is the image with another word.
func withWord(image string, word, v int64) string {
	return image[:8*word] + impl.WordBytes(v) + image[8*word+8:]
}

// wordsImage has these words, and noughts in all others.
func wordsImage(lines int, writes ...youngWrite) string {
	image := noughts(64 * lines)
	for _, w := range writes {
		image = withWord(image, w.word, w.v)
	}
	return image
}

func wrongSets() map[string][]int64 {
	l := map[string][]int64{
		"one below 0":           {-1},
		"one beyond":            {1024},
		"below 0, then more":    {-1, 0, 5},
		"the last is beyond":    {0, 5, 1024},
		"a word twice":          {5, 5},
		"0 twice":               {0, 0},
		"1023 twice":            {1023, 1023},
		"the last twice":        {1, 2, 3, 3},
		"falling":               {5, 3},
		"falling at the end":    {1, 5, 9, 8},
		"the ends":              {1023, 0},
		"all, and 1023 again":   append(linesFrom(0, 1024), 1023),
		"all, and one beyond":   linesFrom(0, 1025),
		"all, and one below 0":  linesFrom(-1, 1024),
		"falling, then beyond":  {9, 3, 1024},
		"below 0, not the last": {3, -1, 9},
	}
	for _, e := range edges {
		l["far away: "+strconv.FormatInt(e, 10)] = []int64{e}
		l["far behind: "+strconv.FormatInt(e, 10)] = []int64{3, e}
		l["far ahead: "+strconv.FormatInt(e, 10)] = []int64{e, 3}
	}
	return l
}

func rightSets() [][]int64 {
	return [][]int64{nil, {}, {0}, {1023}, {0, 1023}, {0, 1}, {1022, 1023}, {3, 9, 10, 500}, {7, 8, 15, 16}, linesFrom(0, 1024), linesFrom(100, 400)}
}

func TestP9SetsThatAreRight(t *testing.T) {
	for _, set := range rightSets() {
		if !impl.SetOk(set) {
			t.Errorf("SetOk(%v) is false", set)
		}
	}
}

func TestP9SetsThatAreNot(t *testing.T) {
	image := noughts(64 * 128)
	for what, set := range wrongSets() {
		if impl.SetOk(set) {
			t.Errorf("%s: it is right", what)
		}
		for _, ref := range []int64{0, 1, 2} {
			if l, ok := impl.Barrier(set, 3, ref); ok || len(l) != 0 {
				t.Errorf("%s: Barrier = %v, %v", what, l, ok)
			}
		}
		if l := impl.CardsOf(set); len(l) != 0 {
			t.Errorf("%s: CardsOf = %v", what, l)
		}
		noYoungWords(t, what, image, set)
		noYoungWords(t, what+", all young", allYoung(128), set)
	}
}

// allYoung is an image in which each word is a young reference, no two next to each other alike.
func allYoung(lines int) string {
	image := ""
	for word := range int64(8 * lines) {
		image += impl.WordBytes(2*(word%400) + 1)
	}
	return image
}

// noYoungWords: this set is not one of the image, and nothing is told.
func noYoungWords(t *testing.T, what string, image string, set []int64) {
	t.Helper()
	if l, ok := impl.YoungWords(image, set); ok || len(l) != 0 {
		t.Errorf("%s: YoungWords = %v, %v", what, l, ok)
	}
	noPatch(t, what, image, set, nil, nil)
	noPatch(t, what, image, set, []int64{1}, []int64{2})
}

func noPatch(t *testing.T, what string, image string, set, from, to []int64) {
	t.Helper()
	if s, ok := impl.Patched(image, set, from, to); ok || s != "" {
		t.Errorf("%s: Patched of %d bytes, %v = %d bytes, %v", what, len(image), set, len(s), ok)
	}
}

func TestP9Barrier(t *testing.T) {
	for _, r := range []struct {
		set       []int64
		word, ref int64
		want      []int64
	}{
		{nil, 0, 1, []int64{0}},
		{nil, 1023, 799, []int64{1023}},
		{nil, 5, 0, nil},
		{nil, 5, 2, nil},
		{[]int64{3, 9}, 5, 7, []int64{3, 5, 9}},
		{[]int64{3, 9}, 0, 7, []int64{0, 3, 9}},
		{[]int64{3, 9}, 1023, 7, []int64{3, 9, 1023}},
		{[]int64{3, 9}, 3, 7, []int64{3, 9}},
		{[]int64{3, 9}, 9, 7, []int64{3, 9}},
		{[]int64{3, 9}, 3, 0, []int64{9}},
		{[]int64{3, 9}, 9, 254, []int64{3}},
		{[]int64{3, 9}, 5, 0, []int64{3, 9}},
		{[]int64{3, 9}, 5, 8, []int64{3, 9}},
		{[]int64{3, 5, 9}, 5, 8, []int64{3, 9}},
		{[]int64{5}, 5, 0, nil},
		{[]int64{0, 1023}, 1023, 2, []int64{0}},
		{[]int64{0, 1023}, 0, 2, []int64{1023}},
		{linesFrom(0, 1024), 1023, 0, linesFrom(0, 1023)},
		{linesFrom(0, 1024), 0, 0, linesFrom(1, 1024)},
		{linesFrom(0, 1024), 700, 701, linesFrom(0, 1024)},
		{linesFrom(0, 1023), 1023, 1, linesFrom(0, 1024)},
	} {
		if l, ok := impl.Barrier(r.set, r.word, r.ref); !ok || !sameNumbers(l, r.want) {
			t.Errorf("Barrier(%v, %d, %d) = %v, %v", r.set, r.word, r.ref, l, ok)
		}
	}
}

// TestP9EveryReference: young ones are remembered, others are not, and what is none is refused.
func TestP9EveryReference(t *testing.T) {
	numbers := append([]int64{1 << 32, 1<<32 + 1, 1<<32 + 2}, edges...)
	for n := int64(-900); n <= 1700; n++ {
		numbers = append(numbers, n)
	}
	for _, set := range [][]int64{nil, {5}, {3, 9}, {3, 5, 9}} {
		for _, ref := range numbers {
			var want []int64
			young := ref >= 1 && ref <= 799 && ref%2 == 1
			right := young || ref >= 0 && ref <= 254 && ref%2 == 0
			if right {
				want = slices.DeleteFunc(slices.Clone(set), func(w int64) bool { return w == 5 })
			}
			if young {
				want = append(want, 5)
				slices.Sort(want)
			}
			if l, ok := impl.Barrier(set, 5, ref); ok != right || !sameNumbers(l, want) {
				t.Errorf("Barrier(%v, 5, %d) = %v, %v", set, ref, l, ok)
			}
		}
	}
}

func TestP9WordsThatAreNone(t *testing.T) {
	for _, word := range append([]int64{1024, 1025, -1, -2, 1 << 32, 1<<32 + 5, 8192}, edges...) {
		for _, set := range [][]int64{nil, {0}, {1023}, {3, 9}} {
			for _, ref := range []int64{0, 2, 1, 799} {
				if l, ok := impl.Barrier(set, word, ref); ok || len(l) != 0 {
					t.Errorf("Barrier(%v, %d, %d) = %v, %v", set, word, ref, l, ok)
				}
			}
		}
	}
}

// TestP9JustWhatWasWritten: after any writes the set has just the words whose last one was young.
func TestP9JustWhatWasWritten(t *testing.T) {
	d := &dice{90}
	for round := range int64(40) {
		room := []int64{4, 16, 200, 1024}[round%4]
		last := map[int64]int64{}
		image := noughts(64 * 128)
		var set []int64
		for range 120 {
			word, ref := d.below(room), d.anyRef()
			next, ok := impl.Barrier(set, word, ref)
			if !ok || !impl.SetOk(next) {
				t.Fatalf("Barrier(%v, %d, %d) = %v, %v", set, word, ref, next, ok)
			}
			set, last[word] = next, ref
			image = withWord(image, word, ref)
		}
		var want, refs []int64
		for word := range int64(1024) {
			if ref, ok := last[word]; ok && ref%2 == 1 {
				want, refs = append(want, word), append(refs, ref)
			}
		}
		if !sameNumbers(set, want) {
			t.Fatalf("the set is %v, want %v", set, want)
		}
		if l, ok := impl.YoungWords(image, set); !ok || !sameNumbers(l, refs) {
			t.Fatalf("YoungWords = %v, %v, want %v", l, ok, refs)
		}
	}
}

func TestP9Cards(t *testing.T) {
	for _, r := range []struct{ set, want []int64 }{
		{nil, nil},
		{[]int64{0}, []int64{0}},
		{[]int64{7}, []int64{0}},
		{[]int64{8}, []int64{1}},
		{[]int64{1023}, []int64{127}},
		{[]int64{1015, 1016}, []int64{126, 127}},
		{[]int64{0, 1023}, []int64{0, 127}},
		{[]int64{16, 17, 20, 23}, []int64{2}},
		{[]int64{1, 7, 8, 30}, []int64{0, 1, 3}},
		{[]int64{7, 8, 15, 16}, []int64{0, 1, 2}},
		{linesFrom(0, 1024), linesFrom(0, 128)},
		{linesFrom(100, 400), linesFrom(12, 50)},
	} {
		if l := impl.CardsOf(r.set); !sameNumbers(l, r.want) {
			t.Errorf("CardsOf(%v) = %v", r.set, l)
		}
	}
	d := &dice{91}
	for range 200 {
		set := d.someSet(1+d.below(1024), 1+d.below(20))
		var want []int64
		for n := range int64(128) {
			if slices.ContainsFunc(set, func(w int64) bool { return w >= 8*n && w < 8*n+8 }) {
				want = append(want, n)
			}
		}
		if l := impl.CardsOf(set); !sameNumbers(l, want) {
			t.Errorf("CardsOf(%v) = %v, want %v", set, l, want)
		}
	}
}

// someSet has words below room, each at most spread behind the last one.
func (d *dice) someSet(room, spread int64) []int64 {
	var set []int64
	for word := d.below(spread); word < room; word += 1 + d.below(spread) {
		set = append(set, word)
	}
	return set
}

func TestP9YoungWords(t *testing.T) {
	image := wordsImage(3, youngWrite{0, 1}, youngWrite{1, 799}, youngWrite{7, 3}, youngWrite{8, 3}, youngWrite{23, 401}, youngWrite{9, 2}, youngWrite{10, 801})
	for _, r := range []struct{ set, want []int64 }{
		{nil, nil},
		{[]int64{0}, []int64{1}},
		{[]int64{1}, []int64{799}},
		{[]int64{0, 1, 7, 8, 23}, []int64{1, 799, 3, 3, 401}},
		{[]int64{7, 8}, []int64{3, 3}},
		{[]int64{23}, []int64{401}},
	} {
		if l, ok := impl.YoungWords(image, r.set); !ok || !sameNumbers(l, r.want) {
			t.Errorf("YoungWords(%v) = %v, %v", r.set, l, ok)
		}
	}
	for _, set := range [][]int64{{2}, {9}, {10}, {22}, {24}, {0, 2}, {0, 9}, {9, 23}, {0, 1, 7, 8, 10, 23}, {23, 24}, {24, 25}, {1023}, {0, 1023}} {
		noYoungWords(t, "the set "+numbersText(set), image, set)
	}
}

// TestP9EveryWordOfAnImage: each word is asked for alone, up to the image's last one and behind it.
func TestP9EveryWordOfAnImage(t *testing.T) {
	for _, lines := range []int{1, 2, 12, 127, 128} {
		image := allYoung(lines)
		for word := range int64(1026) {
			set := []int64{word}
			if word >= int64(8*lines) {
				noYoungWords(t, "behind the end", image, set)
				continue
			}
			if l, ok := impl.YoungWords(image, set); !ok || !sameNumbers(l, []int64{2*(word%400) + 1}) {
				t.Errorf("%d lines: YoungWords(%v) = %v, %v", lines, set, l, ok)
			}
			s, ok := impl.Patched(image, set, []int64{2*(word%400) + 1}, []int64{254})
			if !ok || s != withWord(image, word, 254) {
				t.Errorf("%d lines: Patched(%v) is not so: %v", lines, set, ok)
			}
		}
		all := linesFrom(0, int64(8*lines))
		if l, ok := impl.YoungWords(image, all); !ok || len(l) != 8*lines || l[8*lines-1] != 2*(int64(8*lines-1)%400)+1 {
			t.Errorf("%d lines: YoungWords of all = %v, %v", lines, l, ok)
		}
	}
}

func TestP9WordsThatAreNotYoung(t *testing.T) {
	numbers := append([]int64{0, 2, 254, 256, 800, 801, 803, -1, -3, 1<<32 + 1, 1 << 32, 1 << 56, 1<<56 + 1, math.MaxInt64}, edges...)
	for _, v := range numbers {
		image := wordsImage(2, youngWrite{3, 5}, youngWrite{7, v}, youngWrite{15, 9})
		for _, set := range [][]int64{{7}, {3, 7}, {7, 15}, {3, 7, 15}} {
			noYoungWords(t, "a word has "+strconv.FormatInt(v, 10), image, set)
		}
		if l, ok := impl.YoungWords(image, []int64{3, 15}); !ok || !sameNumbers(l, []int64{5, 9}) {
			t.Errorf("the others, beside %d: %v, %v", v, l, ok)
		}
	}
}

func TestP9ImagesOfOtherLengths(t *testing.T) {
	long := allYoung(130)
	for n := 0; n <= len(long); n++ {
		if n > 300 && n < 128*64-70 && n%64 > 1 && n%64 < 63 {
			continue
		}
		image := long[:n]
		right := n%64 == 0 && n >= 64 && n <= 128*64
		if l, ok := impl.YoungWords(image, nil); ok != right || len(l) != 0 {
			t.Errorf("%d bytes: YoungWords = %v, %v", n, l, ok)
		}
		if !right {
			noYoungWords(t, strconv.Itoa(n)+" bytes", image, []int64{0})
			noYoungWords(t, strconv.Itoa(n)+" bytes", image, nil)
			continue
		}
		if s, ok := impl.Patched(image, nil, []int64{1}, []int64{2}); !ok || s != image {
			t.Errorf("%d bytes: Patched = %d bytes, %v", n, len(s), ok)
		}
	}
}

func TestP9Patched(t *testing.T) {
	image := wordsImage(3, youngWrite{0, 1}, youngWrite{1, 799}, youngWrite{7, 3}, youngWrite{8, 3}, youngWrite{9, 3}, youngWrite{23, 401})
	set := []int64{0, 1, 7, 8, 23}
	for _, r := range []struct {
		set, from, to []int64
		writes        []youngWrite
	}{
		{set, nil, nil, nil},
		{nil, []int64{1, 3}, []int64{2, 4}, nil},
		{set, []int64{5, 7}, []int64{2, 4}, nil},
		{set, []int64{1}, []int64{20}, []youngWrite{{0, 20}}},
		{set, []int64{799}, []int64{0}, []youngWrite{{1, 0}}},
		{set, []int64{3}, []int64{254}, []youngWrite{{7, 254}, {8, 254}}},
		{set, []int64{401, 1}, []int64{1, 401}, []youngWrite{{0, 401}, {23, 1}}},
		{set, []int64{3, 3}, []int64{10, 12}, []youngWrite{{7, 10}, {8, 10}}},
		{set, []int64{9, 3, 3, 1}, []int64{2, 0, 12, 3}, []youngWrite{{7, 0}, {8, 0}, {0, 3}}},
		{set, []int64{1, 3}, []int64{3, 5}, []youngWrite{{0, 3}, {7, 5}, {8, 5}}},
		{set, []int64{3}, []int64{3}, nil},
		{[]int64{7}, []int64{3}, []int64{10}, []youngWrite{{7, 10}}},
		{set, []int64{0, 2, -1, 801, math.MinInt64, 401}, []int64{2, 2, 2, 2, 2, 799}, []youngWrite{{23, 799}}},
		{set, append(manyRefs(399, 5), 3), append(manyRefs(399, 8), 10), []youngWrite{{7, 10}, {8, 10}}},
		{set, manyRefs(400, 1), append([]int64{30}, manyRefs(399, 8)...), []youngWrite{{0, 30}}},
	} {
		want := image
		for _, w := range r.writes {
			want = withWord(want, w.word, w.v)
		}
		if s, ok := impl.Patched(image, r.set, r.from, r.to); !ok || s != want {
			t.Errorf("Patched(%v, %v, %v) = %q, %v, want %q", r.set, r.from, r.to, s, ok, want)
		}
	}
}

func TestP9WrongPatches(t *testing.T) {
	image := wordsImage(1, youngWrite{2, 5})
	for _, set := range [][]int64{nil, {2}} {
		noPatch(t, "401", image, set, manyRefs(401, 5), manyRefs(401, 8))
		noPatch(t, "401 that are nothing", image, set, manyRefs(401, 0), manyRefs(401, 0))
		noPatch(t, "400 and 401", image, set, manyRefs(400, 5), manyRefs(401, 8))
		noPatch(t, "401 and 400", image, set, manyRefs(401, 5), manyRefs(400, 8))
		noPatch(t, "from alone", image, set, []int64{5}, nil)
		noPatch(t, "to alone", image, set, nil, []int64{8})
		noPatch(t, "one more in from", image, set, []int64{5, 7}, []int64{8})
		noPatch(t, "one more in to", image, set, []int64{5}, []int64{8, 10})
		for _, v := range append([]int64{-2, 256, 258, 801, 1 << 32, 1<<32 + 1}, edges...) {
			noPatch(t, "to has no reference", image, set, []int64{5}, []int64{v})
			noPatch(t, "to has no reference, first", image, set, []int64{9, 5}, []int64{v, 8})
			noPatch(t, "to has no reference, last", image, set, []int64{5, 9}, []int64{8, v})
		}
	}
}

// TestP9PatchedAnywhere: the words of the set that from has are turned, and no other byte is.
func TestP9PatchedAnywhere(t *testing.T) {
	d := &dice{92}
	for range 150 {
		lines := 1 + d.below(128)
		set := d.someSet(8*lines, 1+d.below(30))
		image := d.text(64 * lines)
		var refs []int64
		for _, word := range set {
			refs = append(refs, impl.YoungRef(d.below(1+d.below(400))))
			image = withWord(image, word, refs[len(refs)-1])
		}
		var from, to []int64
		for range d.below(401) {
			from, to = append(from, impl.YoungRef(d.below(400))), append(to, d.anyRef())
		}
		want := image
		for i, word := range set {
			if at := slices.Index(from, refs[i]); at >= 0 {
				want = withWord(want, word, to[at])
			}
		}
		if l, ok := impl.YoungWords(image, set); !ok || !sameNumbers(l, refs) {
			t.Fatalf("%d lines: YoungWords(%v) = %v, %v, want %v", lines, set, l, ok, refs)
		}
		if s, ok := impl.Patched(image, set, from, to); !ok || s != want {
			t.Fatalf("%d lines: Patched(%v, %v, %v) is not so: %v", lines, set, from, to, ok)
		}
	}
}

func TestP17ArgumentsOfBarriersStay(t *testing.T) {
	set, allSet := roomyNumbers([]int64{2, 5, 9})
	from, allFrom := roomyNumbers([]int64{7, 1})
	to, allTo := roomyNumbers([]int64{8, 0})
	none, allNone := roomyNumbers(nil)
	image := wordsImage(2, youngWrite{2, 7}, youngWrite{5, 11}, youngWrite{9, 1})
	ask := func() string {
		one, _ := impl.Barrier(none, 3, 1)
		text := strconv.FormatBool(impl.SetOk(set)) + numbersText(one)
		spoilNumbers(one)
		for _, r := range [][2]int64{{3, 1}, {5, 1}, {5, 0}, {9, 2}, {10, 3}, {3, 0}, {2, 4}} {
			l, ok := impl.Barrier(set, r[0], r[1])
			text += strconv.FormatBool(ok) + numbersText(l) + ";"
			spoilNumbers(l)
		}
		cards := impl.CardsOf(set)
		words, _ := impl.YoungWords(image, set)
		text += numbersText(cards) + ";" + numbersText(words) + ";"
		spoilNumbers(cards)
		spoilNumbers(words)
		s, _ := impl.Patched(image, set, from, to)
		return text + s
	}
	first := ask()
	if again := ask(); again != first {
		t.Errorf("first %q, then %q", first, again)
	}
	for _, l := range []struct{ got, want []int64 }{
		{allSet, []int64{2, 5, 9, 7777, 7777, 7777}},
		{allFrom, []int64{7, 1, 7777, 7777, 7777}},
		{allTo, []int64{8, 0, 7777, 7777, 7777}},
		{allNone, []int64{7777, 7777, 7777}},
	} {
		if !sameNumbers(l.got, l.want) {
			t.Errorf("%v became %v", l.want, l.got)
		}
	}
}
