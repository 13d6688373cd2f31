package tests

import (
	"strings"
	"testing"

	"loop.example/g00648/impl"
)

// linesFrom are the lines from .. to - 1.
func linesFrom(from, to int64) []int64 {
	var l []int64
	for n := from; n < to; n++ {
		l = append(l, n)
	}
	return l
}

// mapBytes is a map told bit by bit, of any lines, right or wrong.
func mapBytes(size int, lines ...int64) string {
	b := make([]byte, size)
	for _, n := range lines {
		b[n/8] |= 1 << (n % 8)
	}
	return string(b)
}

// takenIn says which lines a map has, by its text alone.
func takenIn(m string) [128]bool {
	var l [128]bool
	for n := range l {
		l[n] = m[n/8]&(1<<(n%8)) != 0
	}
	return l
}

// someMap has runs of lines that are taken and runs that are not.
func (d *dice) someMap() string {
	var lines []int64
	taken := d.below(2) == 0
	for n := int64(0); n < 128; {
		run := 1 + d.below(1+d.below(40))
		if taken {
			lines = append(lines, linesFrom(n, min(n+run, 128))...)
		}
		n += run
		taken = !taken
	}
	return mapBytes(64, lines...)
}

func wrongMaps() map[string]string {
	return map[string]string{
		"nothing":        "",
		"16 bytes":       noughts(16),
		"63 bytes":       noughts(63),
		"65 bytes":       noughts(65),
		"128 bytes":      noughts(128),
		"line 128":       mapBytes(64, 128),
		"line 129":       mapBytes(64, 129),
		"line 135":       mapBytes(64, 0, 135),
		"line 511":       mapBytes(64, 511),
		"all":            line("\xff"),
		"a text":         strings.Repeat("map ", 16),
		"128 of 65":      mapBytes(65, 5, 128),
		"a sealed line":  impl.EpochLine(3),
		"a line of 'U's": line("U"),
	}
}

func TestP6MapsOfLines(t *testing.T) {
	for _, lines := range [][]int64{nil, {0}, {7}, {8}, {127}, {0, 127}, {0, 9, 10}, {119, 120, 127}, linesFrom(0, 128), linesFrom(64, 128), linesFrom(3, 77)} {
		m := impl.MapOf(lines)
		if m != mapBytes(64, lines...) {
			t.Errorf("MapOf(%v) = %q", lines, m)
		}
		if l := impl.LinesOf(m); !sameNumbers(l, lines) {
			t.Errorf("LinesOf of the map of %v = %v", lines, l)
		}
	}
	d := &dice{60}
	for range 200 {
		m := d.someMap()
		if back := impl.MapOf(impl.LinesOf(m)); back != m {
			t.Errorf("%q comes back as %q", m, back)
		}
	}
}

func TestP6LinesThatHaveNoMap(t *testing.T) {
	for _, lines := range [][]int64{{128}, {-1}, {0, 128}, {-1, 0}, {3, 3}, {0, 0}, {127, 127}, {4, 3}, {1, 2, 3, 2}, {127, 0}, {5, 6, -1}, linesFrom(0, 129), append(linesFrom(0, 128), 127)} {
		if m := impl.MapOf(lines); m != "" {
			t.Errorf("MapOf(%v) = %q", lines, m)
		}
	}
	for _, e := range edges {
		for _, lines := range [][]int64{{e}, {3, e}, {e, 3}} {
			if m := impl.MapOf(lines); m != "" {
				t.Errorf("MapOf(%v) = %q", lines, m)
			}
		}
	}
}

func TestP6WrongMaps(t *testing.T) {
	for name, m := range wrongMaps() {
		if l := impl.LinesOf(m); len(l) != 0 {
			t.Errorf("%s: LinesOf = %v", name, l)
		}
		if n := impl.FreeOf(m, 0, 128); n != -1 {
			t.Errorf("%s: FreeOf = %d", name, n)
		}
		if n := impl.FreeOf(m, 0, 0); n != -1 {
			t.Errorf("%s: FreeOf of no line = %d", name, n)
		}
		if at := impl.FindRun(m, 0, 128, 1); at != -1 {
			t.Errorf("%s: FindRun = %d", name, at)
		}
		if l := impl.Gaps(m, 0, 128); len(l) != 0 {
			t.Errorf("%s: Gaps = %v", name, l)
		}
		for n := range int64(128) {
			if s, ok := impl.TakeRun(m, n, 1); ok || s != "" {
				t.Errorf("%s: TakeRun(%d) = %q, %v", name, n, s, ok)
			}
			if s, ok := impl.GiveRun(m, n, 1); ok || s != "" {
				t.Errorf("%s: GiveRun(%d) = %q, %v", name, n, s, ok)
			}
		}
	}
}

// told is what chapter 6 says of the lines from .. to - 1, line by line.
func told(m string, from, to int64) (free int64, gaps []impl.Span) {
	taken := takenIn(m)
	for n := from; n < to; n++ {
		if taken[n] {
			continue
		}
		free++
		if n > from && !taken[n-1] {
			gaps[len(gaps)-1].Len++
		} else {
			gaps = append(gaps, impl.Span{At: n, Len: 1})
		}
	}
	return free, gaps
}

// firstRun tries each line in turn.
func firstRun(m string, from, to, n int64) int64 {
	taken := takenIn(m)
	for at := from; at+n <= to; at++ {
		free := true
		for k := at; k < at+n; k++ {
			free = free && !taken[k]
		}
		if free {
			return at
		}
	}
	return -1
}

func sameSpans(a, b []impl.Span) bool {
	if len(a) != len(b) {
		return false
	}
	for i := range a {
		if a[i] != b[i] {
			return false
		}
	}
	return true
}

// holdSpan holds all that is asked of the lines from .. to - 1 against what chapter 6 says.
func holdSpan(t *testing.T, m string, from, to int64) {
	t.Helper()
	free, gaps := told(m, from, to)
	if got := impl.FreeOf(m, from, to); got != free {
		t.Errorf("FreeOf(%q, %d, %d) = %d, want %d", m, from, to, got, free)
	}
	if got := impl.Gaps(m, from, to); !sameSpans(got, gaps) {
		t.Errorf("Gaps(%q, %d, %d) = %v, want %v", m, from, to, got, gaps)
	}
	longest := int64(0)
	for _, g := range gaps {
		longest = max(longest, g.Len)
	}
	for _, n := range []int64{1, 2, 3, longest, longest + 1, to - from, to - from + 1, 127, 128} {
		if n < 1 || n > 128 {
			continue
		}
		want := firstRun(m, from, to, n)
		got := impl.FindRun(m, from, to, n)
		if got != want || (got >= 0) != (longest >= n) {
			t.Errorf("FindRun(%q, %d, %d, %d) = %d, want %d", m, from, to, n, got, want)
		}
		holdFound(t, m, from, got, n)
	}
}

// holdFound: what was found can be taken, and given again; nothing can that begins ahead of it.
func holdFound(t *testing.T, m string, from, at, n int64) {
	t.Helper()
	if at < 0 {
		return
	}
	u, ok := impl.TakeRun(m, at, n)
	if !ok || u != mergedMap(m, at, n) {
		t.Errorf("TakeRun(%q, %d, %d) = %q, %v", m, at, n, u, ok)
	}
	if g, ok := impl.GiveRun(u, at, n); !ok || g != m {
		t.Errorf("GiveRun(%q, %d, %d) = %q, %v", u, at, n, g, ok)
	}
	for k := from; k < at; k++ {
		if u, ok := impl.TakeRun(m, k, n); ok || u != "" {
			t.Errorf("TakeRun(%q, %d, %d) = %q, though a run is found at %d", m, k, n, u, at)
		}
	}
}

// mergedMap is the map with these lines taken, too.
func mergedMap(m string, at, n int64) string {
	taken := takenIn(m)
	var lines []int64
	for k := range int64(128) {
		if taken[k] || k >= at && k < at+n {
			lines = append(lines, k)
		}
	}
	return mapBytes(64, lines...)
}

func TestP6FindGapsAndFree(t *testing.T) {
	maps := []string{mapBytes(64), mapBytes(64, linesFrom(0, 128)...), mapBytes(64, 0), mapBytes(64, 127), mapBytes(64, 0, 9, 10), mapBytes(64, linesFrom(0, 127)...), mapBytes(64, linesFrom(1, 128)...)}
	d := &dice{61}
	for range 40 {
		maps = append(maps, d.someMap())
	}
	for _, m := range maps {
		for _, s := range [][2]int64{{0, 128}, {0, 127}, {1, 128}, {0, 0}, {128, 128}, {127, 128}, {0, 1}, {64, 64}, {10, 20}} {
			holdSpan(t, m, s[0], s[1])
		}
		for range 10 {
			from := d.below(129)
			holdSpan(t, m, from, from+d.below(129-from))
		}
		if t.Failed() {
			t.Fatal("as above")
		}
	}
}

func TestP6RunsAtTheEnd(t *testing.T) {
	m := mapBytes(64, 0, 9, 10)
	for _, r := range [][4]int64{
		{9, 14, 3, 11}, {9, 13, 3, -1}, {11, 14, 3, 11}, {12, 14, 3, -1},
		{0, 9, 8, 1}, {0, 8, 8, -1}, {2, 9, 8, -1}, {2, 9, 7, 2},
		{0, 128, 117, 11}, {0, 128, 118, -1}, {0, 127, 117, -1}, {125, 128, 3, 125}, {126, 128, 3, -1},
		{9, 11, 1, -1}, {8, 11, 1, 8}, {5, 5, 1, -1}, {128, 128, 1, -1},
	} {
		if at := impl.FindRun(m, r[0], r[1], r[2]); at != r[3] {
			t.Errorf("FindRun(%v) = %d", r, at)
		}
	}
	none := mapBytes(64)
	for _, r := range [][4]int64{{0, 128, 128, 0}, {0, 127, 128, -1}, {1, 128, 128, -1}, {1, 128, 127, 1}, {0, 128, 1, 0}} {
		if at := impl.FindRun(none, r[0], r[1], r[2]); at != r[3] {
			t.Errorf("FindRun(%v) of nothing taken = %d", r, at)
		}
	}
}

func TestP6WrongSpans(t *testing.T) {
	m := mapBytes(64, 3)
	spans := [][2]int64{{5, 4}, {128, 0}, {0, 129}, {-1, 5}, {-1, -1}, {128, 129}, {129, 129}, {128, 127}, {-5, -2}}
	for _, e := range edges {
		spans = append(spans, [2]int64{e, e}, [2]int64{0, e}, [2]int64{e, 128})
	}
	for _, s := range spans {
		if n := impl.FreeOf(m, s[0], s[1]); n != -1 {
			t.Errorf("FreeOf%v = %d", s, n)
		}
		if l := impl.Gaps(m, s[0], s[1]); len(l) != 0 {
			t.Errorf("Gaps%v = %v", s, l)
		}
		if at := impl.FindRun(m, s[0], s[1], 1); at != -1 {
			t.Errorf("FindRun%v = %d", s, at)
		}
	}
	for _, n := range append([]int64{0, -1, -128, 129, 256}, edges...) {
		if at := impl.FindRun(m, 0, 128, n); at != -1 {
			t.Errorf("FindRun of %d = %d", n, at)
		}
	}
}

// TestP6TakeAndGive goes through all runs of some maps.
func TestP6TakeAndGive(t *testing.T) {
	d := &dice{62}
	for _, m := range []string{mapBytes(64), mapBytes(64, linesFrom(0, 128)...), d.someMap(), d.someMap(), d.someMap()} {
		taken := takenIn(m)
		for at := int64(-2); at < 131; at++ {
			for n := int64(-1); n < 131; n++ {
				inside := n >= 1 && n <= 128 && at >= 0 && at+n <= 128
				allFree, allTaken := inside, inside
				for k := at; inside && k < at+n; k++ {
					allFree, allTaken = allFree && !taken[k], allTaken && taken[k]
				}
				want := ""
				if allFree {
					want = mergedMap(m, at, n)
				}
				if s, ok := impl.TakeRun(m, at, n); ok != allFree || s != want {
					t.Fatalf("TakeRun(%q, %d, %d) = %q, %v", m, at, n, s, ok)
				}
				s, ok := impl.GiveRun(m, at, n)
				if ok != allTaken || !ok && s != "" {
					t.Fatalf("GiveRun(%q, %d, %d) = %q, %v", m, at, n, s, ok)
				}
				if !ok {
					continue
				}
				if mergedMap(s, at, n) != m || firstRun(s, at, at+n, n) != at {
					t.Fatalf("GiveRun(%q, %d, %d) = %q", m, at, n, s)
				}
			}
		}
	}
}

func TestP6OneOfARunIsEnough(t *testing.T) {
	m := mapBytes(64, 20, 21, 22, 23)
	for _, r := range [][2]int64{{17, 4}, {20, 1}, {23, 3}, {16, 12}, {20, 4}, {0, 128}} {
		if s, ok := impl.TakeRun(m, r[0], r[1]); ok || s != "" {
			t.Errorf("TakeRun%v = %q", r, s)
		}
	}
	for _, r := range [][2]int64{{19, 2}, {20, 5}, {19, 1}, {24, 1}, {0, 128}} {
		if s, ok := impl.GiveRun(m, r[0], r[1]); ok || s != "" {
			t.Errorf("GiveRun%v = %q", r, s)
		}
	}
	if s, ok := impl.GiveRun(m, 21, 2); !ok || s != mapBytes(64, 20, 23) {
		t.Errorf("GiveRun = %q, %v", s, ok)
	}
	if s, ok := impl.TakeRun(m, 24, 104); !ok || s != mapBytes(64, linesFrom(20, 128)...) {
		t.Errorf("TakeRun = %q, %v", s, ok)
	}
}

func TestP6FarAway(t *testing.T) {
	for _, m := range []string{mapBytes(64), mapBytes(64, linesFrom(0, 128)...)} {
		for _, e := range edges {
			for _, f := range append([]int64{0, 1, 127, 128, -1}, edges...) {
				for _, r := range [][2]int64{{e, f}, {f, e}} {
					if s, ok := impl.TakeRun(m, r[0], r[1]); ok || s != "" {
						t.Errorf("TakeRun%v = %q", r, s)
					}
					if s, ok := impl.GiveRun(m, r[0], r[1]); ok || s != "" {
						t.Errorf("GiveRun%v = %q", r, s)
					}
				}
			}
		}
	}
}

// TestP17ArgumentsOfMapsStay: nothing is written into an argument, and each answer is new.
func TestP17ArgumentsOfMapsStay(t *testing.T) {
	lines, all := roomyNumbers([]int64{1, 2, 90})
	m := impl.MapOf(lines)
	if !sameNumbers(all, []int64{1, 2, 90, 7777, 7777, 7777}) {
		t.Errorf("lines are %v", all)
	}
	first := impl.LinesOf(m)
	first[0] = 50
	if l := impl.LinesOf(m); !sameNumbers(l, lines) {
		t.Errorf("LinesOf again = %v", l)
	}
	gaps := impl.Gaps(m, 0, 128)
	gaps[0] = impl.Span{At: 50}
	if l := impl.Gaps(m, 0, 128); !sameSpans(l, []impl.Span{{At: 0, Len: 1}, {At: 3, Len: 87}, {At: 91, Len: 37}}) {
		t.Errorf("Gaps again = %v", l)
	}
}
