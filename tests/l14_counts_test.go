package tests

import (
	"slices"
	"testing"

	"loop.example/g00648/impl"
)

// holdSteps: an act that has power for all its steps makes them, and with one step less it fails.
func holdSteps(t *testing.T, image string, list []impl.Act) int64 {
	t.Helper()
	steps := impl.StepsOf(image, list)
	if len(steps) != len(list) {
		t.Fatalf("StepsOf %v = %v", list, steps)
	}
	full := powered(-1, list...)
	just := slices.Clone(full)
	for i := range just {
		just[i].Power = steps[i]
	}
	if run, want := impl.HeapPlay(image, just), impl.HeapPlay(image, full); !sameRun(run, want) {
		t.Fatalf("just as many steps %v: %+v\nwant %+v", steps, run, want)
	}
	sum := int64(0)
	for i, n := range steps {
		if sum += n; n == 0 {
			continue
		}
		some := slices.Clone(full[:i+1])
		some[i].Power = n - 1
		if run := impl.HeapPlay(image, some); !run.Off || run.Answers[i] != refuses(impl.CdPower) {
			t.Fatalf("act %d with a step less than %d: %+v", i, n, run)
		}
	}
	return sum
}

func TestP14StepsOfActs(t *testing.T) {
	c := heapConfig()
	c.Young = 14
	if n := holdSteps(t, smallHeapOf(c), workDay()); n < 60 {
		t.Errorf("a day of %d steps", n)
	}
	wantLines(t, "no acts", impl.StepsOf(smallHeap(), nil))
	// Power in the list is not looked at: it is -1 in all.
	want := stepsOf(t, smallHeap(), regionWork()...)
	for _, power := range append([]int64{0, 1, 2}, edges...) {
		wantLines(t, "another power", impl.StepsOf(smallHeap(), powered(power, regionWork()...)), want...)
	}
	// What is refused makes no step, but for the collection ahead of a full nursery.
	refused := []impl.Act{act(0), act(impl.AcSet, 0, 0, 1), act(impl.AcNew, 0), act(impl.AcBegin), act(impl.AcPublish, 8, 0), act(impl.AcPublish, 0, 0), act(impl.AcCommit)}
	wantLines(t, "refused", stepsOf(t, smallHeap(), refused...), make([]int64, len(refused))...)
	// The steps that open the image are of no act, those of a crash are.
	if impl.OpenSteps(smallHeap()) != 3 {
		t.Errorf("OpenSteps = %d", impl.OpenSteps(smallHeap()))
	}
	list := []impl.Act{act(impl.AcCrash), act(impl.AcBegin), act(impl.AcPublish, 0, -1), act(impl.AcCrash), act(impl.AcCrash)}
	wantLines(t, "crashes", stepsOf(t, smallHeap(), list...), 0, 0, 4, 1+1+1+3, 0)
}

func TestP14AnySteps(t *testing.T) {
	d := &dice{state: 140}
	sum := int64(0)
	for range 120 {
		image := d.someHeap()
		sum += holdSteps(t, image, d.someWork(image, mostActs))
	}
	if sum < 1000 {
		t.Errorf("%d steps alone", sum)
	}
}

func TestP14LimitsOfCounts(t *testing.T) {
	if l := impl.StepsOf(smallHeap(), repeated(60, act(impl.AcMinor))); len(l) != 60 {
		t.Errorf("60 acts: %v", l)
	}
	if n := impl.PeakOf(smallHeap(), repeated(60, act(impl.AcMinor))); n != 0 {
		t.Errorf("60 acts: %d", n)
	}
	noHeap(t, "61 acts", smallHeap(), repeated(61, act(impl.AcMinor)), impl.RnForm)
	for what, image := range map[string]string{"nothing": "", "a young root": withRoots(smallHeap(), 1), "no epoch": withLine(smallHeap(), 1, line("x"))} {
		noHeap(t, what, image, nil, impl.RnImage)
		if n := impl.OpenSteps(image); n != -1 {
			t.Errorf("%s: OpenSteps = %d", what, n)
		}
	}
}

// TestP14Denies: of each code, and of as many answers as there may be acts.
func TestP14Denies(t *testing.T) {
	var answers []impl.Answer
	for code := int64(-1); code <= 16; code++ {
		answers = append(answers, impl.Answer{Code: code, N: code + 5})
	}
	wantLines(t, "each code", impl.DenyOf(answers), 0, 0, 0, 0, 0, 0, 0, 0, 0, 0, 0, 10, 11, 12, 0, 0, 0, 0)
	var far []impl.Answer
	for _, code := range edges {
		far = append(far, impl.Answer{Code: code, N: 11})
	}
	wantLines(t, "far off", impl.DenyOf(far), make([]int64, len(edges))...)
	wantLines(t, "none", impl.DenyOf(nil))
	full := slices.Repeat([]impl.Answer{{Code: impl.CdOld}}, 61)
	wantLines(t, "60", impl.DenyOf(full[:60]), slices.Repeat([]int64{impl.CdOld}, 60)...)
	wantLines(t, "61", impl.DenyOf(full))
}

// TestP14Peaks: no more is ever in the nursery than it has room for, and the greatest is told.
func TestP14Peaks(t *testing.T) {
	for words, want := range map[int64]int64{2: 0, 3: 3, 5: 3, 6: 6, 8: 6, 9: 9, 10: 9, 400: 9} {
		if n := impl.PeakOf(roomFor(words), powered(-1, repeated(3, act(impl.AcNew, 0))...)); n != want {
			t.Errorf("%d words: PeakOf = %d, want %d", words, n, want)
		}
	}
	pairs := repeated(4, act(impl.AcNew, 0))
	for what, c := range map[string]struct {
		list []impl.Act
		peak int64
	}{
		"none":               {nil, 0},
		"a collection":       {append(slices.Clone(pairs), act(impl.AcDrop, 0), act(impl.AcDrop, 1), act(impl.AcMinor)), 12},
		"a crash":            {append(slices.Clone(pairs), act(impl.AcCrash), act(impl.AcNew, 1)), 12},
		"more behind it":     {append(slices.Clone(pairs[:1]), act(impl.AcCrash), act(impl.AcNew, 1)), 4},
		"refused":            {append(slices.Clone(pairs), act(impl.AcNew, 9)), 12},
		"what was committed": {append(slices.Clone(pairs), act(impl.AcBegin), act(impl.AcPublish, 0, 0), act(impl.AcCommit), act(impl.AcMinor)), 12},
	} {
		list := powered(-1, c.list...)
		if n := impl.PeakOf(smallHeap(), list); n != c.peak {
			t.Errorf("%s: PeakOf = %d, want %d", what, n, c.peak)
		}
	}
	// A heap that is off has nothing in use, but what was in use stays told.
	off := append(powered(-1, append(pairs, act(impl.AcBegin))...), impl.Act{Kind: impl.AcPublish, Power: 1})
	run := impl.HeapPlay(smallHeap(), off)
	if n := impl.PeakOf(smallHeap(), off); n != 12 || !run.Off || run.Used != 0 {
		t.Errorf("off: PeakOf = %d, %+v", n, run)
	}
	// Power in the list counts here.
	again := append(off, powered(-1, repeated(3, act(impl.AcNew, 1))...)...)
	if n := impl.PeakOf(smallHeap(), again); n != 12 {
		t.Errorf("off: PeakOf = %d", n)
	}
	if n := impl.PeakOf(smallHeap(), append(again, powered(-1, append(repeated(5, act(impl.AcNew, 1)), act(impl.AcCrash))...)...)); n != 12 {
		t.Errorf("off: PeakOf = %d", n)
	}
}

func TestP14AnyPeaks(t *testing.T) {
	d := &dice{state: 141}
	for range 60 {
		image := d.someHeap()
		c, _ := impl.ConfigOf(image)
		list := d.someWork(image, 40)
		for i, n := range impl.StepsOf(image, list) {
			if n > 0 && d.below(6) == 0 {
				list[i].Power = d.below(n)
			}
		}
		peak := impl.HeapPlay(image, nil).Used
		for i := range list {
			run := impl.HeapPlay(image, list[:i+1])
			n := impl.HeapYoung(image, list[:i+1])
			if run.Used > c.Young || run.Used != int64(len(n.Words)) || !run.Off && !impl.NurseryOk(c.Types, n) {
				t.Fatalf("used %d, %v", run.Used, n)
			}
			peak = max(peak, run.Used)
		}
		if n := impl.PeakOf(image, list); n != peak {
			t.Fatalf("PeakOf %v = %d, want %d", list, n, peak)
		}
	}
}

func TestP17ArgumentsOfCountsStay(t *testing.T) {
	list, look := roomyActs(powered(3, regionWork()...))
	before := look()
	all := slices.Repeat([]impl.Answer{{Code: impl.CdLog, N: 2}}, 6)
	ask := func() string {
		steps, deny := impl.StepsOf(smallHeap(), list), impl.DenyOf(all[:4])
		text := numbersText(steps) + numbersText(deny) + numbersText([]int64{impl.PeakOf(smallHeap(), list), impl.OpenSteps(smallHeap())})
		spoilNumbers(steps)
		spoilNumbers(deny)
		return text
	}
	first := ask()
	if again := ask(); again != first {
		t.Errorf("first %q, then %q", first, again)
	}
	if look() != before || !slices.Equal(all, slices.Repeat([]impl.Answer{{Code: impl.CdLog, N: 2}}, 6)) {
		t.Errorf("acts %s, answers %v", look(), all)
	}
}
