package tests

import (
	"math"
	"slices"
	"strings"
	"testing"

	"loop.example/g00648/impl"
)

// powered are the same acts with this power.
func powered(power int64, list ...impl.Act) []impl.Act {
	l := slices.Clone(list)
	for i := range l {
		l[i].Power = power
	}
	return l
}

// heapConfig has a log of six lines, 4 .. 9, and data in 10 .. 19.
func heapConfig() impl.Config {
	return impl.Config{Lines: 20, Log: 6, Young: 24, Types: worldTypes()}
}

// smallHeap has what smallWorld has, in lines 10, 11 and 12. Nothing is taken in its map.
func smallHeap() string { return smallHeapOf(heapConfig()) }

func smallHeapOf(c impl.Config) string {
	at := 4 + c.Log
	things := []oldThing{{at, node(0, 4, 2*at+2)}, {at + 1, node(1, 2*at, 0, 9)}, {at + 2, node(0, 5, 2*at)}}
	return withRoots(oldImage(c, things...), 2*at, 2*at+2, 0, 0, 0, 0, 0, 2*at)
}

// heapRun is the run of acts with all power; it is held against handHeap and a world.
func heapRun(t *testing.T, what string, image string, list ...impl.Act) impl.Run {
	t.Helper()
	list = powered(-1, list...)
	run := holdHeap(t, what, image, list)
	wantAsInAWorld(t, what, image, list, run)
	return run
}

// wantAsInAWorld: with all power each act answers what it answers in a world that is
// told which acts were refused because something was full.
func wantAsInAWorld(t *testing.T, what string, image string, list []impl.Act, run impl.Run) {
	t.Helper()
	d, code := impl.Recovered(image, -1)
	c, ok := impl.ConfigOf(image)
	g, right := impl.DurableOf(c, d.Safe)
	if code != impl.RcOk || !ok || !right {
		t.Fatalf("%s: Recovered = %d, ConfigOf %v, DurableOf %v", what, code, ok, right)
	}
	world := impl.WorldPlay(c.Types, g, list, impl.DenyOf(run.Answers))
	if run.Code != impl.RnOk || run.Off || !slices.Equal(run.Answers, world.Answers) || run.In != world.In || run.Doomed != world.Doomed {
		t.Fatalf("%s: %v\n = %+v\nin a world %+v", what, list, run, world)
	}
	wantGraph(t, what+", now", run.Now, world.Now)
	wantGraph(t, what+", safe", run.Safe, world.Safe)
}

// stepsOf is of acts with all power.
func stepsOf(t *testing.T, image string, list ...impl.Act) []int64 {
	t.Helper()
	l := impl.StepsOf(image, powered(-1, list...))
	if len(l) != len(list) {
		t.Fatalf("StepsOf %v = %v", list, l)
	}
	return l
}

func lastOf[T any](l []T) T { return l[len(l)-1] }

// heldMap is the map as it is seen.
func heldMap(d impl.Device) []int64 { return impl.LinesOf(impl.Seen(d)[3*64 : 4*64]) }

func wantLines(t *testing.T, what string, got []int64, want ...int64) {
	t.Helper()
	if !sameNumbers(got, want) {
		t.Errorf("%s: %v, want %v", what, got, want)
	}
}

func TestP12Codes(t *testing.T) {
	codes := []int64{impl.CdHeap, impl.CdOld, impl.CdLog, impl.CdPower, impl.CdOff, impl.RnOk, impl.RnForm, impl.RnImage}
	wantLines(t, "codes", codes, 10, 11, 12, 13, 14, 0, 1, 2)
}

// TestP12EachKindOfAct holds a heap against the same tables as a world.
func TestP12EachKindOfAct(t *testing.T) {
	hold := func(ahead []impl.Act, cases []actCase) {
		for _, c := range cases {
			run := heapRun(t, "a kind of act", smallHeap(), append(slices.Clone(ahead), c.act)...)
			if got := lastOf(run.Answers); got != c.want {
				t.Errorf("%v behind %v = %v, want %v", c.act, ahead, got, c.want)
			}
		}
	}
	hold(withDesk(), outsideCases())
	hold(withDesk(act(impl.AcBegin)), withinCases())
	for kind := int64(-1); kind <= 20; kind++ {
		want := refuses(impl.CdDoomed)
		if kind >= impl.AcAbort && kind <= impl.AcCrash {
			want = does(0)
		}
		hold(doomedDesk(), []actCase{{act(kind), want}})
	}
}

func TestP12NoActs(t *testing.T) {
	run := impl.HeapPlay(smallHeap(), nil)
	d, _ := impl.Recovered(smallHeap(), -1)
	if run.Code != impl.RnOk || len(run.Answers) != 0 || run.In || run.Doomed || run.Off || run.Used != 0 {
		t.Errorf("no acts: %+v", run)
	}
	wantDevice(t, "no acts", run.Dev, d)
	wantLines(t, "the map", heldMap(run.Dev), 10, 11)
	wantGraph(t, "safe", run.Safe, graph([]int64{1, 2, 0, 0, 0, 0, 0, 1}, node(0, 4, 2), node(1, 1, 0, 9)))
	if n := impl.HeapYoung(smallHeap(), nil); !sameNursery(n, nursery(24)) {
		t.Errorf("HeapYoung = %v", n)
	}
	wantLines(t, "HeldLines", impl.HeldLines(smallHeap(), nil), 10, 11)
}

// TestP12WithinARegion: what is written, and what it was, is there until the region ends.
func TestP12WithinARegion(t *testing.T) {
	run := heapRun(t, "a region", smallHeap(), regionWork()...)
	wantGraph(t, "now", run.Now, graph([]int64{1, 2, 3, 0, 0, 0, 0, 0, 0, 0, 0, 0, 0, 3, 0, 2, 0, 0, 0, 1},
		node(0, 40, 0), node(0, 50, 3), node(1, 1, 2, 9)))
	wantGraph(t, "safe", run.Safe, graph([]int64{1, 2, 0, 0, 0, 0, 0, 1}, node(0, 4, 2), node(1, 1, 0, 9)))
	if !run.In || run.Doomed || run.Used != 3 {
		t.Errorf("%+v", run)
	}
	// The halves of the pair, of the triple and of the slots are kept, in the order in which they were written.
	l, ok := impl.LogOf(heapConfig(), run.Dev.Safe)
	if !ok || len(l) != 3 || l[0].Half != 20 || l[1].Half != 22 || l[2].Half != 4 {
		t.Errorf("LogOf = %v, %v", l, ok)
	}
	wantLines(t, "at risk", impl.AtRisk(run.Dev), 2, 10, 11)
	wantLines(t, "steps", stepsOf(t, smallHeap(), regionWork()...), 0, 0, 0, 0, 4, 0, 0, 4, 1, 4, 1)
	wantLines(t, "HeldLines in a region", impl.HeldLines(smallHeap(), powered(-1, regionWork()...)))

	run = heapRun(t, "committed", smallHeap(), append(regionWork(), act(impl.AcCommit))...)
	wantGraph(t, "committed", run.Safe, graph([]int64{0, 1, 0, 2, 0, 0, 0, 3}, node(1, 3, 2, 9), node(0, 50, 1), node(0, 40, 0)))
	wantLines(t, "at risk", impl.AtRisk(run.Dev))
	wantLines(t, "the map", heldMap(run.Dev), 10, 11, 12)
	// A line, the map, two words; lines 2, 3, 10, 11 and 12; a fence; the epoch.
	if n := lastOf(stepsOf(t, smallHeap(), append(regionWork(), act(impl.AcCommit))...)); n != 1+1+2+5+1+3 {
		t.Errorf("a commit of %d steps", n)
	}

	run = heapRun(t, "aborted", smallHeap(), append(regionWork(), act(impl.AcAbort))...)
	wantGraph(t, "aborted", run.Safe, graph([]int64{1, 2, 0, 0, 0, 0, 0, 1}, node(0, 4, 2), node(1, 1, 0, 9)))
	// Three halves; lines 2, 10 and 11; a fence; the epoch.
	if n := lastOf(stepsOf(t, smallHeap(), append(regionWork(), act(impl.AcAbort))...)); n != 3+3+1+3 {
		t.Errorf("an abort of %d steps", n)
	}
}

// TestP12AnAbortAndACrashBehindEachAct of a region.
func TestP12AnAbortAndACrashBehindEachAct(t *testing.T) {
	list := append(regionWork(), act(impl.AcMinor), act(impl.AcEvict, 10), act(impl.AcNew, 1), act(impl.AcPut, 3, 0, 1), act(impl.AcPublish, 6, 3),
		act(impl.AcMajor), act(impl.AcEvict, 2), act(impl.AcPut, 1, 1, 3), act(impl.AcDrop, 1), act(impl.AcMinor), act(19))
	safe := heapRun(t, "at first", smallHeap()).Safe
	for i := 4; i <= len(list); i++ {
		for _, end := range []int64{impl.AcAbort, impl.AcCrash} {
			run := heapRun(t, "ended", smallHeap(), append(slices.Clone(list[:i]), act(end))...)
			wantGraph(t, "ended", run.Safe, safe)
			wantLines(t, "at risk", impl.AtRisk(run.Dev))
			if run.In || run.Doomed || lastOf(run.Answers) != does(0) {
				t.Errorf("kind %d behind %v: %+v", end, list[:i], run)
			}
			if end == impl.AcCrash && (run.Used != 0 || !sameNumbers(run.Now.Roots[:handleCount], make([]int64, handleCount))) {
				t.Errorf("behind a crash: %+v", run)
			}
		}
	}
}

// TestP12WordsOfYoungAndOldObjects: AcSet and AcPut of both.
func TestP12WordsOfYoungAndOldObjects(t *testing.T) {
	ahead := withDesk(act(impl.AcBegin), act(impl.AcSet, 1, 0, 7), act(impl.AcPut, 1, 1, 0))
	run := heapRun(t, "young", smallHeap(), ahead...)
	if n := impl.HeapYoung(smallHeap(), powered(-1, ahead...)); !sameNursery(n, nursery(24, 0, 7, 20)) {
		t.Errorf("HeapYoung = %v", n)
	}
	if len(run.Dev.Lines) != 0 {
		t.Errorf("a young object is not on the device: %v", run.Dev.Lines)
	}
	ahead = append(ahead, act(impl.AcSet, 2, 2, math.MinInt64), act(impl.AcPut, 2, 1, 1))
	run = heapRun(t, "old", smallHeap(), ahead...)
	seen := impl.Seen(run.Dev)
	wantLines(t, "words", []int64{wordIn(seen, 88), wordIn(seen, 89), wordIn(seen, 90), wordIn(seen, 91)}, 2, 20, 1, math.MinInt64)
	// Both words lie in one half, which is kept once.
	wantLines(t, "steps", stepsOf(t, smallHeap(), ahead...)[4:], 0, 0, 4, 1)
	// A word of the next half is kept by itself.
	big := impl.Config{Lines: 20, Log: 6, Young: 24, Types: []string{"rrrrrrrr" + "r"}}
	image := withRoots(oldImage(big, oldThing{18, node(0, make([]int64, 9)...)}), 36)
	list := []impl.Act{act(impl.AcRoot, 0), act(impl.AcBegin), act(impl.AcPut, 0, 2, 0), act(impl.AcPut, 0, 3, 0), act(impl.AcPut, 0, 6, 0),
		act(impl.AcPut, 0, 7, 0), act(impl.AcPut, 0, 8, 0), act(impl.AcCommit)}
	run = heapRun(t, "halves", image, list...)
	wantLines(t, "steps", stepsOf(t, image, list...), 0, 0, 4, 4, 1, 4, 1, 2+1+3)
	wantGraph(t, "halves", run.Safe, graph(slots(1), node(0, 0, 0, 1, 1, 0, 0, 1, 1, 1)))
}

// TestP12OverAYoungReference: what is written over is not placed.
func TestP12OverAYoungReference(t *testing.T) {
	for what, c := range map[string]struct {
		over   []impl.Act
		placed int64
	}{
		"nothing over a slot":    {[]impl.Act{act(impl.AcPublish, 3, 1), act(impl.AcPublish, 3, -1)}, 0},
		"an old one over a slot": {[]impl.Act{act(impl.AcPublish, 3, 1), act(impl.AcPublish, 3, 0)}, 0},
		"young over old":         {[]impl.Act{act(impl.AcPublish, 0, 2), act(impl.AcPublish, 0, 1)}, 1},
		"nothing over a field":   {[]impl.Act{act(impl.AcPut, 0, 1, 1), act(impl.AcPut, 0, 1, -1)}, 0},
		"an old one over it":     {[]impl.Act{act(impl.AcPut, 0, 1, 1), act(impl.AcPut, 0, 1, 2)}, 0},
		"young again":            {[]impl.Act{act(impl.AcPut, 0, 1, 1), act(impl.AcPut, 0, 1, -1), act(impl.AcPut, 0, 1, 1)}, 1},
		"one of two":             {[]impl.Act{act(impl.AcPut, 0, 1, 1), act(impl.AcPublish, 5, 1), act(impl.AcPut, 0, 1, -1)}, 1},
	} {
		list := append(withDesk(act(impl.AcBegin)), c.over...)
		list = append(list, act(impl.AcCommit), act(impl.AcDurable, 1))
		run := heapRun(t, what, smallHeap(), list...)
		if got := lastOf(run.Answers); got != does(c.placed) {
			t.Errorf("%s: AcDurable = %v", what, got)
		}
		want := linesFrom(10, 12+c.placed)
		wantLines(t, what, heldMap(run.Dev), want...)
	}
}

// TestP12CommitsOfNothing: without records of now nothing is done, and nothing is placed where no word is young.
func TestP12CommitsOfNothing(t *testing.T) {
	list := withDesk(act(impl.AcBegin), act(impl.AcSet, 1, 0, 3), act(impl.AcCommit), act(impl.AcDurable, 1), act(impl.AcAbort))
	run := heapRun(t, "no records", smallHeap(), list...)
	wantAnswers(t, "no records", run.Answers[3:], does(0), does(0), does(0), does(0), refuses(impl.CdRegion))
	wantLines(t, "steps", stepsOf(t, smallHeap(), list...), make([]int64, len(list))...)
	if e := impl.EpochOf(heapConfig(), run.Dev.Safe); e != 0 {
		t.Errorf("epoch %d", e)
	}
	list = withDesk(act(impl.AcBegin), act(impl.AcSet, 0, 0, 3), act(impl.AcCommit), act(impl.AcDurable, 1))
	run = heapRun(t, "no young word", smallHeap(), list...)
	// The line, a fence, the epoch; no map.
	wantLines(t, "steps", stepsOf(t, smallHeap(), list...)[3:], 0, 4, 1+1+3, 0)
	wantLines(t, "the map", heldMap(run.Dev), 10, 11)
	if e := impl.EpochOf(heapConfig(), run.Dev.Safe); e != 1 {
		t.Errorf("epoch %d", e)
	}
	// An abort of nothing does nothing, either.
	list = withDesk(act(impl.AcBegin), act(impl.AcSet, 1, 0, 3), act(impl.AcAbort))
	heapRun(t, "no records", smallHeap(), list...)
	wantLines(t, "steps", stepsOf(t, smallHeap(), list...), make([]int64, len(list))...)
}

// TestP12CommitsOfRings: three that name each other, one of them twice in handles, one that another young object names.
func TestP12CommitsOfRings(t *testing.T) {
	list := []impl.Act{
		act(impl.AcNew, 0), act(impl.AcNew, 1), act(impl.AcNew, 0), act(impl.AcNew, 0), act(impl.AcNew, 1),
		act(impl.AcPut, 0, 1, 1), act(impl.AcPut, 1, 0, 2), act(impl.AcPut, 1, 1, 1), act(impl.AcPut, 2, 1, 0), act(impl.AcSet, 2, 0, 77),
		act(impl.AcPut, 4, 0, 2), act(impl.AcPut, 4, 1, 3), act(impl.AcRef, 4, 0),
		act(impl.AcBegin), act(impl.AcPublish, 2, 1), act(impl.AcPublish, 4, 2), act(impl.AcCommit),
	}
	run := heapRun(t, "a ring", smallHeap(), list...)
	// 1 is found first, then 2 and 0: in lines 12, 13 and 14. Handles 3 and 4 are of young ones still.
	n := impl.HeapYoung(smallHeap(), powered(-1, list...))
	if !sameNursery(n, nursery(24, 0, 0, 24, 4, 26, 24, 0, 0, 77, 28, 0, 0, 0, 4, 26, 21, 0)) {
		t.Errorf("HeapYoung = %v", n)
	}
	seen := impl.Seen(run.Dev)
	wantLines(t, "slots", slotsIn(seen), 20, 22, 24, 0, 26, 0, 0, 20)
	for line, want := range map[int64]impl.Obj{12: node(1, 26, 24, 0), 13: node(0, 77, 28), 14: node(0, 0, 24)} {
		if o, ok := impl.OldObject(heapConfig(), seen, line); !ok || !sameObj(o, want) {
			t.Errorf("line %d: %v, %v", line, o, ok)
		}
	}
	for handle, want := range []int64{1, 1, 1, 0, 0, 1} {
		all := append(slices.Clone(list), act(impl.AcDurable, int64(handle)), act(impl.AcSame, 2, 5))
		wantAnswers(t, "durable", heapRun(t, "durable", smallHeap(), all...).Answers[len(list):], does(want), does(1))
	}
	// What was placed goes from the nursery with the next collection.
	all := append(slices.Clone(list), act(impl.AcMinor), act(impl.AcRef, 4, 0), act(impl.AcGet, 6, 0))
	run = heapRun(t, "collected", smallHeap(), all...)
	wantAnswers(t, "collected", run.Answers[len(list)+1:], does(6), does(77))
	if run.Used != 7 {
		t.Errorf("used %d", run.Used)
	}
	wantLines(t, "steps", stepsOf(t, smallHeap(), all...)[13:17], 0, 4, 4, 3+1+2+(2+3)+1+3)
}

// TestP12GreatObjects: those of two and three lines are stored line by line.
func TestP12GreatObjects(t *testing.T) {
	c := impl.Config{Lines: 16, Log: 3, Young: 60, Types: []string{"riiiiiir", "r" + strings.Repeat("i", 21) + "r"}}
	list := []impl.Act{act(impl.AcNew, 1), act(impl.AcNew, 0), act(impl.AcSet, 0, 21, -5), act(impl.AcPut, 0, 22, 1), act(impl.AcPut, 1, 0, 0),
		act(impl.AcPut, 1, 7, 1), act(impl.AcSet, 1, 6, 8), act(impl.AcBegin), act(impl.AcPublish, 7, 0), act(impl.AcCommit),
		act(impl.AcBegin), act(impl.AcSet, 0, 21, 6), act(impl.AcPut, 0, 0, 1), act(impl.AcCommit), act(impl.AcGet, 0, 21), act(impl.AcCrash),
		act(impl.AcRoot, 7), act(impl.AcGet, 0, 21)}
	run := heapRun(t, "great objects", impl.Format(c), list...)
	if run.Answers[14] != does(6) || run.Answers[17] != does(6) {
		t.Errorf("answers %v", run.Answers)
	}
	wantLines(t, "the map", heldMap(run.Dev), 7, 8, 9, 10, 11)
	wantLines(t, "steps", stepsOf(t, impl.Format(c), list...)[8:10], 4, 5+1+1+(1+1+5)+1+3)
}

// TestP12CollectionsOutside of regions: nothing is remembered, so they make no step of their own.
func TestP12CollectionsOutside(t *testing.T) {
	list := []impl.Act{act(impl.AcNew, 0), act(impl.AcNew, 1), act(impl.AcNew, 0), act(impl.AcPut, 1, 1, 2), act(impl.AcDrop, 2), act(impl.AcDrop, 0)}
	run := heapRun(t, "ahead", smallHeap(), list...)
	if run.Used != 10 {
		t.Errorf("used %d", run.Used)
	}
	for _, kind := range []int64{impl.AcMinor, impl.AcMajor} {
		all := append(slices.Clone(list), act(kind), act(kind), act(kind), act(kind), act(impl.AcRef, 1, 1))
		run = heapRun(t, "collected", smallHeap(), all...)
		if run.Used != 7 || lastOf(run.Answers) != does(0) {
			t.Errorf("kind %d: %+v", kind, run)
		}
		// The ages go up to 3.
		if n := impl.HeapYoung(smallHeap(), powered(-1, all...)); !sameNursery(n, nursery(24, 7, 0, 9, 0, 3, 0, 0)) {
			t.Errorf("kind %d: HeapYoung = %v", kind, n)
		}
		wantLines(t, "steps", stepsOf(t, smallHeap(), all...), make([]int64, len(all))...)
	}
}

// TestP12CollectionsWithinARegion write the remembered words whose references change, and no others.
func TestP12CollectionsWithinARegion(t *testing.T) {
	// Handles: 0 an old pair, 1 .. 3 young ones; 4 is dropped, so that what lies behind it moves.
	ahead := []impl.Act{act(impl.AcRoot, 0), act(impl.AcNew, 0), act(impl.AcNew, 0), act(impl.AcNew, 0), act(impl.AcNew, 1),
		act(impl.AcBegin), act(impl.AcPut, 0, 1, 1), act(impl.AcPublish, 4, 4), act(impl.AcPublish, 5, 3), act(impl.AcDrop, 2), act(impl.AcDrop, 3), act(impl.AcDrop, 4)}
	for _, kind := range []int64{impl.AcMinor, impl.AcMajor} {
		list := append(slices.Clone(ahead), act(kind))
		run := heapRun(t, "collected", smallHeap(), list...)
		// 1 stays at word 0; the triple of slot 4 comes to word 3, the pair of slot 5 to 7.
		n := impl.HeapYoung(smallHeap(), powered(-1, list...))
		if !sameNursery(n, nursery(24, 1, 0, 0, 5, 0, 0, 0, 1, 0, 0)) {
			t.Errorf("HeapYoung = %v", n)
		}
		wantLines(t, "slots", slotsIn(impl.Seen(run.Dev)), 20, 22, 0, 0, 7, 15, 0, 20)
		if wordIn(impl.Seen(run.Dev), 82) != 1 {
			t.Errorf("the word of the pair = %d", wordIn(impl.Seen(run.Dev), 82))
		}
		if n := lastOf(stepsOf(t, smallHeap(), list...)); n != 2 {
			t.Errorf("a collection of %d steps", n)
		}
		// Nothing moves any more, and so nothing is written; the map is not touched.
		again := append(slices.Clone(list), act(kind))
		if n := lastOf(stepsOf(t, smallHeap(), again...)); n != 0 {
			t.Errorf("another one of %d steps", n)
		}
		wantLines(t, "the map", heldMap(run.Dev), 10, 11)
		for _, end := range []int64{impl.AcCommit, impl.AcAbort, impl.AcCrash} {
			heapRun(t, "ended", smallHeap(), append(slices.Clone(list), act(end), act(impl.AcRoot, 4), act(impl.AcRoot, 5))...)
		}
		// Within a region no line goes, since an abort brings back what names it.
		gone := []impl.Act{act(impl.AcBegin), act(impl.AcPublish, 0, -1), act(impl.AcPublish, 1, -1), act(impl.AcPublish, 7, -1), act(kind)}
		run = heapRun(t, "in a region", smallHeap(), gone...)
		wantLines(t, "the map", heldMap(run.Dev), 10, 11)
		run = heapRun(t, "aborted", smallHeap(), append(gone, act(impl.AcAbort))...)
		wantGraph(t, "aborted", run.Safe, graph([]int64{1, 2, 0, 0, 0, 0, 0, 1}, node(0, 4, 2), node(1, 1, 0, 9)))
	}
}

// TestP12ACollectionOfAll: behind it just the lines are taken that handles, slots and nursery reach.
func TestP12ACollectionOfAll(t *testing.T) {
	unpublish := []impl.Act{act(impl.AcBegin), act(impl.AcPublish, 0, -1), act(impl.AcPublish, 1, -1), act(impl.AcPublish, 7, -1), act(impl.AcCommit)}
	for what, c := range map[string]struct {
		ahead []impl.Act
		lines []int64
		steps int64
	}{
		"as it was":     {nil, []int64{10, 11}, 0},
		"nothing":       {unpublish, nil, 3},
		"by a handle":   {append([]impl.Act{act(impl.AcRoot, 1)}, unpublish...), []int64{10, 11}, 0},
		"by the young":  {append([]impl.Act{act(impl.AcRoot, 1), act(impl.AcNew, 0), act(impl.AcPut, 1, 1, 0), act(impl.AcDrop, 0)}, unpublish...), []int64{10, 11}, 0},
		"by the dead":   {append([]impl.Act{act(impl.AcRoot, 1), act(impl.AcNew, 0), act(impl.AcPut, 1, 1, 0), act(impl.AcDrop, 0), act(impl.AcDrop, 1)}, unpublish...), nil, 3},
		"a part of it":  {[]impl.Act{act(impl.AcRoot, 1), act(impl.AcBegin), act(impl.AcPut, 0, 0, -1), act(impl.AcPublish, 0, -1), act(impl.AcPublish, 7, -1), act(impl.AcCommit)}, []int64{11}, 3},
		"one that came": {[]impl.Act{act(impl.AcNew, 1), act(impl.AcBegin), act(impl.AcPublish, 0, 0), act(impl.AcCommit)}, []int64{10, 11, 12}, 0},
	} {
		list := append(slices.Clone(c.ahead), act(impl.AcMajor))
		run := heapRun(t, what, smallHeap(), list...)
		wantLines(t, what, heldMap(run.Dev), c.lines...)
		wantLines(t, what+", at risk", impl.AtRisk(run.Dev))
		wantLines(t, what+", held", impl.HeldLines(smallHeap(), powered(-1, c.ahead...)), c.lines...)
		if n := lastOf(stepsOf(t, smallHeap(), list...)); n != c.steps {
			t.Errorf("%s: %d steps, want %d", what, n, c.steps)
		}
		again := append(list, act(impl.AcMajor))
		if n := lastOf(stepsOf(t, smallHeap(), again...)); n != 0 {
			t.Errorf("%s: another one of %d steps", what, n)
		}
	}
}

// TestP12LinesAreTakenAgain: what a collection of all gave is placed anew.
func TestP12LinesAreTakenAgain(t *testing.T) {
	c := impl.Config{Lines: 8, Log: 2, Young: 20, Types: worldTypes()}
	commit := []impl.Act{act(impl.AcNew, 0), act(impl.AcNew, 0), act(impl.AcPut, 0, 1, 1), act(impl.AcBegin), act(impl.AcPublish, 0, 0), act(impl.AcCommit)}
	list := append(slices.Clone(commit), act(impl.AcDrop, 0), act(impl.AcDrop, 1))
	more := []impl.Act{act(impl.AcNew, 1), act(impl.AcBegin), act(impl.AcPublish, 0, 0), act(impl.AcCommit)}
	full := heapRun(t, "full", impl.Format(c), append(slices.Clone(list), more...)...)
	if lastOf(full.Answers) != refuses(impl.CdOld) || !full.Doomed {
		t.Errorf("full: %+v", full)
	}
	free := append(slices.Clone(list), act(impl.AcBegin), act(impl.AcPublish, 0, -1), act(impl.AcCommit), act(impl.AcMajor))
	run := heapRun(t, "given", impl.Format(c), append(free, more...)...)
	if lastOf(run.Answers) != does(0) {
		t.Errorf("given: %v", run.Answers)
	}
	wantLines(t, "the map", heldMap(run.Dev), 6)
	wantGraph(t, "safe", run.Safe, graph(slots(1), node(1, 0, 0, 0)))
}

func TestP12Evictions(t *testing.T) {
	ahead := withDesk(act(impl.AcBegin), act(impl.AcSet, 0, 0, 6), act(impl.AcPublish, 3, 1))
	before := heapRun(t, "ahead", smallHeap(), ahead...)
	wantLines(t, "at risk", impl.AtRisk(before.Dev), 2, 10)
	for line := int64(-2); line < 22; line++ {
		run := heapRun(t, "evicted", smallHeap(), append(slices.Clone(ahead), act(impl.AcEvict, line))...)
		want := []int64{2, 10}
		if at := slices.Index(want, line); at >= 0 {
			want = slices.Delete(want, at, at+1)
		} else {
			wantDevice(t, "no Line of it", run.Dev, before.Dev)
		}
		wantLines(t, "at risk", impl.AtRisk(run.Dev), want...)
		if impl.Seen(run.Dev) != impl.Seen(before.Dev) {
			t.Errorf("line %d: something else is seen", line)
		}
	}
	for _, line := range edges {
		run := heapRun(t, "far off", smallHeap(), append(slices.Clone(ahead), act(impl.AcEvict, line))...)
		wantDevice(t, "far off", run.Dev, before.Dev)
	}
	// It is no step: it needs no power.
	list := append(powered(-1, ahead...), powered(0, act(impl.AcEvict, 2), act(impl.AcMinor), act(impl.AcEvict, 10))...)
	run := holdHeap(t, "without power", smallHeap(), list)
	wantLines(t, "at risk", impl.AtRisk(run.Dev))
	if run.Off {
		t.Error("off")
	}
}

// roomFor is a heap without objects whose nursery has so many words.
func roomFor(words int64) string {
	c := heapConfig()
	c.Young = words
	return impl.Format(c)
}

func TestP12TheNurseryIsFull(t *testing.T) {
	// Two pairs and a triple fill ten words.
	list := []impl.Act{act(impl.AcNew, 0), act(impl.AcNew, 1), act(impl.AcNew, 0)}
	for words, last := range map[int64]impl.Answer{10: does(2), 9: refuses(impl.CdHeap), 7: refuses(impl.CdHeap), 11: does(2)} {
		run := heapRun(t, "full", roomFor(words), list...)
		wantAnswers(t, "full", run.Answers, does(0), does(1), last)
		if run.Used > words || run.Doomed || run.In {
			t.Errorf("%d words: %+v", words, run)
		}
	}
	// A type that the nursery never has room for.
	for words, want := range map[int64]impl.Answer{2: refuses(impl.CdHeap), 3: does(0), 4: does(0)} {
		wantAnswers(t, "never", heapRun(t, "never", roomFor(words), act(impl.AcNew, 0)).Answers, want)
	}
	if got := heapRun(t, "never", roomFor(3), act(impl.AcNew, 1)).Answers; got[0] != refuses(impl.CdHeap) {
		t.Errorf("a triple in three words: %v", got)
	}
	// What the collection did stays: those that live are older, what was dropped is gone.
	all := append(slices.Clone(list), act(impl.AcDrop, 0), act(impl.AcNew, 1))
	run := heapRun(t, "collected", roomFor(10), all...)
	if lastOf(run.Answers) != refuses(impl.CdHeap) || run.Used != 7 {
		t.Errorf("collected: %+v", run)
	}
	if n := impl.HeapYoung(roomFor(10), powered(-1, all...)); !sameNursery(n, nursery(10, 5, 0, 0, 0, 1, 0, 0)) {
		t.Errorf("HeapYoung = %v", n)
	}
	all = append(all, act(impl.AcNew, 0))
	if run = heapRun(t, "room again", roomFor(10), all...); lastOf(run.Answers) != does(0) || run.Used != 10 {
		t.Errorf("room again: %+v", run)
	}
}

// TestP12TheNurseryIsFullInARegion: the collection writes the remembered words, and the refusal dooms.
func TestP12TheNurseryIsFullInARegion(t *testing.T) {
	list := []impl.Act{act(impl.AcNew, 0), act(impl.AcNew, 1), act(impl.AcDrop, 0), act(impl.AcBegin), act(impl.AcPublish, 2, 1)}
	before := heapRun(t, "ahead", roomFor(9), list...)
	list = append(list, act(impl.AcNew, 0), act(impl.AcNew, 0), act(impl.AcNew, 0))
	run := heapRun(t, "in a region", roomFor(9), list...)
	wantAnswers(t, "in a region", run.Answers[5:], does(0), refuses(impl.CdHeap), refuses(impl.CdDoomed))
	// The triple came to word 0, and then behind the pair of handle 0.
	wantLines(t, "steps", stepsOf(t, roomFor(9), list...)[5:], 1, 1, 0)
	wantLines(t, "slots", slotsIn(impl.Seen(run.Dev)), 0, 0, 7, 0, 0, 0, 0, 0)
	wantGraph(t, "safe", run.Safe, before.Safe)
	if !run.In || !run.Doomed {
		t.Errorf("%+v", run)
	}
	for _, end := range []int64{impl.AcAbort, impl.AcCrash} {
		run = heapRun(t, "ended", roomFor(9), append(slices.Clone(list), act(impl.AcMinor), act(impl.AcMajor), act(impl.AcCommit), act(end))...)
		wantGraph(t, "ended", run.Safe, before.Safe)
	}
}

// TestP12TheLinesAreFull: a commit that has no place changes nothing, and dooms.
func TestP12TheLinesAreFull(t *testing.T) {
	c := impl.Config{Lines: 8, Log: 2, Young: 40, Types: []string{"ir", "rriiiiii", "rri"}}
	made := []impl.Act{act(impl.AcNew, 0), act(impl.AcNew, 2), act(impl.AcNew, 1), act(impl.AcPut, 1, 0, 0), act(impl.AcPut, 1, 1, 2), act(impl.AcBegin)}
	for what, r := range map[string]struct {
		slots []impl.Act
		want  impl.Answer
	}{
		"two of one line":  {[]impl.Act{act(impl.AcPut, 1, 1, -1), act(impl.AcPublish, 0, 1)}, does(0)},
		"one of two lines": {[]impl.Act{act(impl.AcPublish, 0, 2)}, does(0)},
		"one too many":     {[]impl.Act{act(impl.AcPublish, 0, 1)}, refuses(impl.CdOld)},
		"two and one":      {[]impl.Act{act(impl.AcPublish, 0, 2), act(impl.AcPublish, 1, 0)}, refuses(impl.CdOld)},
	} {
		list := append(slices.Clone(made), r.slots...)
		before := heapRun(t, what, impl.Format(c), list...)
		list = append(list, act(impl.AcCommit))
		run := heapRun(t, what, impl.Format(c), list...)
		if lastOf(run.Answers) != r.want {
			t.Errorf("%s: %v", what, run.Answers)
		}
		if r.want.Code == impl.CdOk {
			wantLines(t, what, heldMap(run.Dev), 6, 7)
			continue
		}
		wantDevice(t, what, run.Dev, before.Dev)
		wantGraph(t, what+", now", run.Now, before.Now)
		wantGraph(t, what+", safe", run.Safe, before.Safe)
		if !run.In || !run.Doomed || lastOf(stepsOf(t, impl.Format(c), list...)) != 0 {
			t.Errorf("%s: %+v", what, run)
		}
		run = heapRun(t, what, impl.Format(c), append(list, act(impl.AcCommit), act(impl.AcAbort), act(impl.AcBegin), act(impl.AcPublish, 0, 0), act(impl.AcCommit))...)
		wantAnswers(t, what, run.Answers[len(list):], refuses(impl.CdDoomed), does(0), does(0), does(0), does(0))
	}
}

// TestP12TheLogIsFull: each act that writes an old word or a slot.
func TestP12TheLogIsFull(t *testing.T) {
	c := heapConfig()
	c.Log = 1
	image := smallHeapOf(c)
	for _, a := range []impl.Act{act(impl.AcSet, 0, 0, 8), act(impl.AcPut, 0, 1, 1), act(impl.AcPut, 0, 1, -1), act(impl.AcPublish, 4, 1),
		act(impl.AcPublish, 7, -1), act(impl.AcPut, 2, 1, 2)} {
		ahead := withDesk(act(impl.AcBegin), act(impl.AcPublish, 0, 1))
		before := heapRun(t, "ahead", image, ahead...)
		list := append(slices.Clone(ahead), a, act(impl.AcGet, 0, 0))
		run := heapRun(t, "full", image, list...)
		wantAnswers(t, "full", run.Answers[5:], refuses(impl.CdLog), refuses(impl.CdDoomed))
		wantDevice(t, "full", run.Dev, before.Dev)
		wantGraph(t, "full", run.Now, before.Now)
		if !run.Doomed {
			t.Errorf("%v dooms nothing", a)
		}
		run = heapRun(t, "aborted", image, append(list, act(impl.AcAbort), act(impl.AcBegin), a, act(impl.AcCommit))...)
		wantAnswers(t, "aborted", run.Answers[7:], does(0), does(0), does(0), does(0))
	}
	// Words of the half that is kept may be written still, and young objects.
	list := withDesk(act(impl.AcBegin), act(impl.AcPublish, 0, 1), act(impl.AcPublish, 1, -1), act(impl.AcPublish, 3, 2), act(impl.AcSet, 1, 0, 3),
		act(impl.AcPut, 1, 1, 1), act(impl.AcPublish, 0, 0), act(impl.AcCommit))
	wantAnswers(t, "one half", heapRun(t, "one half", image, list...).Answers[4:], does(0), does(0), does(0), does(0), does(0), does(0), does(0))
	// The other codes of the row come first.
	for code, a := range map[int64]impl.Act{impl.CdHandle: act(impl.AcPublish, 4, 5), impl.CdSlot: act(impl.AcPublish, 8, 1), impl.CdField: act(impl.AcSet, 0, 2, 0), impl.CdWrong: act(impl.AcPut, 0, 0, 1)} {
		run := heapRun(t, "other codes", image, withDesk(act(impl.AcBegin), act(impl.AcPublish, 0, 1), a)...)
		if lastOf(run.Answers) != refuses(code) {
			t.Errorf("%v = %v", a, lastOf(run.Answers))
		}
	}
}

// TestP12TheLastEpoch: when there is none behind it nothing can be logged.
func TestP12TheLastEpoch(t *testing.T) {
	last := withLine(smallHeap(), 1, impl.EpochLine(impl.MaxEpoch))
	for _, a := range []impl.Act{act(impl.AcSet, 0, 0, 8), act(impl.AcPut, 0, 1, 1), act(impl.AcPublish, 4, 1)} {
		run := heapRun(t, "the last", last, withDesk(act(impl.AcBegin), a)...)
		if lastOf(run.Answers) != refuses(impl.CdLog) || !run.Doomed {
			t.Errorf("%v: %+v", a, run)
		}
		ahead := withLine(smallHeap(), 1, impl.EpochLine(impl.MaxEpoch-1))
		run = heapRun(t, "the one ahead", ahead, withDesk(act(impl.AcBegin), a, act(impl.AcCommit), act(impl.AcBegin), act(impl.AcPublish, 0, 1), act(impl.AcCrash))...)
		wantAnswers(t, "the one ahead", run.Answers[4:], does(0), does(0), does(0), refuses(impl.CdLog), does(0))
	}
	run := heapRun(t, "nothing logged", last, withDesk(act(impl.AcBegin), act(impl.AcSet, 1, 0, 3), act(impl.AcCommit))...)
	wantAnswers(t, "nothing logged", run.Answers[3:], does(0), does(0), does(0))
}

// someHeap is an image that can be opened, in which room is scarce now and then.
func (d *dice) someHeap() string {
	c := impl.Config{Lines: 8 + d.below(18), Young: 6 + d.below(50), Types: []string{"ir", "rri", "irr"}}
	if d.below(3) == 0 {
		c.Types = append(c.Types, d.kinds(8+d.below(3)), d.kinds(16+d.below(8)))
	}
	c.Log = 1 + d.below(min(2+4*d.below(2), c.Lines-5))
	if d.below(3) == 0 {
		return impl.Format(c)
	}
	image, _ := d.someOlds(c, 0)
	return image
}

// greatHeap has room for all that is done with it.
func (d *dice) greatHeap() string {
	c := impl.Config{Lines: 100, Log: 32, Young: 400, Types: []string{"ir", "rri", "irr", "riiiiiir"}}
	if d.below(2) == 0 {
		return impl.Format(c)
	}
	image := withRoots(oldImage(c, oldThing{90, node(0, 3, 184)}, oldThing{92, node(1, 180, 186, 7)}, oldThing{93, node(2, 0, 0, 184)}), 180, 0, 184, 184)
	return image
}

// someWork are acts of which a world, without limits, refuses few.
func (d *dice) someWork(image string, count int64) []impl.Act {
	c, _ := impl.ConfigOf(image)
	was, _ := impl.Undone(image)
	g, _ := impl.DurableOf(c, was)
	acts := d.someActs(c.Types, mostActs)
	for i := range acts {
		// More of what fills log, lines and nursery.
		if d.below(3) == 0 {
			acts[i].Kind = []int64{impl.AcNew, impl.AcPut, impl.AcPut, impl.AcBegin, impl.AcPublish, impl.AcPublish, impl.AcCommit}[d.below(7)]
		}
	}
	list := d.mended(c.Types, g, acts)
	list = list[:min(count, int64(len(list)))]
	for i := range list {
		list[i].Power = -1
		if list[i].Kind == impl.AcEvict {
			list[i].A = d.somePlace(c.Lines)
		}
		for range d.below(6) {
			list[i].Keep = append(list[i].Keep, d.below(4)-1)
		}
	}
	return list
}

// TestP12AnyActs holds runs with all power against chapter 12 line by line, and against worlds.
func TestP12AnyActs(t *testing.T) {
	d := &dice{state: 120}
	codes := map[int64]int{}
	for range 500 {
		image := d.someHeap()
		for _, a := range heapRun(t, "all power", image, d.someWork(image, mostActs)...).Answers {
			codes[a.Code]++
		}
	}
	for code := int64(impl.CdOk); code <= impl.CdLog; code++ {
		if codes[code] < 2 {
			t.Errorf("code %d came up %d times alone", code, codes[code])
		}
	}
	if codes[impl.CdHeap] < 30 || codes[impl.CdOld] < 5 || codes[impl.CdLog] < 20 {
		t.Errorf("codes %v", codes)
	}
}

// TestP12AnyPower: the same where power fails, and comes back, anywhere.
func TestP12AnyPower(t *testing.T) {
	d := &dice{state: 121}
	codes := map[int64]int{}
	for range 500 {
		image := d.someHeap()
		list := d.someWork(image, mostActs)
		off := false
		for i, n := range impl.StepsOf(image, list) {
			switch {
			case off && d.below(3) == 0:
				list[i].Kind = impl.AcCrash
				list[i].Power = d.below(14) - 2
				off = false
			case n > 0 && d.below(4) == 0:
				list[i].Power = d.below(n + 1)
				off = true
			}
		}
		for _, a := range holdHeap(t, "any power", image, list).Answers {
			codes[a.Code]++
		}
	}
	if codes[impl.CdPower] < 50 || codes[impl.CdOff] < 100 {
		t.Errorf("codes %v", codes)
	}
}

// TestP12ActByAct holds what is there behind each act of a run.
func TestP12ActByAct(t *testing.T) {
	d := &dice{state: 122}
	for range 25 {
		image := d.someHeap()
		list := d.someWork(image, mostActs)
		for i := range list {
			run := heapRun(t, "the first acts", image, list[:i+1]...)
			if run.In || run.Doomed {
				continue
			}
			// Outside of regions all is safe, and stays so whatever a loss of power leaves.
			wantLines(t, "at risk", impl.AtRisk(run.Dev))
		}
	}
}

// TestP12StrewnCollections: collections and evictions anywhere change no answer, nor what is there.
func TestP12StrewnCollections(t *testing.T) {
	d := &dice{state: 123}
	for range 60 {
		image := d.greatHeap()
		list := slices.DeleteFunc(d.someWork(image, 40), func(a impl.Act) bool {
			return a.Kind == impl.AcMinor || a.Kind == impl.AcMajor || a.Kind == impl.AcEvict
		})
		plain := heapRun(t, "plain", image, list...)
		for range 4 {
			var strewn []impl.Act
			var places []int
			for i, a := range list {
				for len(strewn)-i < mostActs-len(list) && d.below(3) == 0 {
					strewn = append(strewn, act(impl.AcMinor+d.below(3), d.below(100)))
				}
				places = append(places, len(strewn))
				strewn = append(strewn, a)
			}
			run := heapRun(t, "strewn", image, strewn...)
			for i, at := range places {
				if run.Answers[at] != plain.Answers[i] {
					t.Fatalf("act %d of %v: %v, without collections %v", at, strewn, run.Answers[at], plain.Answers[i])
				}
			}
			wantGraph(t, "now", run.Now, plain.Now)
			wantGraph(t, "safe", run.Safe, plain.Safe)
		}
		for _, code := range impl.DenyOf(plain.Answers) {
			if code != 0 {
				t.Fatalf("something is full: %v", plain.Answers)
			}
		}
	}
}

// workDay has every kind of act that makes steps, within a region and outside of one. It wants
// smallHeap with a nursery of 14 words.
func workDay() []impl.Act {
	// A ring of two is named by slot 4 and by an old pair, a triple by slot 5; what lies ahead of them goes.
	list := []impl.Act{
		act(impl.AcRoot, 0), act(impl.AcNew, 0), act(impl.AcNew, 0), act(impl.AcNew, 1), act(impl.AcPut, 2, 1, 3), act(impl.AcPut, 3, 0, 2),
		act(impl.AcBegin), act(impl.AcSet, 0, 0, 44), act(impl.AcPut, 0, 1, 3), act(impl.AcPublish, 4, 2), act(impl.AcDrop, 1), act(impl.AcMinor),
		act(impl.AcNew, 1), act(impl.AcPublish, 5, 1), act(impl.AcDrop, 2), act(impl.AcNew, 0), act(impl.AcDrop, 2),
	}
	// The nursery is full, then all that is remembered moves again.
	list = append(list, act(impl.AcNew, 0), act(impl.AcDrop, 1), act(impl.AcMajor), act(impl.AcEvict, 2), act(impl.AcCommit), act(impl.AcMajor))
	// Lines 10 and 11 are of nobody any more.
	list = append(list, act(impl.AcBegin), act(impl.AcPublish, 0, -1), act(impl.AcPublish, 7, -1), act(impl.AcPublish, 1, -1), act(impl.AcPublish, 6, 2),
		act(impl.AcSet, 2, 0, 5), act(impl.AcEvict, 10), act(impl.AcCommit), act(impl.AcDrop, 0), act(impl.AcDrop, 3), act(impl.AcMajor))
	list = append(list, act(impl.AcRoot, 6), act(impl.AcBegin), act(impl.AcSet, 0, 0, 6), act(impl.AcPut, 0, 1, 0), act(impl.AcAbort),
		act(impl.AcBegin), act(impl.AcPublish, 2, 0), act(impl.AcSet, 0, 0, 8), impl.Act{Kind: impl.AcCrash, Keep: []int64{2, 0}}, act(impl.AcMajor))
	return powered(-1, list...)
}

// TestP12PowerThatFails: each act of a day with every power, and then losses of power, again and again.
func TestP12PowerThatFails(t *testing.T) {
	d := &dice{state: 124}
	c := heapConfig()
	c.Young = 14
	image := smallHeapOf(c)
	list := workDay()
	steps := impl.StepsOf(image, list)
	wantLines(t, "steps", steps, 0, 0, 0, 0, 0, 0, 0, 4, 1, 4, 0, 2, 0, 1, 0, 0, 0, 3, 0, 3, 0, 3+1+3+6+1+3, 0,
		0, 4, 4, 1, 1, 0, 0, 1+1+1+3+1+3, 0, 0, 3, 0, 0, 4, 1, 1+1+1+3, 0, 4, 4, 2+2+1+3, 0)
	kinds := map[int64]bool{}
	for i, a := range list {
		before, after := impl.HeapPlay(image, list[:i]), impl.HeapPlay(image, list[:i+1])
		kinds[a.Kind] = kinds[a.Kind] || steps[i] > 0
		for power := int64(0); power <= steps[i]+1; power++ {
			some := append(slices.Clone(list[:i]), a)
			some[i].Power = power
			run := holdHeap(t, "a power", image, some)
			if power >= steps[i] {
				if !sameRun(run, after) {
					t.Fatalf("act %d with power %d: %+v\nwant %+v", i, power, run, after)
				}
				continue
			}
			wantOff(t, run, i)
			holdLosses(t, d, image, some, run.Dev, before.Safe, after.Safe)
		}
	}
	for _, kind := range []int64{impl.AcNew, impl.AcSet, impl.AcPut, impl.AcPublish, impl.AcCommit, impl.AcAbort, impl.AcMinor, impl.AcMajor, impl.AcCrash} {
		if !kinds[kind] {
			t.Errorf("no act of kind %d makes a step", kind)
		}
	}
}

// wantOff: the last act lost the power, and all but the device with it.
func wantOff(t *testing.T, run impl.Run, last int) {
	t.Helper()
	if run.Code != impl.RnOk || len(run.Answers) != last+1 || run.Answers[last] != refuses(impl.CdPower) || !run.Off {
		t.Fatalf("%+v", run)
	}
	if run.In || run.Doomed || run.Used != 0 || !sameGraphs(run.Now, impl.Graph{}) || !sameGraphs(run.Safe, impl.Graph{}) || !impl.DeviceOk(run.Dev) {
		t.Fatalf("something is there: %+v", run)
	}
}

// holdLosses goes on behind an act that lost the power: what is there behind the crash that goes well is
// what was safe ahead of it, or, when it was a commit, what it makes.
func holdLosses(t *testing.T, d *dice, image string, some []impl.Act, dev impl.Device, before, after impl.Graph) {
	t.Helper()
	isCommit := lastOf(some).Kind == impl.AcCommit
	for _, keep := range d.losses(len(dev.Lines)) {
		list := append(slices.Clone(some), powered(-1, act(impl.AcGet, 0, 0), act(19))...)
		for range d.below(4) {
			again := impl.Act{Kind: impl.AcCrash, Power: d.below(8), Keep: keep}
			list = append(list, again, impl.Act{Kind: impl.AcNew, Power: -1})
			keep = d.losses(4)[d.below(9)]
		}
		list = append(list, impl.Act{Kind: impl.AcCrash, Power: -1, Keep: keep})
		run := impl.HeapPlay(image, list)
		wantAnswers(t, "off", run.Answers[len(some):len(some)+2], refuses(impl.CdOff), refuses(impl.CdOff))
		if run.Off || run.In || run.Doomed || lastOf(run.Answers) != does(0) || run.Used != 0 {
			t.Fatalf("behind the crash that goes well: %+v", run)
		}
		if !sameGraphs(run.Safe, before) && !(isCommit && sameGraphs(run.Safe, after)) {
			t.Fatalf("safe behind %v\n = %v\nwant %v\nor %v", list, run.Safe, before, after)
		}
		wantGraph(t, "now", run.Now, graph(append(make([]int64, handleCount), run.Safe.Roots...), run.Safe.Nodes...))
		wantLines(t, "at risk", impl.AtRisk(run.Dev))
		wantLines(t, "the map", heldMap(run.Dev), impl.HeldLines(image, list)...)
	}
}

// TestP12PowerThatFailsAnywhere: the same of acts by chance.
func TestP12PowerThatFailsAnywhere(t *testing.T) {
	d := &dice{state: 125}
	cuts := 0
	for range 150 {
		image := d.someHeap()
		list := d.someWork(image, 25)
		steps := impl.StepsOf(image, list)
		for i := range list {
			if steps[i] == 0 {
				continue
			}
			before, after := impl.HeapPlay(image, list[:i]), impl.HeapPlay(image, list[:i+1])
			some := append(slices.Clone(list[:i]), list[i])
			some[i].Power = d.below(steps[i])
			run := impl.HeapPlay(image, some)
			wantOff(t, run, i)
			holdLosses(t, d, image, some, run.Dev, before.Safe, after.Safe)
			cuts++
		}
	}
	if cuts < 100 {
		t.Errorf("%d cuts alone", cuts)
	}
}

// TestP12ACommitIsSafeOnceItsEpochIs: up to its last step but one a loss of all that is at risk undoes it.
func TestP12ACommitIsSafeOnceItsEpochIs(t *testing.T) {
	list := append(powered(-1, regionWork()...), impl.Act{Kind: impl.AcCommit, Power: -1})
	steps := lastOf(impl.StepsOf(smallHeap(), list))
	before, after := heapRun(t, "ahead", smallHeap()).Safe, heapRun(t, "committed", smallHeap(), list...).Safe
	if sameGraphs(before, after) {
		t.Fatal("the commit makes nothing")
	}
	all := []int64{2, 2, 2, 2, 2, 2, 2, 2}
	for power := range steps + 1 {
		some := slices.Clone(list)
		some[len(some)-1].Power = power
		for _, c := range []struct {
			keep  []int64
			after bool
		}{{nil, power == steps}, {all, power >= steps-2}} {
			run := holdHeap(t, "lost", smallHeap(), append(slices.Clone(some), impl.Act{Kind: impl.AcCrash, Power: -1, Keep: c.keep}))
			want := before
			if c.after {
				want = after
			}
			wantGraph(t, "lost", run.Safe, want)
		}
	}
}

// TestP12PowerOfACrash: as many steps as it takes to recover, and one less.
func TestP12PowerOfACrash(t *testing.T) {
	list := append(powered(-1, regionWork()...), impl.Act{Kind: impl.AcCommit, Power: 10})
	off := impl.HeapPlay(smallHeap(), list)
	if !off.Off {
		t.Fatalf("%+v", off)
	}
	for _, keep := range [][]int64{nil, {2, 2, 2, 2, 2}, {0, 1, 0, 1, 0}, {3, -1, 2}} {
		left := impl.Crash(off.Dev, keep).Safe
		steps := impl.OpenSteps(left)
		if steps < 8 {
			t.Errorf("recovered in %d steps", steps)
		}
		for power := int64(-3); power <= steps+1; power++ {
			run := holdHeap(t, "a crash", smallHeap(), append(slices.Clone(list), impl.Act{Kind: impl.AcCrash, Power: power, Keep: keep}))
			d, code := impl.Recovered(left, power)
			wantDevice(t, "a crash", run.Dev, d)
			failed := power >= 0 && power < steps
			if run.Off != failed || (code == impl.RcPower) != failed || (lastOf(run.Answers) == refuses(impl.CdPower)) != failed {
				t.Errorf("power %d of %d: %+v", power, steps, run)
			}
		}
	}
}

// TestP12Off: each act but a crash, whatever it is.
func TestP12Off(t *testing.T) {
	list := append(powered(-1, withDesk(act(impl.AcBegin))...), impl.Act{Kind: impl.AcSet, C: 7, Power: 3})
	off := impl.HeapPlay(smallHeap(), list)
	wantOff(t, off, 4)
	for kind := int64(-1); kind <= 20; kind++ {
		for _, power := range []int64{-1, 0, 5} {
			run := holdHeap(t, "off", smallHeap(), append(slices.Clone(list), impl.Act{Kind: kind, Power: power}))
			if kind == impl.AcCrash {
				if run.Off != (power >= 0) {
					t.Errorf("a crash with power %d: %+v", power, run)
				}
				continue
			}
			if lastOf(run.Answers) != refuses(impl.CdOff) || !run.Off {
				t.Errorf("kind %d: %+v", kind, run)
			}
			wantDevice(t, "off", run.Dev, off.Dev)
		}
	}
	if n := impl.HeapYoung(smallHeap(), list); !sameNursery(n, impl.Nursery{}) {
		t.Errorf("HeapYoung = %v", n)
	}
	wantLines(t, "HeldLines", impl.HeldLines(smallHeap(), list))
	// Behind a crash that goes well there is all again.
	more := append(slices.Clone(list), powered(-1, act(impl.AcCrash), act(impl.AcNew, 0), act(impl.AcRoot, 0))...)
	run := holdHeap(t, "on again", smallHeap(), more)
	wantAnswers(t, "on again", run.Answers[5:], does(0), does(0), does(1))
	if n := impl.HeapYoung(smallHeap(), more); !sameNursery(n, nursery(24, 0, 0, 0)) {
		t.Errorf("HeapYoung = %v", n)
	}
}

// noHeap: nothing is told, wherever it is asked.
func noHeap(t *testing.T, what string, image string, list []impl.Act, code int64) {
	t.Helper()
	if run := impl.HeapPlay(image, list); !sameRun(run, impl.Run{Code: code}) {
		t.Errorf("%s: HeapPlay = %+v, want code %d", what, run, code)
	}
	if n := impl.HeapYoung(image, list); !sameNursery(n, impl.Nursery{}) {
		t.Errorf("%s: HeapYoung = %v", what, n)
	}
	wantLines(t, what+": HeldLines", impl.HeldLines(image, list))
	wantLines(t, what+": StepsOf", impl.StepsOf(image, list))
	if n := impl.PeakOf(image, list); n != -1 {
		t.Errorf("%s: PeakOf = %d", what, n)
	}
}

func TestP12LimitsOfHeaps(t *testing.T) {
	for _, a := range []impl.Act{act(impl.AcNew), act(0), act(impl.AcCrash), {Kind: impl.AcMajor, Power: 0}} {
		holdHeap(t, "60 acts", smallHeap(), repeated(60, a))
		noHeap(t, "61 acts", smallHeap(), repeated(61, a), impl.RnForm)
		// The acts are asked ahead of the image.
		noHeap(t, "61 acts", "", repeated(61, a), impl.RnForm)
		noHeap(t, "no image", "", repeated(60, a), impl.RnImage)
	}
	for what, image := range map[string]string{
		"nothing": "", "a byte": "x", "a byte less": smallHeap()[:20*64-1], "a byte more": smallHeap() + "\x00", "a line less": smallHeap()[:19*64],
		"noughts": noughts(20 * 64), "no epoch": withLine(smallHeap(), 1, noughts(64)), "a young root": withRoots(smallHeap(), 1),
		"no object": withRoots(smallHeap(), 26), "no log": withLine(smallHeap(), 4, recordOf(0, 1, 4, "a")),
	} {
		noHeap(t, what, image, nil, impl.RnImage)
		noHeap(t, what, image, powered(-1, regionWork()...), impl.RnImage)
	}
}

// TestP12AnyNumbersInActs: whatever an act has, it is answered.
func TestP12AnyNumbersInActs(t *testing.T) {
	d := &dice{state: 126}
	some := append([]int64{0, 1, 2, 3, 7, 8, 11, 12, 19, 20, 127, 128}, edges...)
	pick := func() int64 { return some[d.below(int64(len(some)))] }
	for range 150 {
		list := powered(-1, withDesk()...)
		if d.below(2) == 0 {
			list = append(list, impl.Act{Kind: impl.AcBegin, Power: -1})
		}
		for range 20 {
			a := impl.Act{Kind: 1 + d.below(18), A: pick(), B: pick(), C: pick(), Power: -1, Keep: []int64{pick(), pick(), pick()}}
			if d.below(4) == 0 {
				a.Power = pick()
			}
			if d.below(10) == 0 {
				a.Kind = pick()
			}
			list = append(list, a)
		}
		holdHeap(t, "any numbers", smallHeap(), list)
	}
}

func TestP17ArgumentsOfHeapsStay(t *testing.T) {
	work := append(powered(-1, regionWork()...), powered(-1, act(impl.AcMinor), act(impl.AcCommit), act(impl.AcBegin), act(impl.AcSet, 0, 0, 3), act(impl.AcCrash), act(impl.AcRoot, 1), act(impl.AcNew), act(impl.AcBegin), act(impl.AcPublish, 3, 1))...)
	list, look := roomyActs(work)
	before := look()
	ask := func() string {
		run := impl.HeapPlay(smallHeap(), list)
		n := impl.HeapYoung(smallHeap(), list)
		lines := impl.HeldLines(smallHeap(), list[:len(list)-2])
		steps := impl.StepsOf(smallHeap(), list)
		text := numbersText(n.Words) + numbersText(lines) + numbersText(steps) + numbersText([]int64{n.Size, run.Used, impl.PeakOf(smallHeap(), list)})
		text += impl.GraphText(worldTypes(), run.Now) + impl.GraphText(worldTypes(), run.Safe) + impl.Seen(run.Dev)
		for _, a := range run.Answers {
			text += numbersText([]int64{a.Code, a.N})
		}
		safe, dev := copied(run.Safe), impl.Device{Safe: run.Dev.Safe, Lines: slices.Clone(run.Dev.Lines)}
		spoil(run.Now)
		if !sameGraphs(run.Safe, safe) {
			t.Error("Now and Safe share memory")
		}
		spoil(run.Safe)
		wantDevice(t, "apart", run.Dev, dev)
		for i := range run.Dev.Lines {
			run.Dev.Lines[i].Data = "spoilt"
		}
		for i := range run.Answers {
			run.Answers[i].N = 99
		}
		spoilNumbers(n.Words)
		spoilNumbers(lines)
		spoilNumbers(steps)
		return text
	}
	first := ask()
	if again := ask(); again != first {
		t.Errorf("first %q, then %q", first, again)
	}
	if look() != before {
		t.Errorf("acts %s, were %s", look(), before)
	}
}
