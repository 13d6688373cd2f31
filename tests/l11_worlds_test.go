package tests

import (
	"math"
	"slices"
	"strconv"
	"strings"
	"testing"

	"loop.example/g00648/impl"
)

const (
	handleCount = 12
	slotCount   = 8
	mostActs    = 60
)

// act has as many of A, B and C as its kind names.
func act(kind int64, numbers ...int64) impl.Act {
	all := append(slices.Clone(numbers), 0, 0, 0)
	return impl.Act{Kind: kind, A: all[0], B: all[1], C: all[2]}
}

func does(n int64) impl.Answer { return impl.Answer{N: n} }

func refuses(code int64) impl.Answer { return impl.Answer{Code: code} }

func repeated(n int, a impl.Act) []impl.Act { return slices.Repeat([]impl.Act{a}, n) }

// slots has these, and nothing behind them.
func slots(refs ...int64) []int64 { return append(refs, make([]int64, slotCount-len(refs))...) }

func worldTypes() []string { return []string{"ir", "rri"} }

// smallWorld has a pair in slots 0 and 7, a triple in slot 1 that names it, and a pair
// that no slot reaches.
func smallWorld() impl.Graph {
	roots := slots(1, 2)
	roots[7] = 1
	return graph(roots, node(0, 4, 2), node(1, 1, 0, 9), node(0, 5, 1))
}

// withDesk takes handle 0 of the pair of slot 0, 1 of a new pair, 2 of the triple.
func withDesk(more ...impl.Act) []impl.Act {
	desk := []impl.Act{act(impl.AcRoot, 0), act(impl.AcNew, 0), act(impl.AcRoot, 1)}
	return append(desk, more...)
}

// played is the run of acts that no deny refuses; it asks what holds of all runs.
func played(t *testing.T, types []string, g impl.Graph, list ...impl.Act) impl.Run {
	t.Helper()
	return deniedRun(t, types, g, list, nil)
}

func deniedRun(t *testing.T, types []string, g impl.Graph, list []impl.Act, deny []int64) impl.Run {
	t.Helper()
	run := impl.WorldPlay(types, g, list, deny)
	if run.Code != impl.RnOk || len(run.Answers) != len(list) {
		t.Fatalf("WorldPlay = %+v", run)
	}
	if run.Off || run.Used != 0 || run.Dev.Safe != "" || len(run.Dev.Lines) != 0 || (run.Doomed && !run.In) {
		t.Errorf("a world has no device: %+v", run)
	}
	if len(run.Now.Roots) != handleCount+slotCount || len(run.Safe.Roots) != slotCount {
		t.Errorf("roots %v and %v", run.Now.Roots, run.Safe.Roots)
	}
	return run
}

func wantAnswers(t *testing.T, what string, got []impl.Answer, want ...impl.Answer) {
	t.Helper()
	if !slices.Equal(got, want) {
		t.Errorf("%s: answers %v, want %v", what, got, want)
	}
}

// lastAnswer is what the last act answered.
func lastAnswer(t *testing.T, types []string, g impl.Graph, list ...impl.Act) impl.Answer {
	t.Helper()
	return played(t, types, g, list...).Answers[len(list)-1]
}

func wantGraph(t *testing.T, what string, got, want impl.Graph) {
	t.Helper()
	if !sameGraphs(got, want) {
		t.Errorf("%s: %v, want %v", what, got, want)
	}
}

// An actCase is an act behind others, and what it answers.
type actCase struct {
	act  impl.Act
	want impl.Answer
}

func wantEach(t *testing.T, ahead []impl.Act, cases []actCase) {
	t.Helper()
	for _, c := range cases {
		list := append(slices.Clone(ahead), c.act)
		if got := lastAnswer(t, worldTypes(), smallWorld(), list...); got != c.want {
			t.Errorf("%v behind %v = %v, want %v", c.act, ahead, got, c.want)
		}
	}
}

func TestP11ActsOutsideOfRegions(t *testing.T) { wantEach(t, withDesk(), outsideCases()) }

func TestP11ActsWithinRegions(t *testing.T) {
	wantEach(t, withDesk(act(impl.AcBegin)), withinCases())
}

// outsideCases are of acts behind withDesk.
func outsideCases() []actCase {
	return []actCase{
		{act(impl.AcNew, 0), does(3)},
		{act(impl.AcNew, 1), does(3)},
		{act(impl.AcNew, -1), refuses(impl.CdType)},
		{act(impl.AcNew, 2), refuses(impl.CdType)},
		{act(impl.AcGet, 0, 0), does(4)},
		{act(impl.AcGet, 1, 0), does(0)},
		{act(impl.AcGet, 2, 2), does(9)},
		{act(impl.AcGet, 0, 1), refuses(impl.CdWrong)},
		{act(impl.AcGet, 2, 0), refuses(impl.CdWrong)},
		{act(impl.AcGet, 0, -1), refuses(impl.CdField)},
		{act(impl.AcGet, 0, 2), refuses(impl.CdField)},
		{act(impl.AcGet, 2, 3), refuses(impl.CdField)},
		{act(impl.AcSet, 1, 0, 7), does(0)},
		{act(impl.AcSet, 0, 0, 7), refuses(impl.CdRegion)},
		{act(impl.AcSet, 0, 1, 7), refuses(impl.CdWrong)},
		{act(impl.AcSet, 1, 1, 7), refuses(impl.CdWrong)},
		{act(impl.AcSet, 0, -1, 7), refuses(impl.CdField)},
		{act(impl.AcSet, 1, 2, 7), refuses(impl.CdField)},
		{act(impl.AcRef, 0, 1), does(3)},
		{act(impl.AcRef, 2, 0), does(3)},
		{act(impl.AcRef, 2, 1), does(-1)},
		{act(impl.AcRef, 1, 1), does(-1)},
		{act(impl.AcRef, 0, 0), refuses(impl.CdWrong)},
		{act(impl.AcRef, 2, 2), refuses(impl.CdWrong)},
		{act(impl.AcRef, 2, 3), refuses(impl.CdField)},
		{act(impl.AcRef, 2, -1), refuses(impl.CdField)},
		{act(impl.AcPut, 1, 1, 0), does(0)},
		{act(impl.AcPut, 1, 1, 1), does(0)},
		{act(impl.AcPut, 1, 1, -1), does(0)},
		{act(impl.AcPut, 1, 1, -2), refuses(impl.CdHandle)},
		{act(impl.AcPut, 1, 1, 3), refuses(impl.CdHandle)},
		{act(impl.AcPut, 1, 1, 12), refuses(impl.CdHandle)},
		{act(impl.AcPut, 1, 0, 0), refuses(impl.CdWrong)},
		{act(impl.AcPut, 1, 2, 0), refuses(impl.CdField)},
		{act(impl.AcPut, 1, -1, 0), refuses(impl.CdField)},
		{act(impl.AcPut, 0, 1, 1), refuses(impl.CdRegion)},
		{act(impl.AcPut, 0, 1, -1), refuses(impl.CdRegion)},
		{act(impl.AcDrop, 2), does(0)},
		{act(impl.AcSame, 0, 0), does(1)},
		{act(impl.AcSame, 0, 1), does(0)},
		{act(impl.AcType, 0), does(0)},
		{act(impl.AcType, 2), does(1)},
		{act(impl.AcDurable, 0), does(1)},
		{act(impl.AcDurable, 1), does(0)},
		{act(impl.AcBegin), does(0)},
		{act(impl.AcPublish, 0, 1), refuses(impl.CdRegion)},
		{act(impl.AcPublish, 0, -1), refuses(impl.CdRegion)},
		{act(impl.AcRoot, 0), does(3)},
		{act(impl.AcRoot, 7), does(3)},
		{act(impl.AcRoot, 6), does(-1)},
		{act(impl.AcRoot, -1), refuses(impl.CdSlot)},
		{act(impl.AcRoot, 8), refuses(impl.CdSlot)},
		{act(impl.AcCommit), refuses(impl.CdRegion)},
		{act(impl.AcAbort), refuses(impl.CdRegion)},
		{act(impl.AcMinor), does(0)},
		{act(impl.AcMajor), does(0)},
		{act(impl.AcEvict, 3), does(0)},
		{act(impl.AcCrash), does(0)},
		{act(0), refuses(impl.CdForm)},
		{act(19), refuses(impl.CdForm)},
		{act(-1), refuses(impl.CdForm)},
	}
}

// withinCases are of acts behind withDesk and a region's beginning.
func withinCases() []actCase {
	return []actCase{
		{act(impl.AcNew, 1), does(3)},
		{act(impl.AcSet, 0, 0, 7), does(0)},
		{act(impl.AcSet, 1, 0, 7), does(0)},
		{act(impl.AcSet, 2, 2, 7), does(0)},
		{act(impl.AcPut, 0, 1, 1), does(0)},
		{act(impl.AcPut, 0, 1, -1), does(0)},
		{act(impl.AcPut, 2, 0, 2), does(0)},
		{act(impl.AcBegin), refuses(impl.CdRegion)},
		{act(impl.AcPublish, 0, 1), does(0)},
		{act(impl.AcPublish, 7, 2), does(0)},
		{act(impl.AcPublish, 7, -1), does(0)},
		{act(impl.AcPublish, 0, -2), refuses(impl.CdHandle)},
		{act(impl.AcPublish, 0, 3), refuses(impl.CdHandle)},
		{act(impl.AcPublish, 0, 12), refuses(impl.CdHandle)},
		{act(impl.AcPublish, 8, 1), refuses(impl.CdSlot)},
		{act(impl.AcPublish, -1, 1), refuses(impl.CdSlot)},
		{act(impl.AcCommit), does(0)},
		{act(impl.AcAbort), does(0)},
		{act(impl.AcCrash), does(0)},
		{act(19), refuses(impl.CdForm)},
	}
}

// TestP11HandlesThatAreNotUsed asks of every place where an act names a handle.
func TestP11HandlesThatAreNotUsed(t *testing.T) {
	for _, handle := range append([]int64{-2, 3, 11, 12, 13}, edges...) {
		wantEach(t, withDesk(act(impl.AcBegin)), []actCase{
			{act(impl.AcGet, handle, 0), refuses(impl.CdHandle)},
			{act(impl.AcSet, handle, 0, 1), refuses(impl.CdHandle)},
			{act(impl.AcRef, handle, 1), refuses(impl.CdHandle)},
			{act(impl.AcPut, handle, 1, 0), refuses(impl.CdHandle)},
			{act(impl.AcDrop, handle), refuses(impl.CdHandle)},
			{act(impl.AcSame, handle, 0), refuses(impl.CdHandle)},
			{act(impl.AcSame, 0, handle), refuses(impl.CdHandle)},
			{act(impl.AcSame, handle, handle), refuses(impl.CdHandle)},
			{act(impl.AcType, handle), refuses(impl.CdHandle)},
			{act(impl.AcDurable, handle), refuses(impl.CdHandle)},
		})
		if handle != -1 {
			wantEach(t, withDesk(act(impl.AcBegin)), []actCase{
				{act(impl.AcPut, 1, 1, handle), refuses(impl.CdHandle)},
				{act(impl.AcPublish, 0, handle), refuses(impl.CdHandle)},
			})
		}
	}
	wantEach(t, withDesk(act(impl.AcBegin)), []actCase{
		{act(impl.AcGet, -1, 0), refuses(impl.CdHandle)},
		{act(impl.AcPut, -1, 1, -1), refuses(impl.CdHandle)},
		{act(impl.AcSame, 0, -1), refuses(impl.CdHandle)},
		{act(impl.AcDrop, -1), refuses(impl.CdHandle)},
	})
}

// TestP11TheFirstCode: where several codes fit, the first one in the order of the row.
func TestP11TheFirstCode(t *testing.T) {
	wantEach(t, withDesk(), []actCase{
		{act(impl.AcGet, 3, 9), refuses(impl.CdHandle)},
		{act(impl.AcSet, 3, 9, 0), refuses(impl.CdHandle)},
		{act(impl.AcSet, 0, 9, 0), refuses(impl.CdField)},
		{act(impl.AcSet, 0, 1, 0), refuses(impl.CdWrong)},
		{act(impl.AcRef, 3, 9), refuses(impl.CdHandle)},
		{act(impl.AcPut, 3, 9, 3), refuses(impl.CdHandle)},
		{act(impl.AcPut, 0, 9, 3), refuses(impl.CdHandle)},
		{act(impl.AcPut, 0, 0, 3), refuses(impl.CdHandle)},
		{act(impl.AcPut, 0, 1, 3), refuses(impl.CdHandle)},
		{act(impl.AcPut, 0, 9, 1), refuses(impl.CdField)},
		{act(impl.AcPut, 0, 0, 1), refuses(impl.CdWrong)},
		{act(impl.AcPublish, 8, 3), refuses(impl.CdSlot)},
		{act(impl.AcPublish, 0, 3), refuses(impl.CdHandle)},
	})
	full := append(withDesk(), repeated(9, act(impl.AcNew))...)
	wantEach(t, full, []actCase{
		{act(impl.AcNew, 0), refuses(impl.CdHandles)},
		{act(impl.AcNew, 2), refuses(impl.CdType)},
		{act(impl.AcRef, 0, 1), refuses(impl.CdHandles)},
		{act(impl.AcRef, 12, 1), refuses(impl.CdHandle)},
		{act(impl.AcRef, 0, 2), refuses(impl.CdField)},
		{act(impl.AcRef, 0, 0), refuses(impl.CdWrong)},
		{act(impl.AcRoot, 0), refuses(impl.CdHandles)},
		{act(impl.AcRoot, 8), refuses(impl.CdSlot)},
		{act(impl.AcGet, 11, 0), does(0)},
		{act(impl.AcDrop, 11), does(0)},
		{act(impl.AcSame, 11, 0), does(0)},
	})
}

// TestP11NoHandleIsFree: the rows name CdHandles whatever the reference is, so that
// nothing is refused, too.
func TestP11NoHandleIsFree(t *testing.T) {
	full := append(withDesk(), repeated(9, act(impl.AcNew))...)
	wantEach(t, full, []actCase{
		{act(impl.AcRef, 2, 1), refuses(impl.CdHandles)},
		{act(impl.AcRoot, 6), refuses(impl.CdHandles)},
	})
	wantEach(t, full[:len(full)-1], []actCase{
		{act(impl.AcRef, 2, 1), does(-1)},
		{act(impl.AcRoot, 6), does(-1)},
		{act(impl.AcNew), does(11)},
		{act(impl.AcRef, 2, 0), does(11)},
		{act(impl.AcRoot, 7), does(11)},
	})
}

// doomedDesk is in a region in which something was refused.
func doomedDesk() []impl.Act { return withDesk(act(impl.AcBegin), act(impl.AcGet, 0, 9)) }

func TestP11DoomedRegions(t *testing.T) {
	for kind := int64(-1); kind <= 20; kind++ {
		want := refuses(impl.CdDoomed)
		if kind >= impl.AcAbort && kind <= impl.AcCrash {
			want = does(0)
		}
		run := played(t, worldTypes(), smallWorld(), append(doomedDesk(), act(kind, 0, 0, 0))...)
		if got := run.Answers[5]; got != want {
			t.Errorf("kind %d = %v, want %v", kind, got, want)
		}
		ends := kind == impl.AcAbort || kind == impl.AcCrash
		if run.In == ends || run.Doomed == ends {
			t.Errorf("kind %d: in %v, doomed %v", kind, run.In, run.Doomed)
		}
	}
	for _, kind := range append([]int64{0, 19}, edges...) {
		if got := lastAnswer(t, worldTypes(), smallWorld(), append(doomedDesk(), act(kind))...); got != refuses(impl.CdDoomed) {
			t.Errorf("kind %d in a doomed region = %v", kind, got)
		}
		if got := lastAnswer(t, worldTypes(), smallWorld(), act(kind)); got != refuses(impl.CdForm) {
			t.Errorf("kind %d = %v", kind, got)
		}
	}
}

// TestP11EachRefusalDooms: every code that a region can meet dooms it, and changes nothing else.
func TestP11EachRefusalDooms(t *testing.T) {
	ahead := withDesk(act(impl.AcBegin), act(impl.AcSet, 0, 0, 8))
	before := played(t, worldTypes(), smallWorld(), ahead...)
	for _, a := range []impl.Act{
		act(0), act(19), act(impl.AcNew, 2), act(impl.AcGet, 3, 0), act(impl.AcGet, 0, 2), act(impl.AcGet, 0, 1),
		act(impl.AcSet, 0, 1, 5), act(impl.AcRef, 0, 0), act(impl.AcPut, 0, 1, 5), act(impl.AcDrop, 3),
		act(impl.AcSame, 0, 3), act(impl.AcType, 12), act(impl.AcDurable, -1), act(impl.AcBegin),
		act(impl.AcPublish, 8, 1), act(impl.AcPublish, 0, 3), act(impl.AcRoot, 8),
	} {
		run := played(t, worldTypes(), smallWorld(), append(slices.Clone(ahead), a)...)
		if !run.In || !run.Doomed || run.Answers[5].Code == impl.CdOk || run.Answers[5].N != 0 {
			t.Errorf("%v: %v, in %v, doomed %v", a, run.Answers[5], run.In, run.Doomed)
		}
		wantGraph(t, "now", run.Now, before.Now)
		wantGraph(t, "safe", run.Safe, before.Safe)
	}
	if before.Doomed || !before.In {
		t.Errorf("nothing was refused: in %v, doomed %v", before.In, before.Doomed)
	}
	// A region that begins behind a doomed one is not.
	list := append(doomedDesk(), act(impl.AcAbort), act(impl.AcBegin), act(impl.AcSet, 0, 0, 8), act(impl.AcCommit))
	run := played(t, worldTypes(), smallWorld(), list...)
	wantAnswers(t, "behind a doomed one", run.Answers[5:], does(0), does(0), does(0), does(0))
	// A refusal outside dooms nothing, neither then nor later.
	run = played(t, worldTypes(), smallWorld(), act(19), act(impl.AcBegin), act(impl.AcRoot, 0))
	wantAnswers(t, "refused outside", run.Answers, refuses(impl.CdForm), does(0), does(0))
	if run.Doomed {
		t.Error("doomed by what was refused ahead of it")
	}
}

func TestP11NewHandles(t *testing.T) {
	run := played(t, worldTypes(), smallWorld(), append(repeated(12, act(impl.AcNew)),
		act(impl.AcNew), act(impl.AcDrop, 7), act(impl.AcDrop, 0), act(impl.AcDrop, 11), act(impl.AcDrop, 7),
		act(impl.AcRoot, 0), act(impl.AcRef, 0, 1), act(impl.AcRoot, 0), act(impl.AcRoot, 0),
		act(impl.AcSame, 0, 11), act(impl.AcSame, 0, 7), act(impl.AcType, 7))...)
	var first []impl.Answer
	for i := range int64(12) {
		first = append(first, does(i))
	}
	wantAnswers(t, "twelve", run.Answers[:12], first...)
	wantAnswers(t, "more", run.Answers[12:], refuses(impl.CdHandles), does(0), does(0), does(0), refuses(impl.CdHandle),
		does(0), does(7), does(11), refuses(impl.CdHandles), does(1), does(0), does(1))
}

// TestP11TwoHandlesOfOneObject: what is written by one is read by the other, and when one is dropped the other stays.
func TestP11TwoHandlesOfOneObject(t *testing.T) {
	run := played(t, worldTypes(), smallWorld(),
		act(impl.AcNew), act(impl.AcNew), act(impl.AcPut, 0, 1, 1), act(impl.AcRef, 0, 1), act(impl.AcSame, 1, 2),
		act(impl.AcSet, 2, 0, math.MinInt64), act(impl.AcGet, 1, 0), act(impl.AcDrop, 1), act(impl.AcGet, 2, 0), act(impl.AcGet, 0, 0),
		act(impl.AcGet, 1, 0))
	wantAnswers(t, "two handles", run.Answers, does(0), does(1), does(0), does(2), does(1),
		does(0), does(math.MinInt64), does(0), does(math.MinInt64), does(0), refuses(impl.CdHandle))
	wantGraph(t, "now", run.Now, graph([]int64{1, 0, 2, 0, 0, 0, 0, 0, 0, 0, 0, 0, 3, 4, 0, 0, 0, 0, 0, 3},
		node(0, 0, 2), node(0, math.MinInt64, 0), node(0, 4, 4), node(1, 3, 0, 9)))
}

func TestP11NoActs(t *testing.T) {
	for _, deny := range [][]int64{nil, {0}, {5, 6}} {
		run := deniedRun(t, worldTypes(), smallWorld(), nil, deny)
		if run.In || run.Doomed {
			t.Errorf("no acts: %+v", run)
		}
		plain := []impl.Obj{node(0, 4, 2), node(1, 1, 0, 9)}
		wantGraph(t, "now", run.Now, graph(append(make([]int64, 12), 1, 2, 0, 0, 0, 0, 0, 1), plain...))
		wantGraph(t, "safe", run.Safe, graph([]int64{1, 2, 0, 0, 0, 0, 0, 1}, plain...))
	}
	empty := played(t, []string{"i"}, graph(slots()))
	wantGraph(t, "nothing", empty.Now, graph(make([]int64, 20)))
	wantGraph(t, "nothing", empty.Safe, graph(slots()))
}

// regionWork writes a durable object, a slot, a new object, and lets them name each other.
func regionWork() []impl.Act {
	return withDesk(act(impl.AcBegin),
		act(impl.AcSet, 0, 0, 40), act(impl.AcSet, 1, 0, 50), act(impl.AcPut, 1, 1, 2),
		act(impl.AcPut, 2, 1, 1), act(impl.AcPut, 0, 1, -1), act(impl.AcPublish, 3, 1), act(impl.AcPublish, 0, -1))
}

func TestP11NowAndSafeWithinARegion(t *testing.T) {
	run := played(t, worldTypes(), smallWorld(), regionWork()...)
	if !run.In || run.Doomed {
		t.Errorf("in %v, doomed %v", run.In, run.Doomed)
	}
	wantGraph(t, "now", run.Now, graph([]int64{1, 2, 3, 0, 0, 0, 0, 0, 0, 0, 0, 0, 0, 3, 0, 2, 0, 0, 0, 1},
		node(0, 40, 0), node(0, 50, 3), node(1, 1, 2, 9)))
	wantGraph(t, "safe", run.Safe, graph([]int64{1, 2, 0, 0, 0, 0, 0, 1}, node(0, 4, 2), node(1, 1, 0, 9)))
}

func TestP11Commits(t *testing.T) {
	list := append(regionWork(), act(impl.AcDurable, 1), act(impl.AcCommit), act(impl.AcDurable, 1), act(impl.AcSet, 1, 0, 9), act(impl.AcCommit))
	run := played(t, worldTypes(), smallWorld(), list...)
	wantAnswers(t, "commit", run.Answers[11:], does(0), does(0), does(1), refuses(impl.CdRegion), refuses(impl.CdRegion))
	if run.In || run.Doomed {
		t.Errorf("in %v, doomed %v", run.In, run.Doomed)
	}
	wantGraph(t, "safe", run.Safe, graph([]int64{0, 1, 0, 2, 0, 0, 0, 3}, node(1, 3, 2, 9), node(0, 50, 1), node(0, 40, 0)))
	// What is committed outlives a crash, and a region behind it.
	more := append(list, act(impl.AcBegin), act(impl.AcPublish, 3, -1), act(impl.AcCrash), act(impl.AcRoot, 3), act(impl.AcGet, 0, 0), act(impl.AcDurable, 0))
	run = played(t, worldTypes(), smallWorld(), more...)
	wantAnswers(t, "behind a crash", run.Answers[16:], does(0), does(0), does(0), does(0), does(50), does(1))
}

func TestP11Aborts(t *testing.T) {
	list := append(regionWork(), act(impl.AcAbort), act(impl.AcGet, 0, 0), act(impl.AcGet, 1, 0), act(impl.AcDurable, 1),
		act(impl.AcRef, 1, 1), act(impl.AcSame, 2, 3), act(impl.AcRef, 2, 1), act(impl.AcSet, 0, 0, 1), act(impl.AcAbort))
	run := played(t, worldTypes(), smallWorld(), list...)
	// The new object is not durable, so it keeps what was written, and its handle.
	wantAnswers(t, "abort", run.Answers[11:], does(0), does(4), does(50), does(0),
		does(3), does(1), does(-1), refuses(impl.CdRegion), refuses(impl.CdRegion))
	if run.In {
		t.Error("there is a region")
	}
	wantGraph(t, "now", run.Now, graph([]int64{1, 2, 3, 3, 0, 0, 0, 0, 0, 0, 0, 0, 1, 3, 0, 0, 0, 0, 0, 1},
		node(0, 4, 3), node(0, 50, 3), node(1, 1, 0, 9)))
	wantGraph(t, "safe", run.Safe, graph([]int64{1, 2, 0, 0, 0, 0, 0, 1}, node(0, 4, 2), node(1, 1, 0, 9)))
}

func TestP11Crashes(t *testing.T) {
	safe := graph([]int64{1, 2, 0, 0, 0, 0, 0, 1}, node(0, 4, 2), node(1, 1, 0, 9))
	now := graph(append(make([]int64, 12), safe.Roots...), safe.Nodes...)
	for what, list := range map[string][]impl.Act{
		"at once":        {},
		"outside":        withDesk(act(impl.AcSet, 1, 0, 3)),
		"in a region":    regionWork(),
		"in a doomed":    append(regionWork(), act(19)),
		"behind a crash": append(regionWork(), act(impl.AcCrash)),
		"new objects":    repeated(12, act(impl.AcNew)),
	} {
		run := played(t, worldTypes(), smallWorld(), append(list, act(impl.AcCrash))...)
		if run.In || run.Doomed || run.Answers[len(list)] != does(0) {
			t.Errorf("%s: in %v, doomed %v, %v", what, run.In, run.Doomed, run.Answers)
		}
		wantGraph(t, what+", now", run.Now, now)
		wantGraph(t, what+", safe", run.Safe, safe)
		for handle := range int64(handleCount) {
			ask := append(slices.Clone(list), act(impl.AcCrash), act(impl.AcType, handle))
			if got := lastAnswer(t, worldTypes(), smallWorld(), ask...); got != refuses(impl.CdHandle) {
				t.Errorf("%s: handle %d = %v", what, handle, got)
			}
		}
	}
}

// TestP11DurableThroughOthers: a ring of new ones hangs on the last of a chain, whose first one a slot gets.
func TestP11DurableThroughOthers(t *testing.T) {
	made := append(repeated(6, act(impl.AcNew, 0)),
		act(impl.AcPut, 0, 1, 1), act(impl.AcPut, 1, 1, 2), act(impl.AcPut, 2, 1, 3), act(impl.AcPut, 3, 1, 4), act(impl.AcPut, 4, 1, 2),
		act(impl.AcPut, 5, 1, 0))
	asks := func(list []impl.Act) []int64 {
		var flags []int64
		for handle := range int64(6) {
			flags = append(flags, lastAnswer(t, worldTypes(), smallWorld(), append(slices.Clone(list), act(impl.AcDurable, handle))...).N)
		}
		return flags
	}
	for what, ways := range map[string]struct {
		acts []impl.Act
		want []int64
	}{
		"a slot":                {[]impl.Act{act(impl.AcPublish, 5, 0)}, []int64{1, 1, 1, 1, 1, 0}},
		"a slot of the ring":    {[]impl.Act{act(impl.AcPublish, 5, 3)}, []int64{0, 0, 1, 1, 1, 0}},
		"a slot that lost it":   {[]impl.Act{act(impl.AcPublish, 5, 0), act(impl.AcPublish, 5, -1)}, make([]int64, 6)},
		"a durable one":         {[]impl.Act{act(impl.AcRoot, 0), act(impl.AcPut, 6, 1, 1)}, []int64{0, 1, 1, 1, 1, 0}},
		"a durable one no more": {[]impl.Act{act(impl.AcRoot, 0), act(impl.AcPut, 6, 1, 1), act(impl.AcPut, 6, 1, -1)}, make([]int64, 6)},
		"nothing":               {nil, make([]int64, 6)},
	} {
		list := append(append(slices.Clone(made), act(impl.AcBegin)), ways.acts...)
		if got := asks(list); !sameNumbers(got, make([]int64, 6)) {
			t.Errorf("%s: within the region durable %v", what, got)
		}
		if got := asks(append(list, act(impl.AcCommit))); !sameNumbers(got, ways.want) {
			t.Errorf("%s: durable %v, want %v", what, got, ways.want)
		}
	}
}

// TestP11DurableWithoutASlot: what is durable stays so when no slot reaches it, and
// what it names at a commit is durable, too.
func TestP11DurableWithoutASlot(t *testing.T) {
	list := []impl.Act{
		act(impl.AcRoot, 0), act(impl.AcNew, 0), act(impl.AcNew, 0), act(impl.AcPut, 1, 1, 2),
		act(impl.AcBegin), act(impl.AcPublish, 0, -1), act(impl.AcPublish, 7, -1), act(impl.AcPublish, 1, -1), act(impl.AcCommit),
		act(impl.AcDurable, 0), act(impl.AcSet, 0, 0, 3),
		act(impl.AcBegin), act(impl.AcPut, 0, 1, 1), act(impl.AcSet, 0, 0, 3), act(impl.AcCommit),
		act(impl.AcDurable, 1), act(impl.AcDurable, 2), act(impl.AcSet, 2, 0, 4),
		act(impl.AcBegin), act(impl.AcSet, 2, 0, 4), act(impl.AcPut, 0, 1, -1), act(impl.AcAbort),
		act(impl.AcGet, 2, 0), act(impl.AcGet, 0, 0), act(impl.AcRef, 0, 1), act(impl.AcSame, 1, 3),
	}
	run := played(t, worldTypes(), smallWorld(), list...)
	wantAnswers(t, "lost by the slots", run.Answers[9:11], does(1), refuses(impl.CdRegion))
	wantAnswers(t, "named by what they lost", run.Answers[15:18], does(1), does(1), refuses(impl.CdRegion))
	wantAnswers(t, "aborted", run.Answers[22:], does(0), does(3), does(3), does(1))
	wantGraph(t, "safe", run.Safe, graph(slots()))
	want := []int64{3, 3, 3, 3, 3, 3, 3, 3, 3, 3, 3, 3, 3, 3, 5, 5, 5, 5, 5, 5, 5, 5, 5, 5, 5, 5}
	if got := impl.Durables(worldTypes(), smallWorld(), list); !sameNumbers(got, want) {
		t.Errorf("Durables = %v, want %v", got, want)
	}
}

func TestP11Denied(t *testing.T) {
	list := withDesk(act(impl.AcSet, 1, 0, 5), act(impl.AcGet, 1, 0))
	run := deniedRun(t, worldTypes(), smallWorld(), list, []int64{0, 0, 0, impl.CdLog})
	wantAnswers(t, "outside", run.Answers, does(0), does(1), does(2), refuses(impl.CdLog), does(0))
	if run.In || run.Doomed {
		t.Error("nothing is doomed outside of a region")
	}
	// Each kind, done or refused otherwise, is denied just so, and with any number.
	for kind := int64(-1); kind <= 20; kind++ {
		for _, code := range []int64{impl.CdHeap, impl.CdOld, impl.CdForm, -5, math.MaxInt64, math.MinInt64} {
			a := act(kind, 0, 0, 0)
			out := deniedRun(t, worldTypes(), smallWorld(), withDesk(a), []int64{0, 0, 0, code})
			in := deniedRun(t, worldTypes(), smallWorld(), withDesk(act(impl.AcBegin), a), []int64{0, 0, 0, 0, code})
			doomed := deniedRun(t, worldTypes(), smallWorld(), append(doomedDesk(), a), []int64{0, 0, 0, 0, 0, code})
			if out.Answers[3] != refuses(code) || in.Answers[4] != refuses(code) || doomed.Answers[5] != refuses(code) {
				t.Errorf("kind %d denied by %d: %v, %v, %v", kind, code, out.Answers, in.Answers, doomed.Answers)
			}
			if out.In || !in.In || !in.Doomed || !doomed.In || !doomed.Doomed {
				t.Errorf("kind %d denied by %d: in %v %v %v, doomed %v %v", kind, code, out.In, in.In, doomed.In, in.Doomed, doomed.Doomed)
			}
			before := played(t, worldTypes(), smallWorld(), withDesk()...)
			for _, run := range []impl.Run{out, in, doomed} {
				wantGraph(t, "now", run.Now, before.Now)
				wantGraph(t, "safe", run.Safe, before.Safe)
			}
		}
	}
}

func TestP11DenyOfOtherLengths(t *testing.T) {
	list := withDesk(act(impl.AcGet, 0, 0))
	plain := []impl.Answer{does(0), does(1), does(2), does(4)}
	for _, deny := range [][]int64{nil, {0}, {0, 0, 0, 0}, {0, 0, 0, 0, 9}, {0, 0, 0, 0, 0, 9, 9}} {
		wantAnswers(t, "nothing is denied", deniedRun(t, worldTypes(), smallWorld(), list, deny).Answers, plain...)
	}
	wantAnswers(t, "the first", deniedRun(t, worldTypes(), smallWorld(), list, []int64{9}).Answers,
		refuses(9), does(0), does(1), does(0))
}

func noWorld(t *testing.T, what string, types []string, g impl.Graph, list []impl.Act) {
	t.Helper()
	run := impl.WorldPlay(types, g, list, []int64{0, 5})
	if run.Code != impl.RnForm || len(run.Answers) != 0 || run.In || run.Doomed || run.Off || run.Used != 0 ||
		!sameGraphs(run.Now, impl.Graph{}) || !sameGraphs(run.Safe, impl.Graph{}) || !sameDevice(run.Dev, impl.Device{}) {
		t.Errorf("%s: WorldPlay = %+v", what, run)
	}
	if counts := impl.Durables(types, g, list); len(counts) != 0 {
		t.Errorf("%s: Durables = %v", what, counts)
	}
}

func TestP11LimitsOfWorlds(t *testing.T) {
	types := worldTypes()
	acts := append(repeated(58, act(impl.AcBegin)), act(impl.AcAbort), act(impl.AcRoot, 0))
	run := played(t, types, smallWorld(), acts...)
	wantAnswers(t, "sixty acts", run.Answers[57:], refuses(impl.CdDoomed), does(0), does(0))
	if counts := impl.Durables(types, smallWorld(), acts); len(counts) != mostActs {
		t.Errorf("Durables = %v", counts)
	}
	noWorld(t, "61 acts", types, smallWorld(), append(acts, act(impl.AcMinor)))
	noWorld(t, "1000 acts", types, smallWorld(), repeated(1000, act(impl.AcMinor)))

	greatest := graph(slots(200), chain(200)...)
	fill := append(append([]impl.Act{act(impl.AcRoot, 0)}, repeated(11, act(impl.AcNew, 1))...), repeated(48, act(impl.AcRoot, 0))...)
	run = played(t, types, greatest, fill...)
	if len(run.Now.Nodes) != 211 || len(run.Safe.Nodes) != 200 || run.Answers[59] != refuses(impl.CdHandles) {
		t.Errorf("%d and %d nodes, %v", len(run.Now.Nodes), len(run.Safe.Nodes), run.Answers)
	}
	noWorld(t, "201 nodes", types, graph(slots(200), chain(201)...), nil)
	noWorld(t, "400 nodes", types, graph(slots(200), chain(400)...), nil)
	noWorld(t, "401 nodes", types, graph(slots(200), chain(401)...), nil)

	for count := range int64(42) {
		g := graph(make([]int64, count), node(0, 1, 0))
		if count == slotCount {
			played(t, types, g)
			continue
		}
		noWorld(t, strconv.FormatInt(count, 10)+" roots", types, g, nil)
	}
}

func TestP11WrongWorlds(t *testing.T) {
	for what, types := range wrongTypes() {
		noWorld(t, what, types, graph(slots()), []impl.Act{act(impl.AcNew, 0)})
	}
	for what, g := range map[string]impl.Graph{
		"the zero value":       {},
		"a root below nothing": graph(slots(-1), node(0, 1, 0)),
		"a root beyond":        graph(slots(2), node(0, 1, 0)),
		"the greatest root":    graph(slots(0, math.MaxInt64), node(0, 1, 0)),
		"the least root":       graph(slots(0, math.MinInt64), node(0, 1, 0)),
		"a type below 0":       graph(slots(), node(-1, 1, 0)),
		"a type beyond":        graph(slots(), node(2, 1, 0, 0)),
		"a value too few":      graph(slots(), node(0, 1)),
		"a value too many":     graph(slots(), node(0, 1, 0, 0)),
		"no values":            graph(slots(), node(0)),
		"a reference below":    graph(slots(), node(0, 1, -1)),
		"a reference beyond":   graph(slots(), node(0, 1, 2)),
		"one behind is wrong":  graph(slots(1), node(0, 1, 0), node(1, 0, 3, 0)),
	} {
		noWorld(t, what, worldTypes(), g, []impl.Act{act(impl.AcRoot, 0), act(impl.AcNew, 0)})
	}
}

// TestP11AnyNumbersInActs: each act answers whatever its numbers are, and a refusal has no N.
func TestP11AnyNumbersInActs(t *testing.T) {
	numbers := append([]int64{-2, 0, 1, 2, 7, 8, 11, 12}, edges...)
	for kind := int64(impl.AcNew); kind <= impl.AcCrash; kind++ {
		for _, a := range numbers {
			for _, b := range numbers {
				var list []impl.Act
				for _, c := range []int64{math.MinInt64, -1, 0, 12, math.MaxInt64} {
					list = append(list, act(kind, a, b, c))
				}
				for _, ahead := range [][]impl.Act{nil, withDesk(), withDesk(act(impl.AcBegin))} {
					for i, got := range played(t, worldTypes(), smallWorld(), append(slices.Clone(ahead), list...)...).Answers {
						if got.Code != impl.CdOk && got.N != 0 {
							t.Fatalf("act %d of kind %d, %d, %d: %v", i, kind, a, b, got)
						}
					}
				}
			}
		}
	}
}

// TestP11PowerAndKeepAreNotLookedAt: no row names them.
func TestP11PowerAndKeepAreNotLookedAt(t *testing.T) {
	list := append(regionWork(), act(impl.AcCommit), act(impl.AcCrash), act(impl.AcRoot, 3), act(impl.AcGet, 0, 0))
	want := played(t, worldTypes(), smallWorld(), list...)
	for _, power := range []int64{math.MinInt64, -1, 0, 1, math.MaxInt64} {
		other := slices.Clone(list)
		for i := range other {
			other[i].Power, other[i].Keep = power, []int64{-1, 0, power}
		}
		got := played(t, worldTypes(), smallWorld(), other...)
		wantAnswers(t, "with power and keep", got.Answers, want.Answers...)
		wantGraph(t, "now", got.Now, want.Now)
	}
}

// TestP11TheLastFieldOfTheGreatestType: 23 fields, whose first and last one are written.
func TestP11TheLastFieldOfTheGreatestType(t *testing.T) {
	types := []string{"i" + strings.Repeat("r", 21) + "i", strings.Repeat("r", 23)}
	run := played(t, types, graph(slots()), act(impl.AcNew, 0), act(impl.AcSet, 0, 0, 1), act(impl.AcSet, 0, 22, 2), act(impl.AcGet, 0, 22),
		act(impl.AcGet, 0, 23), act(impl.AcPut, 0, 21, 0), act(impl.AcPut, 0, 22, 0), act(impl.AcNew, 1), act(impl.AcPut, 1, 22, 0),
		act(impl.AcPut, 1, 0, 1), act(impl.AcRef, 1, 22), act(impl.AcSame, 0, 2), act(impl.AcRef, 1, 23))
	wantAnswers(t, "23 fields", run.Answers, does(0), does(0), does(0), does(2), refuses(impl.CdField), does(0), refuses(impl.CdWrong),
		does(1), does(0), does(0), does(2), does(1), refuses(impl.CdField))
}

// A handThing is an object of handWorld, which names others by pointers.
type handThing struct {
	kind    int64
	vals    []int64
	names   []*handThing
	durable bool
}

// A handWorld is chapter 11 row by row, for the sake of another way than the program's.
type handWorld struct {
	types   []string
	things  []*handThing
	handles [handleCount]*handThing
	slots   [slotCount]*handThing
	in      bool
	doomed  bool
	wasAt   map[*handThing]handThing
	wasIn   [slotCount]*handThing
}

func newHandWorld(types []string, g impl.Graph) *handWorld {
	w := &handWorld{types: types}
	for _, o := range g.Nodes {
		w.things = append(w.things, &handThing{kind: o.Type, vals: slices.Clone(o.Vals), names: make([]*handThing, len(o.Vals)), durable: true})
	}
	for _, o := range w.things {
		for i, kind := range types[o.kind] {
			if kind == 'r' && o.vals[i] > 0 {
				o.names[i] = w.things[o.vals[i]-1]
			}
		}
	}
	for i, ref := range g.Roots {
		if ref > 0 {
			w.slots[i] = w.things[ref-1]
		}
	}
	return w
}

func (w *handWorld) of(handle int64) *handThing {
	if handle < 0 || handle >= handleCount {
		return nil
	}
	return w.handles[handle]
}

func (w *handWorld) taken(o *handThing) impl.Answer {
	for i, h := range w.handles {
		if h == nil {
			if o == nil {
				return does(-1)
			}
			w.handles[i] = o
			return does(int64(i))
		}
	}
	return refuses(impl.CdHandles)
}

func (w *handWorld) do(a impl.Act, deny int64) impl.Answer {
	answer := refuses(deny)
	if deny == 0 {
		answer = w.row(a)
	}
	if answer.Code != 0 && w.in {
		w.doomed = true
	}
	return answer
}

func (w *handWorld) row(a impl.Act) impl.Answer {
	goesOn := []int64{impl.AcAbort, impl.AcMinor, impl.AcMajor, impl.AcEvict, impl.AcCrash}
	if w.in && w.doomed && !slices.Contains(goesOn, a.Kind) {
		return refuses(impl.CdDoomed)
	}
	switch a.Kind {
	case impl.AcGet, impl.AcSet, impl.AcRef, impl.AcPut, impl.AcDrop, impl.AcSame, impl.AcType, impl.AcDurable:
		return w.handleRow(a, w.of(a.A))
	case impl.AcNew:
		if a.A < 0 || a.A >= int64(len(w.types)) {
			return refuses(impl.CdType)
		}
		count := len(w.types[a.A])
		o := &handThing{kind: a.A, vals: make([]int64, count), names: make([]*handThing, count)}
		w.things = append(w.things, o)
		return w.taken(o)
	case impl.AcPublish:
		switch o := w.of(a.B); {
		case a.A < 0 || a.A >= slotCount:
			return refuses(impl.CdSlot)
		case o == nil && a.B != -1:
			return refuses(impl.CdHandle)
		case !w.in:
			return refuses(impl.CdRegion)
		default:
			w.slots[a.A] = o
		}
	case impl.AcRoot:
		if a.A < 0 || a.A >= slotCount {
			return refuses(impl.CdSlot)
		}
		return w.taken(w.slots[a.A])
	case impl.AcBegin, impl.AcCommit, impl.AcAbort:
		if w.in == (a.Kind == impl.AcBegin) {
			return refuses(impl.CdRegion)
		}
		w.edge(a.Kind)
	case impl.AcMinor, impl.AcMajor, impl.AcEvict:
	case impl.AcCrash:
		if w.in {
			w.edge(impl.AcAbort)
		}
		w.handles = [handleCount]*handThing{}
	default:
		return refuses(impl.CdForm)
	}
	return does(0)
}

func (w *handWorld) handleRow(a impl.Act, o *handThing) impl.Answer {
	if o == nil {
		return refuses(impl.CdHandle)
	}
	other := w.of(a.B)
	if a.Kind == impl.AcPut {
		other = w.of(a.C)
		if other == nil && a.C != -1 {
			return refuses(impl.CdHandle)
		}
	}
	switch a.Kind {
	case impl.AcDrop:
		w.handles[a.A] = nil
		return does(0)
	case impl.AcType:
		return does(o.kind)
	case impl.AcDurable:
		if o.durable {
			return does(1)
		}
		return does(0)
	case impl.AcSame:
		switch other {
		case nil:
			return refuses(impl.CdHandle)
		case o:
			return does(1)
		}
		return does(0)
	}
	return w.fieldRow(a, o, other)
}

func (w *handWorld) fieldRow(a impl.Act, o, other *handThing) impl.Answer {
	if a.B < 0 || a.B >= int64(len(o.vals)) {
		return refuses(impl.CdField)
	}
	if (w.types[o.kind][a.B] == 'r') != (a.Kind == impl.AcRef || a.Kind == impl.AcPut) {
		return refuses(impl.CdWrong)
	}
	switch a.Kind {
	case impl.AcGet:
		return does(o.vals[a.B])
	case impl.AcRef:
		return w.taken(o.names[a.B])
	}
	if o.durable && !w.in {
		return refuses(impl.CdRegion)
	}
	if a.Kind == impl.AcSet {
		o.vals[a.B] = a.C
	} else {
		o.names[a.B] = other
	}
	return does(0)
}

// edge begins or ends a region.
func (w *handWorld) edge(kind int64) {
	switch kind {
	case impl.AcBegin:
		w.wasIn, w.wasAt = w.slots, map[*handThing]handThing{}
		for _, o := range w.things {
			if o.durable {
				w.wasAt[o] = handThing{vals: slices.Clone(o.vals), names: slices.Clone(o.names)}
			}
		}
	case impl.AcAbort:
		w.slots = w.wasIn
		for o, was := range w.wasAt {
			o.vals, o.names = slices.Clone(was.vals), slices.Clone(was.names)
		}
	case impl.AcCommit:
		w.spread()
	}
	w.in, w.doomed = kind == impl.AcBegin, false
}

// spread sweeps over all until nothing more becomes durable.
func (w *handWorld) spread() {
	for _, o := range w.slots {
		if o != nil {
			o.durable = true
		}
	}
	for again := true; again; {
		again = false
		for _, o := range w.things {
			for _, named := range o.names {
				if o.durable && named != nil && !named.durable {
					named.durable, again = true, true
				}
			}
		}
	}
}

func (w *handWorld) durables() int64 {
	count := int64(0)
	for _, o := range w.things {
		if o.durable {
			count++
		}
	}
	return count
}

// drawn is the plain graph of these roots.
func (w *handWorld) drawn(roots []*handThing) impl.Graph {
	var g impl.Graph
	number := map[*handThing]int64{nil: 0}
	for i, o := range w.things {
		number[o] = int64(i) + 1
	}
	for _, o := range roots {
		g.Roots = append(g.Roots, number[o])
	}
	for _, o := range w.things {
		vals := slices.Clone(o.vals)
		for i, kind := range w.types[o.kind] {
			if kind == 'r' {
				vals[i] = number[o.names[i]]
			}
		}
		g.Nodes = append(g.Nodes, node(o.kind, vals...))
	}
	return plainByQueue(w.types, g)
}

// somePlace is one of 0 .. n - 1, seldom one beyond or far off.
func (d *dice) somePlace(n int64) int64 {
	switch d.below(40) {
	case 0:
		return -1
	case 1:
		return n
	case 2:
		return edges[d.below(int64(len(edges)))]
	}
	return d.below(n)
}

// someActs wants little to be refused: handles among the first few, fields that most types have.
func (d *dice) someActs(types []string, count int64) []impl.Act {
	kinds := []int64{1, 1, 2, 3, 3, 4, 4, 5, 5, 5, 6, 7, 8, 9, 10, 10, 10, 11, 11, 12, 12, 12, 13, 13, 14, 15, 16, 17}
	if d.below(3) == 0 {
		// All handles are in use then, as long as no crash comes.
		kinds = append(kinds, slices.Repeat([]int64{impl.AcNew, impl.AcRoot}, 15)...)
	}
	var list []impl.Act
	for range count {
		a := impl.Act{Kind: kinds[d.below(int64(len(kinds)))], A: d.somePlace(5), B: d.somePlace(3), C: d.somePlace(5)}
		switch {
		case d.below(60) == 0:
			a.Kind = impl.AcCrash
		case d.below(60) == 0:
			a.Kind = d.somePlace(20)
		case a.Kind == impl.AcNew:
			a.A = d.somePlace(int64(len(types)))
		case a.Kind == impl.AcRoot || a.Kind == impl.AcPublish:
			a.A = d.somePlace(slotCount)
		}
		list = append(list, a)
	}
	return list
}

// mended leaves out most of what a world would refuse, so that regions are seldom doomed.
func (d *dice) mended(types []string, g impl.Graph, list []impl.Act) []impl.Act {
	var some []impl.Act
	for _, a := range list {
		with := append(slices.Clone(some), a)
		run := impl.WorldPlay(types, g, with, nil)
		if run.Answers[len(some)].Code == impl.CdOk || d.below(15) == 0 {
			some = with
		}
	}
	return some
}

func (d *dice) someDeny(count int64) []int64 {
	deny := make([]int64, d.below(count+3))
	for i := range deny {
		if d.below(25) == 0 {
			deny[i] = 10 + d.below(3)
		}
	}
	return deny
}

func (d *dice) someWorld() ([]string, impl.Graph) {
	types := d.types(1 + d.below(4))
	if d.below(2) == 0 {
		types = []string{"ir", "rri", "irr"}
	}
	return types, d.someGraph(types, slotCount, d.below(7))
}

// TestP11AnyActs holds the program against chapter 11 row by row.
func TestP11AnyActs(t *testing.T) {
	d := &dice{state: 11}
	codes := map[int64]int{}
	for range 700 {
		types, g := d.someWorld()
		list := d.someActs(types, mostActs)
		if d.below(4) > 0 {
			list = d.mended(types, g, list)
		}
		var deny []int64
		if d.below(3) == 0 {
			deny = d.someDeny(int64(len(list)))
		}
		run := deniedRun(t, types, g, list, deny)
		w := newHandWorld(types, g)
		var counts []int64
		for i, a := range list {
			denied := int64(0)
			if i < len(deny) {
				denied = deny[i]
			}
			want := w.do(a, denied)
			codes[want.Code]++
			counts = append(counts, w.durables())
			if run.Answers[i] != want {
				t.Fatalf("act %d of %v, denied %v: %v, want %v", i, list, deny, run.Answers[i], want)
			}
		}
		if run.In != w.in || run.Doomed != w.doomed {
			t.Fatalf("in %v, doomed %v behind %v", run.In, run.Doomed, list)
		}
		wantGraph(t, "now", run.Now, w.drawn(append(w.handles[:], w.slots[:]...)))
		if got := impl.Durables(types, g, list); len(deny) == 0 && !sameNumbers(got, counts) {
			t.Fatalf("Durables = %v, want %v", got, counts)
		}
		if w.in {
			w.edge(impl.AcAbort)
		}
		wantGraph(t, "safe", run.Safe, w.drawn(w.slots[:]))
	}
	for _, code := range []int64{0, 1, 2, 3, 4, 5, 6, 7, 8, 9} {
		if codes[code] < 20 {
			t.Errorf("code %d came up %d times alone", code, codes[code])
		}
	}
}

// TestP11WhatIsSafeStays follows runs act by act: within a region, and behind an abort or
// a crash, what is safe is what was safe when it began; a crash leaves no handle.
func TestP11WhatIsSafeStays(t *testing.T) {
	d := &dice{state: 12}
	regions := map[int64]int{}
	for range 120 {
		types, g := d.someWorld()
		list := d.mended(types, g, d.someActs(types, mostActs))
		before := played(t, types, g)
		safe := before.Safe
		for i, a := range list {
			run := played(t, types, g, list[:i+1]...)
			if !slices.Equal(run.Answers[:i], before.Answers) {
				t.Fatalf("answers of %v hang on what comes later", list[:i])
			}
			if before.In && !run.In {
				regions[a.Kind]++
			}
			if a.Kind == impl.AcCommit && run.Answers[i].Code == impl.CdOk {
				safe = run.Safe
				wantGraph(t, "committed", safe, impl.Plain(types, graph(run.Now.Roots[handleCount:], run.Now.Nodes...)))
			}
			wantGraph(t, "safe", run.Safe, safe)
			if a.Kind == impl.AcCrash {
				wantGraph(t, "behind a crash", run.Now, graph(append(make([]int64, handleCount), safe.Roots...), safe.Nodes...))
			}
			if !run.In {
				wantGraph(t, "outside", impl.Plain(types, graph(run.Now.Roots[handleCount:], run.Now.Nodes...)), safe)
			}
			before = run
		}
		if counts := impl.Durables(types, g, list); !slices.IsSorted(counts) {
			t.Fatalf("what is durable does not stay so: %v", counts)
		}
	}
	for _, kind := range []int64{impl.AcCommit, impl.AcAbort, impl.AcCrash} {
		if regions[kind] < 10 {
			t.Errorf("%d regions alone ended by kind %d", regions[kind], kind)
		}
	}
}

// TestP11DurableStays asks of each handle behind each act whether its object is durable still.
func TestP11DurableStays(t *testing.T) {
	d := &dice{state: 13}
	for range 40 {
		types, g := d.someWorld()
		list := d.mended(types, g, d.someActs(types, mostActs-1))
		var was [handleCount]int64
		for i, a := range list {
			for handle := range int64(handleCount) {
				run := played(t, types, g, append(slices.Clone(list[:i+1]), act(impl.AcDurable, handle))...)
				if run.Answers[i+1].Code == impl.CdDoomed {
					continue
				}
				now := run.Answers[i+1].N
				fresh := a.Kind == impl.AcNew || a.Kind == impl.AcDrop || a.Kind == impl.AcCrash || a.Kind == impl.AcRef || a.Kind == impl.AcRoot
				if now < was[handle] && !fresh {
					t.Fatalf("handle %d is not durable any more behind %v", handle, list[:i+1])
				}
				was[handle] = now
			}
		}
	}
}

func TestP11DurablesWithoutADeny(t *testing.T) {
	types, g := worldTypes(), smallWorld()
	list := append(regionWork(), act(impl.AcCommit), act(impl.AcNew), act(impl.AcCrash), act(19))
	want := []int64{3, 3, 3, 3, 3, 3, 3, 3, 3, 3, 3, 4, 4, 4, 4}
	if got := impl.Durables(types, g, list); !sameNumbers(got, want) {
		t.Errorf("Durables = %v, want %v", got, want)
	}
	aborted := append(regionWork(), act(impl.AcAbort), act(impl.AcBegin), act(impl.AcCommit))
	if got := impl.Durables(types, g, aborted); !sameNumbers(got, slices.Repeat([]int64{3}, 14)) {
		t.Errorf("Durables = %v", got)
	}
	doomed := append(regionWork(), act(19), act(impl.AcCommit))
	if got := impl.Durables(types, g, doomed); !sameNumbers(got, slices.Repeat([]int64{3}, 13)) {
		t.Errorf("Durables = %v", got)
	}
	if got := impl.Durables(types, g, nil); len(got) != 0 {
		t.Errorf("Durables = %v", got)
	}
	if got := impl.Durables([]string{"i"}, graph(slots()), []impl.Act{act(impl.AcNew)}); !sameNumbers(got, []int64{0}) {
		t.Errorf("Durables = %v", got)
	}
}

// TestP11DurablesAreThoseThatSaySo: where every object has a handle, AcDurable tells as many as Durables.
func TestP11DurablesAreThoseThatSaySo(t *testing.T) {
	types, g := worldTypes(), graph(slots(1, 2, 3), smallWorld().Nodes...)
	list := append([]impl.Act{act(impl.AcRoot, 0), act(impl.AcRoot, 1), act(impl.AcRoot, 2)}, repeated(5, act(impl.AcNew))...)
	list = append(list, act(impl.AcPut, 3, 1, 4), act(impl.AcPut, 4, 1, 5), act(impl.AcBegin), act(impl.AcPublish, 0, 6), act(impl.AcAbort),
		act(impl.AcBegin), act(impl.AcPut, 0, 1, 3), act(impl.AcCommit), act(impl.AcBegin), act(impl.AcPublish, 7, 7), act(impl.AcCommit),
		act(impl.AcBegin), act(impl.AcPut, 5, 1, 6), act(impl.AcPublish, 0, -1), act(impl.AcCommit))
	counts := impl.Durables(types, g, list)
	for i := 7; i < len(list); i++ {
		sum := int64(0)
		for handle := range int64(8) {
			sum += lastAnswer(t, types, g, append(slices.Clone(list[:i+1]), act(impl.AcDurable, handle))...).N
		}
		if sum != counts[i] {
			t.Errorf("behind %v: %d are durable, Durables has %d", list[i], sum, counts[i])
		}
	}
	if counts[7] != 3 || counts[12] != 3 || counts[15] != 6 || counts[18] != 7 || counts[22] != 8 {
		t.Errorf("Durables = %v", counts)
	}
}

// roomyActs is a copy of l with spare room behind it and its Keeps, and a look at all of that memory.
func roomyActs(l []impl.Act) ([]impl.Act, func() string) {
	all := make([]impl.Act, len(l)+2)
	copy(all, l)
	var looks [][]int64
	for i := range all {
		keep, look := roomyNumbers([]int64{3, 4})
		all[i].Keep = keep
		looks = append(looks, look)
	}
	return all[:len(l)], func() string {
		text := ""
		for i, a := range all {
			text += numbersText([]int64{a.Kind, a.A, a.B, a.C, a.Power}) + numbersText(looks[i]) + ";"
		}
		return text
	}
}

func TestP17ArgumentsOfWorldsStay(t *testing.T) {
	types, allTypes := roomyTexts(worldTypes())
	g, lookGraph := roomyGraph(smallWorld())
	list, lookActs := roomyActs(append(regionWork(), act(impl.AcGet, 0, 0), act(impl.AcNew, 1)))
	deny, allDeny := roomyNumbers([]int64{0, 0, 0, 0, 0, 0})
	graphBefore, actsBefore, denyBefore := lookGraph(), lookActs(), slices.Clone(allDeny)
	ask := func() string {
		run := impl.WorldPlay(types, g, list, deny)
		counts := impl.Durables(types, g, list)
		text := numbersText(counts) + impl.GraphText(types, run.Now) + impl.GraphText(types, run.Safe)
		for _, a := range run.Answers {
			text += numbersText([]int64{a.Code, a.N})
		}
		safe := copied(run.Safe)
		spoil(run.Now)
		if !sameGraphs(run.Safe, safe) {
			t.Error("Now and Safe share memory")
		}
		spoil(run.Safe)
		spoilNumbers(counts)
		return text
	}
	first := ask()
	if again := ask(); again != first {
		t.Errorf("first %s, then %s", first, again)
	}
	if lookGraph() != graphBefore || lookActs() != actsBefore || !sameNumbers(allDeny, denyBefore) {
		t.Errorf("graph %s, acts %s, deny %v", lookGraph(), lookActs(), allDeny)
	}
	if !sameTexts(allTypes, append(worldTypes(), "spare", "spare", "spare")) {
		t.Errorf("types %q", allTypes)
	}
}
