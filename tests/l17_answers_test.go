package tests

import (
	"go/ast"
	"go/parser"
	"go/token"
	"path/filepath"
	"reflect"
	"slices"
	"strconv"
	"strings"
	"testing"

	"loop.example/g00648/impl"
)

// A callCase is one of the functions, and lists of arguments for it.
type callCase struct {
	name string
	f    any
	args [][]any
}

func with(args ...any) []any { return args }

func callsOfBytes() []callCase {
	c := logConfig()
	d := regionDevice(c)
	image := impl.Seen(d)
	record := impl.Record{Epoch: 5, Seq: 1, Half: 14, Old: half("o")}
	return []callCase{
		{"WordBytes", impl.WordBytes, [][]any{with(int64(-7))}},
		{"ReadWord", impl.ReadWord, [][]any{with("12345678"), with("x")}},
		{"ShortBytes", impl.ShortBytes, [][]any{with(int64(700)), with(int64(-1))}},
		{"ReadShort", impl.ReadShort, [][]any{with("12"), with("x")}},
		{"Crc", impl.Crc, [][]any{with("abc"), with(noughts(20001))}},
		{"Sealed", impl.Sealed, [][]any{with("abc"), with(line("x"))}},
		{"Unsealed", impl.Unsealed, [][]any{with(sealed("abc")), with(line("x"))}},
		{"Half", impl.Half, [][]any{with(image, int64(3)), with(image, int64(-1))}},
		{"DeviceOk", impl.DeviceOk, [][]any{with(d), with(impl.Device{})}},
		{"Seen", impl.Seen, [][]any{with(d), with(impl.Device{})}},
		{"Load", impl.Load, [][]any{with(d, int64(130), int64(70)), with(d, int64(-1), int64(1))}},
		{"Store", impl.Store, [][]any{with(d, int64(130), "abc"), with(d, int64(600), "abc"), with(d, int64(63), "ab")}},
		{"Flush", impl.Flush, [][]any{with(d, int64(2)), with(d, int64(1)), with(d, int64(99))}},
		{"Fence", impl.Fence, [][]any{with(d), with(impl.Device{Safe: line("s")}), with(impl.Device{})}},
		{"Evict", impl.Evict, [][]any{with(d, int64(2)), with(d, int64(1)), with(d, int64(99))}},
		{"AtRisk", impl.AtRisk, [][]any{with(d), with(impl.Device{})}},
		{"Crash", impl.Crash, [][]any{with(d, []int64{2, 1, 0, 1}), with(d, []int64(nil))}},
		{"TypesOk", impl.TypesOk, [][]any{with(c.Types), with([]string{"x"})}},
		{"RunOf", impl.RunOf, [][]any{with("irririri"), with("x")}},
		{"ConfigOk", impl.ConfigOk, [][]any{with(c), with(impl.Config{})}},
		{"FirstData", impl.FirstData, [][]any{with(c), with(impl.Config{})}},
		{"SuperLine", impl.SuperLine, [][]any{with(c), with(impl.Config{})}},
		{"ReadSuper", impl.ReadSuper, [][]any{with(impl.SuperLine(heapConfig())), with(line("x"))}},
		{"EpochLine", impl.EpochLine, [][]any{with(int64(9)), with(int64(-1))}},
		{"ReadEpoch", impl.ReadEpoch, [][]any{with(impl.EpochLine(9)), with(line("x"))}},
		{"RecordLine", impl.RecordLine, [][]any{with(record), with(impl.Record{})}},
		{"ReadRecord", impl.ReadRecord, [][]any{with(impl.RecordLine(record)), with(line("x"))}},
		{"Format", impl.Format, [][]any{with(heapConfig()), with(impl.Config{})}},
		{"EpochOf", impl.EpochOf, [][]any{with(c, d.Safe), with(c, "")}},
		{"LogOf", impl.LogOf, [][]any{with(c, d.Safe), with(c, "")}},
		{"Noted", impl.Noted, [][]any{with(c, d, int64(15)), with(c, d, int64(4)), with(c, d, int64(0))}},
		{"Logged", impl.Logged, [][]any{with(c, d, int64(15*32), "new"), with(c, d, int64(130), "new"), with(c, d, int64(-1), "new")}},
		{"Ended", impl.Ended, [][]any{with(c, d), with(c, impl.Device{Safe: logImage(c, 5), Lines: d.Lines}), with(c, impl.Device{})}},
		{"RolledBack", impl.RolledBack, [][]any{with(c, d), with(c, impl.Device{Safe: logImage(c, 5), Lines: d.Lines}), with(c, impl.Device{})}},
		{"MapOf", impl.MapOf, [][]any{with([]int64{3, 9, 127}), with([]int64{3, 3})}},
		{"LinesOf", impl.LinesOf, [][]any{with(mapBytes(64, 3, 9, 127)), with("")}},
		{"FreeOf", impl.FreeOf, [][]any{with(mapBytes(64, 3, 9), int64(1), int64(20)), with("", int64(1), int64(20))}},
		{"FindRun", impl.FindRun, [][]any{with(mapBytes(64, 3, 9), int64(1), int64(20), int64(3)), with("", int64(1), int64(20), int64(3))}},
		{"Gaps", impl.Gaps, [][]any{with(mapBytes(64, 3, 9), int64(1), int64(20)), with("", int64(1), int64(20))}},
		{"TakeRun", impl.TakeRun, [][]any{with(mapBytes(64, 3, 9), int64(4), int64(5)), with(mapBytes(64, 3, 9), int64(4), int64(6))}},
		{"GiveRun", impl.GiveRun, [][]any{with(mapBytes(64, 3, 4), int64(3), int64(2)), with(mapBytes(64, 3, 4), int64(3), int64(3))}},
	}
}

func callsOfObjects() []callCase {
	types := worldTypes()
	pair := node(0, 5, 24)
	g := graph([]int64{2, 0, 4, 2}, node(0, 9, 2), node(1, 1, 4, 7), node(0, 8, 3), node(0, 9, 4))
	n := nursery(24, 0, 5, 7, 0, 6, 24, 1, 7, 0, 9, 5, 1, 7)
	refs := []int64{7, 0, 22, 1, 7}
	c := oldConfig()
	ring := withRoots(ringImage(), 0, 20, 0, 30)
	words := wordsImage(2, youngWrite{2, 7}, youngWrite{5, 11}, youngWrite{9, 1})
	set := []int64{2, 5, 9}
	return []callCase{
		{"OldRef", impl.OldRef, [][]any{with(int64(9)), with(int64(0))}},
		{"YoungRef", impl.YoungRef, [][]any{with(int64(9)), with(int64(400))}},
		{"RefKind", impl.RefKind, [][]any{with(int64(9)), with(int64(-1))}},
		{"PlaceOf", impl.PlaceOf, [][]any{with(int64(9)), with(int64(-1))}},
		{"ObjOk", impl.ObjOk, [][]any{with(types, pair), with(types, impl.Obj{})}},
		{"ObjectBytes", impl.ObjectBytes, [][]any{with(types, pair), with(types, impl.Obj{})}},
		{"ReadObject", impl.ReadObject, [][]any{with(types, impl.ObjectBytes(types, pair)), with(types, line("x"))}},
		{"Forwarded", impl.Forwarded, [][]any{with(types, pair, []int64{3, 24}, []int64{5, 26}), with(types, pair, []int64(nil), []int64(nil)), with(types, pair, refs, set)}},
		{"GraphOk", impl.GraphOk, [][]any{with(types, g), with(types, graph([]int64{9}))}},
		{"Reached", impl.Reached, [][]any{with(types, g), with(types, graph([]int64{9}))}},
		{"Plain", impl.Plain, [][]any{with(types, g), with(types, graph([]int64{9}))}},
		{"Alike", impl.Alike, [][]any{with(types, g, g), with(types, g, impl.Plain(types, g)), with(types, g, impl.Graph{})}},
		{"GraphText", impl.GraphText, [][]any{with(types, g), with(types, graph([]int64{9}))}},
		{"ReadGraph", impl.ReadGraph, [][]any{with(types, impl.GraphText(types, g)), with(types, "roots 9\n")}},
		{"LinesFor", impl.LinesFor, [][]any{with(types, g), with(types, graph([]int64{9}))}},
		{"NurseryOk", impl.NurseryOk, [][]any{with(types, n), with(types, impl.Nursery{})}},
		{"Starts", impl.Starts, [][]any{with(types, n), with(types, impl.Nursery{})}},
		{"Ages", impl.Ages, [][]any{with(types, n), with(types, impl.Nursery{})}},
		{"YoungAlloc", impl.YoungAlloc, [][]any{with(types, n, int64(1)), with(types, n, int64(2)), with(types, nursery(2), int64(0)), with(types, impl.Nursery{}, int64(0))}},
		{"YoungObject", impl.YoungObject, [][]any{with(types, n, int64(7)), with(types, n, int64(9))}},
		{"YoungSet", impl.YoungSet, [][]any{with(types, n, int64(1), int64(1), int64(1)), with(types, n, int64(1), int64(0), int64(5)), with(types, n, int64(1), int64(1), int64(3))}},
		{"YoungClosure", impl.YoungClosure, [][]any{with(types, n, refs), with(types, n, []int64{3})}},
		{"Minor", impl.Minor, [][]any{with(types, n, refs), with(types, n, []int64(nil)), with(types, n, []int64{3})}},
		{"SetOk", impl.SetOk, [][]any{with(set), with(refs)}},
		{"Barrier", impl.Barrier, [][]any{with(set, int64(5), int64(1)), with(set, int64(6), int64(1)), with(set, int64(5), int64(0)), with(set, int64(6), int64(0)), with(refs, int64(6), int64(1))}},
		{"CardsOf", impl.CardsOf, [][]any{with(set), with(refs)}},
		{"YoungWords", impl.YoungWords, [][]any{with(words, set), with(words, []int64{3})}},
		{"Patched", impl.Patched, [][]any{with(words, set, []int64{7, 1}, []int64{8, 0}), with(words, set, refs, set)}},
		{"OldObject", impl.OldObject, [][]any{with(c, ring, int64(10)), with(c, ring, int64(0))}},
		{"RootsOf", impl.RootsOf, [][]any{with(c, ring), with(c, "")}},
		{"Walk", impl.Walk, [][]any{with(c, ring, []int64{20, 0, 30}), with(c, ring, []int64{1})}},
		{"LiveMap", impl.LiveMap, [][]any{with(c, ring, []int64{20, 0, 30}), with(c, ring, []int64{1})}},
		{"DurableOf", impl.DurableOf, [][]any{with(c, ring), with(c, "")}},
		{"Planned", impl.Planned, [][]any{with(c, mapBytes(64, 7, 9), []int64{0, 3, 2}), with(c, "", []int64{0})}},
	}
}

func callsOfHeaps() []callCase {
	work := append(powered(-1, regionWork()...), powered(-1, act(impl.AcMinor), act(impl.AcEvict, 10), act(impl.AcNew, 0), act(impl.AcPublish, 3, 1))...)
	for i := range work {
		work[i].Keep = []int64{int64(i), 2}
	}
	done := append(slices.Clone(work), impl.Act{Kind: impl.AcCommit, Power: -1})
	off := append(slices.Clone(work), impl.Act{Kind: impl.AcCommit, Power: 5})
	again := append(slices.Clone(off), impl.Act{Kind: impl.AcCrash, Power: -1, Keep: []int64{2, 1, 2, 1}})
	lists := []any{work, done, off, again, []impl.Act(nil), repeated(61, act(impl.AcMinor))}
	images := []any{smallHeap(), impl.Crash(impl.HeapPlay(smallHeap(), off).Dev, []int64{2, 2, 0, 2}).Safe, withLine(smallHeap(), 3, mapBytes(64, 3, 12, 15)), ""}
	answers := impl.HeapPlay(smallHeap(), work).Answers
	answers[2].Code = impl.CdLog
	where := []impl.Strew{strew(0, impl.AcMinor, 1), strew(2, impl.AcEvict, 4), strew(2, impl.AcMajor, 0)}
	types, deny := worldTypes(), []int64{0, 0, 0, 0, 12}
	playing, asking := [][]any{with("", work)}, [][]any{}
	for _, l := range lists {
		playing = append(playing, with(smallHeap(), l))
	}
	for _, image := range images {
		asking = append(asking, with(image))
	}
	return []callCase{
		{"WorldPlay", impl.WorldPlay, [][]any{with(types, smallWorld(), work, deny), with(types, smallWorld(), done, []int64(nil)), with(types, impl.Graph{}, work, deny)}},
		{"Durables", impl.Durables, [][]any{with(types, smallWorld(), work), with(types, impl.Graph{}, work)}},
		{"HeapPlay", impl.HeapPlay, playing},
		{"HeapYoung", impl.HeapYoung, playing},
		{"HeldLines", impl.HeldLines, playing},
		{"StepsOf", impl.StepsOf, playing},
		{"PeakOf", impl.PeakOf, playing},
		{"ConfigOf", impl.ConfigOf, asking},
		{"Undone", impl.Undone, asking},
		{"Checked", impl.Checked, asking},
		{"Recovered", impl.Recovered, [][]any{with(images[1], int64(-1)), with(images[1], int64(2)), with("", int64(-1))}},
		{"Leaked", impl.Leaked, asking},
		{"Missed", impl.Missed, asking},
		{"OpenSteps", impl.OpenSteps, asking},
		{"DenyOf", impl.DenyOf, [][]any{with(answers), with(make([]impl.Answer, 61))}},
		{"Strewn", impl.Strewn, [][]any{with(done, where), with(again, []impl.Strew(nil)), with([]impl.Act(nil), where[:1]), with(done, []impl.Strew{where[1], where[0]})}},
		{"Stripped", impl.Stripped, [][]any{with(again), with(done[:3]), with(repeated(61, act(impl.AcNew)))}},
		{"Gathered", impl.Gathered, [][]any{with(work, answers), with(work[:3], answers[:3]), with(work, answers[:3])}},
		{"RunScript", impl.RunScript, [][]any{with(script(offHeap("map", "risk", "crash", "now", "safe")...)), with("x")}},
	}
}

func allCalls() []callCase { return slices.Concat(callsOfBytes(), callsOfObjects(), callsOfHeaps()) }

// TestP17EachFunctionIsCalled: none that the program has is missing in allCalls.
func TestP17EachFunctionIsCalled(t *testing.T) {
	files, err := filepath.Glob("../impl/*.go")
	if err != nil || len(files) < 16 {
		t.Fatal(files, err)
	}
	var names, called []string
	for _, file := range files {
		f, err := parser.ParseFile(token.NewFileSet(), file, nil, 0)
		if err != nil {
			t.Fatal(err)
		}
		for _, d := range f.Decls {
			if x, ok := d.(*ast.FuncDecl); ok && x.Recv == nil && x.Name.IsExported() {
				names = append(names, x.Name.Name)
			}
		}
	}
	for _, c := range allCalls() {
		called = append(called, c.name)
	}
	slices.Sort(names)
	slices.Sort(called)
	if !slices.Equal(names, called) {
		t.Errorf("the program has %v\ncalled are %v", names, called)
	}
}

// roomyCopy is a deep copy of v, with two more of its kind behind each list.
func roomyCopy(v reflect.Value) reflect.Value {
	w := reflect.New(v.Type()).Elem()
	switch v.Kind() {
	case reflect.Slice:
		all := reflect.MakeSlice(v.Type(), v.Len()+2, v.Len()+2)
		for i := range v.Len() {
			all.Index(i).Set(roomyCopy(v.Index(i)))
		}
		spoilAll(all.Slice(v.Len(), all.Len()))
		w.Set(all.Slice(0, v.Len()))
	case reflect.Struct:
		for i := range v.NumField() {
			w.Field(i).Set(roomyCopy(v.Field(i)))
		}
	default:
		w.Set(v)
	}
	return w
}

// lookAt tells all of v, and what is behind its lists where room is wanted.
func lookAt(v reflect.Value, room bool) string {
	switch v.Kind() {
	case reflect.Slice:
		if room {
			v = v.Slice(0, v.Cap())
		}
		var text strings.Builder
		for i := range v.Len() {
			text.WriteString(lookAt(v.Index(i), room) + ",")
		}
		return "[" + text.String() + "]"
	case reflect.Struct:
		text := ""
		for i := range v.NumField() {
			text += lookAt(v.Field(i), room) + ";"
		}
		return "{" + text + "}"
	case reflect.Int64:
		return strconv.FormatInt(v.Int(), 10)
	case reflect.Bool:
		return strconv.FormatBool(v.Bool())
	}
	return strconv.Quote(v.String())
}

func lookAtAll(l []reflect.Value, room bool) string {
	text := ""
	for _, v := range l {
		text += lookAt(v, room) + "\n"
	}
	return text
}

// spoilAll writes into all memory of the lists of v, and behind them.
func spoilAll(v reflect.Value) {
	switch v.Kind() {
	case reflect.Slice:
		v = v.Slice(0, v.Cap())
		for i := range v.Len() {
			spoilAll(v.Index(i))
		}
	case reflect.Struct:
		for i := range v.NumField() {
			spoilAll(v.Field(i))
		}
	}
	if v.CanSet() {
		switch v.Kind() {
		case reflect.Int64:
			v.SetInt(-99)
		case reflect.Bool:
			v.SetBool(!v.Bool())
		case reflect.String:
			v.SetString("spoilt")
		}
	}
}

// A stretch is the memory of a list, with the room behind it.
type stretch struct{ from, to uintptr }

func stretchesOf(l []reflect.Value) []stretch {
	var all []stretch
	for _, v := range l {
		switch v.Kind() {
		case reflect.Slice:
			// A list without memory is nowhere.
			if v.Cap() > 0 {
				all = append(all, stretch{v.Pointer(), v.Pointer() + uintptr(v.Cap())*v.Type().Elem().Size()})
			}
			for i := range v.Len() {
				all = append(all, stretchesOf([]reflect.Value{v.Index(i)})...)
			}
		case reflect.Struct:
			for i := range v.NumField() {
				all = append(all, stretchesOf([]reflect.Value{v.Field(i)})...)
			}
		}
	}
	return all
}

func apart(l []stretch) bool {
	l = slices.Clone(l)
	slices.SortFunc(l, func(a, b stretch) int { return int(int64(a.from) - int64(b.from)) })
	for i := range len(l) - 1 {
		if l[i].to > l[i+1].from {
			return false
		}
	}
	return true
}

func roomyArgs(args []any) []reflect.Value {
	var list []reflect.Value
	for _, a := range args {
		list = append(list, roomyCopy(reflect.ValueOf(a)))
	}
	return list
}

// TestP17EachFunctionTwice: each function with the same arguments, whose answers are written into ahead of the second call.
func TestP17EachFunctionTwice(t *testing.T) {
	for _, c := range allCalls() {
		for i, args := range c.args {
			what := c.name + " " + strconv.Itoa(i)
			in := roomyArgs(args)
			before := lookAtAll(in, true)
			f := reflect.ValueOf(c.f)
			first := f.Call(in)
			text := lookAtAll(first, false)
			if !apart(slices.Concat(stretchesOf(in), stretchesOf(first))) {
				t.Errorf("%s: lists share memory", what)
			}
			for _, v := range first {
				spoilAll(v)
			}
			second := f.Call(in)
			if again := lookAtAll(second, false); again != text {
				t.Errorf("%s answers %s\nthen %s", what, text, again)
			}
			// What is answered hangs on no memory: these arguments lie elsewhere, without room behind them.
			var plain []reflect.Value
			for _, a := range args {
				plain = append(plain, reflect.ValueOf(a))
			}
			if again := lookAtAll(f.Call(plain), false); again != text {
				t.Errorf("%s answers %s\nof other memory %s", what, text, again)
			}
			if after := lookAtAll(in, true); after != before {
				t.Errorf("%s: the arguments were %s\nare %s", what, before, after)
			}
		}
	}
}

// TestP17Together: calls that run at one time do not disturb each other.
func TestP17Together(t *testing.T) {
	calls := allCalls()
	said := make(chan string)
	for range 4 {
		go func() {
			text := ""
			for _, c := range calls {
				for _, args := range c.args {
					text += lookAtAll(reflect.ValueOf(c.f).Call(roomyArgs(args)), false)
				}
			}
			said <- text
		}()
	}
	first := <-said
	for range 3 {
		if again := <-said; again != first {
			t.Error("calls at one time answer each in its way")
		}
	}
}
