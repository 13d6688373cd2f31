package tests

import (
	"slices"
	"testing"

	"loop.example/g00648/impl"
)

// A handHeap is chapter 12 line by line. What an act answers it takes from a world
// that is told which acts were refused because something was full; what it does to
// device and nursery it does by hand.
type handHeap struct {
	logModel
	young   impl.Nursery
	handles [handleCount]int64
	set     []int64
	off     bool
	left    int64
	made    int64
	// What the world had when the heap was opened, and what came since.
	graph impl.Graph
	since []impl.Act
	deny  []int64
}

// A powerCut is what a step panics with when there is no power for it.
type powerCut struct{}

// newHandHeap opens an image that can be opened, with all power.
func newHandHeap(image string) *handHeap {
	c, _ := impl.ConfigOf(image)
	h := &handHeap{logModel: logModel{c: c, d: impl.Device{Safe: image}}, left: -1}
	h.opened()
	return h
}

// opened is chapter 13's Recovered of a device without Lines.
func (h *handHeap) opened() {
	c, safe := h.c, h.d.Safe
	*h = handHeap{logModel: logModel{c: c, d: h.d, epoch: impl.EpochOf(c, safe)}, young: nursery(c.Young), left: h.left, made: h.made}
	h.ahead = h.spend
	h.records, _ = impl.LogOf(c, safe)
	h.rolledBack()
	h.mapped(slotsIn(impl.Seen(h.d)))
	h.graph, _ = graphByQueue(c, impl.Seen(h.d))
}

func (h *handHeap) spend() {
	if h.left == 0 {
		panic(powerCut{})
	}
	h.left--
	h.made++
}

func slotsIn(image string) []int64 {
	var l []int64
	for i := range int64(slotCount) {
		l = append(l, wordIn(image, 16+i))
	}
	return l
}

// mapped writes the map of what these reach to line 3, where it is not that.
func (h *handHeap) mapped(refs []int64) {
	if m := h.reaches(refs); impl.Seen(h.d)[3*64:4*64] != m {
		h.whole(3, m)
	}
}

func (h *handHeap) reaches(refs []int64) string {
	_, taken, ok := walkByQueue(h.c, impl.Seen(h.d), refs)
	if !ok {
		panic("what is reached can't be walked")
	}
	return mapBytes(64, taken...)
}

// held are the old references of handles, slots and nursery.
func (h *handHeap) held() []int64 {
	refs := slices.Concat(h.handles[:], slotsIn(impl.Seen(h.d)))
	things, starts := thingsOf(h.c.Types, h.young)
	for _, start := range starts {
		for i, kind := range h.c.Types[things[start].kind] {
			if kind == 'r' {
				refs = append(refs, things[start].vals[i])
			}
		}
	}
	return slices.DeleteFunc(refs, func(ref int64) bool { return ref%2 == 1 })
}

// world is what chapter 11 says of all acts since the heap was opened.
func (h *handHeap) world() impl.Run {
	return impl.WorldPlay(h.c.Types, h.graph, h.since, h.deny)
}

func (h *handHeap) do(a impl.Act) (answer impl.Answer) {
	h.made = 0
	if h.off && a.Kind != impl.AcCrash {
		return refuses(impl.CdOff)
	}
	h.left = a.Power
	defer func() {
		if r := recover(); r != nil {
			if r != (powerCut{}) {
				panic(r)
			}
			*h = handHeap{logModel: logModel{c: h.c, d: h.d}, off: true, made: h.made}
			answer = refuses(impl.CdPower)
		}
	}()
	if a.Kind == impl.AcCrash {
		h.d = impl.Crash(h.d, a.Keep)
		h.opened()
		return does(0)
	}
	in := h.world().In
	h.since, h.deny = append(h.since, a), append(h.deny, 0)
	answer = h.world().Answers[len(h.since)-1]
	if answer.Code != impl.CdOk {
		return answer
	}
	if code := h.work(a, answer.N, in); code != impl.CdOk {
		h.deny[len(h.deny)-1] = code
		return refuses(code)
	}
	return answer
}

// work does what no code of chapter 11 refuses; n is what it answers.
func (h *handHeap) work(a impl.Act, n int64, in bool) int64 {
	switch a.Kind {
	case impl.AcNew:
		return h.alloc(a.A, n)
	case impl.AcSet:
		return h.written(h.handles[a.A], a.B, a.C, false)
	case impl.AcPut:
		return h.written(h.handles[a.A], a.B, h.of(a.C), true)
	case impl.AcPublish:
		return h.word(16+a.A, h.of(a.B), true)
	case impl.AcRef:
		h.given(n, h.value(h.handles[a.A], a.B))
	case impl.AcRoot:
		h.given(n, wordIn(impl.Seen(h.d), 16+a.A))
	case impl.AcDrop:
		h.handles[a.A] = 0
	case impl.AcCommit:
		return h.commit()
	case impl.AcAbort:
		h.rolledBack()
		h.set = nil
	case impl.AcMinor:
		h.minor()
	case impl.AcMajor:
		h.minor()
		if !in {
			h.mapped(h.held())
		}
	case impl.AcEvict:
		if d, ok := impl.Evict(h.d, a.A); ok {
			h.d = d
		}
	}
	return impl.CdOk
}

func (h *handHeap) of(handle int64) int64 {
	if handle < 0 {
		return 0
	}
	return h.handles[handle]
}

// given is a new handle, unless there is none.
func (h *handHeap) given(handle, ref int64) {
	if handle >= 0 {
		h.handles[handle] = ref
	}
}

func (h *handHeap) value(ref, field int64) int64 {
	if ref%2 == 1 {
		return h.young.Words[ref/2+1+field]
	}
	return wordIn(impl.Seen(h.d), 4*ref+1+field)
}

func (h *handHeap) alloc(kind, handle int64) int64 {
	size := 1 + len(h.c.Types[kind])
	if int64(len(h.young.Words)+size) > h.young.Size {
		h.minor()
	}
	if int64(len(h.young.Words)+size) > h.young.Size {
		return impl.CdHeap
	}
	h.handles[handle] = 2*int64(len(h.young.Words)) + 1
	h.young.Words = append(slices.Clone(h.young.Words), make([]int64, size)...)
	h.young.Words[h.handles[handle]/2] = 4 * kind
	return impl.CdOk
}

func (h *handHeap) written(ref, field, v int64, named bool) int64 {
	if ref%2 == 0 {
		return h.word(4*ref+1+field, v, named)
	}
	h.young.Words = slices.Clone(h.young.Words)
	h.young.Words[ref/2+1+field] = v
	return impl.CdOk
}

// word logs a word of the device, and remembers it when it names what is young.
func (h *handHeap) word(word, v int64, named bool) int64 {
	if h.logged(8*word, impl.WordBytes(v), 8) == impl.LgFull {
		return impl.CdLog
	}
	if named {
		h.set = slices.DeleteFunc(slices.Clone(h.set), func(n int64) bool { return n == word })
		if v%2 == 1 {
			h.set = append(h.set, word)
			slices.Sort(h.set)
		}
	}
	return impl.CdOk
}

func (h *handHeap) remembered() []int64 {
	var refs []int64
	for _, word := range h.set {
		refs = append(refs, wordIn(impl.Seen(h.d), word))
	}
	return refs
}

// turned is o with its references told by where.
func (h *handHeap) turned(o youngThing, where map[int64]int64) []int64 {
	vals := slices.Clone(o.vals)
	for i, kind := range h.c.Types[o.kind] {
		if to, ok := where[vals[i]]; ok && kind == 'r' {
			vals[i] = to
		}
	}
	return vals
}

func (h *handHeap) turnHandles(where map[int64]int64) {
	for i, ref := range h.handles {
		if to, ok := where[ref]; ok {
			h.handles[i] = to
		}
	}
}

func (h *handHeap) minor() {
	refs := h.remembered()
	list := closureByQueue(h.c.Types, h.young, slices.Concat(h.handles[:], refs))
	things, _ := thingsOf(h.c.Types, h.young)
	where := map[int64]int64{}
	at := int64(0)
	for _, ref := range list {
		where[ref] = 2*at + 1
		at += int64(1 + len(things[ref/2].vals))
	}
	var words []int64
	for _, ref := range list {
		o := things[ref/2]
		words = append(words, 4*o.kind+min(o.age+1, 3))
		words = append(words, h.turned(o, where)...)
	}
	h.young.Words = words
	h.turnHandles(where)
	for i, word := range h.set {
		if where[refs[i]] != refs[i] {
			h.store(8*word, impl.WordBytes(where[refs[i]]))
		}
	}
}

func (h *handHeap) commit() int64 {
	if len(h.records) == 0 {
		return impl.CdOk
	}
	list := closureByQueue(h.c.Types, h.young, h.remembered())
	things, starts := thingsOf(h.c.Types, h.young)
	var kinds []int64
	for _, ref := range list {
		kinds = append(kinds, things[ref/2].kind)
	}
	places, ok := plannedByHand(h.c, impl.Seen(h.d)[3*64:4*64], kinds)
	if !ok {
		return impl.CdOld
	}
	where := map[int64]int64{}
	for i, ref := range list {
		where[ref] = 2 * places[i]
	}
	h.placed(list, things, where)
	for i, word := range h.set {
		h.store(8*word, impl.WordBytes(where[h.remembered()[i]]))
	}
	h.ended()
	h.turnHandles(where)
	var words []int64
	for _, start := range starts {
		words = append(words, h.young.Words[start])
		words = append(words, h.turned(things[start], where)...)
	}
	h.young.Words = words
	h.set = nil
	return impl.CdOk
}

// placed stores the objects line by line, and the map behind them.
func (h *handHeap) placed(list []int64, things map[int64]youngThing, where map[int64]int64) {
	taken := impl.LinesOf(impl.Seen(h.d)[3*64 : 4*64])
	for _, ref := range list {
		o := things[ref/2]
		bytes := impl.WordBytes(o.kind + 1)
		for _, v := range h.turned(o, where) {
			bytes += impl.WordBytes(v)
		}
		for line := where[ref] / 2; bytes != ""; line++ {
			part := bytes[:min(64, len(bytes))]
			bytes = bytes[len(part):]
			h.store(64*line, part+noughts(64-len(part)))
			taken = append(taken, line)
		}
	}
	if len(list) > 0 {
		h.store(3*64, mapBytes(64, taken...))
	}
}

// run is what HeapPlay has to answer behind these answers.
func (h *handHeap) run(answers []impl.Answer) impl.Run {
	run := impl.Run{Answers: answers, Off: h.off, Dev: h.d}
	if h.off {
		return run
	}
	world := h.world()
	run.Now, run.Safe, run.In, run.Doomed = world.Now, world.Safe, world.In, world.Doomed
	run.Used = int64(len(h.young.Words))
	return run
}

// lines are those that HeldLines tells.
func (h *handHeap) lines() []int64 {
	if h.off || h.world().In {
		return nil
	}
	h.minor()
	return impl.LinesOf(h.reaches(h.held()))
}

func sameRun(a, b impl.Run) bool {
	return a.Code == b.Code && slices.Equal(a.Answers, b.Answers) && sameGraphs(a.Now, b.Now) && sameGraphs(a.Safe, b.Safe) &&
		a.In == b.In && a.Doomed == b.Doomed && a.Off == b.Off && sameDevice(a.Dev, b.Dev) && a.Used == b.Used
}

// holdHeap holds all that is told of a heap against handHeap, and answers the run.
func holdHeap(t *testing.T, what string, image string, list []impl.Act) impl.Run {
	t.Helper()
	h := newHandHeap(image)
	var answers []impl.Answer
	var steps []int64
	peak := int64(0)
	for _, a := range list {
		answers = append(answers, h.do(a))
		steps = append(steps, h.made)
		peak = max(peak, int64(len(h.young.Words)))
	}
	run := impl.HeapPlay(image, list)
	if want := h.run(answers); !sameRun(run, want) {
		t.Fatalf("%s: HeapPlay behind %v\n = %+v\nwant %+v", what, list, run, want)
	}
	if n := impl.HeapYoung(image, list); !sameNursery(n, h.young) {
		t.Fatalf("%s: HeapYoung behind %v = %v, want %v", what, list, n, h.young)
	}
	if n := impl.PeakOf(image, list); n != peak {
		t.Fatalf("%s: PeakOf %v = %d, want %d", what, list, n, peak)
	}
	if allPowered(list) {
		if l := impl.StepsOf(image, list); !sameNumbers(l, steps) {
			t.Fatalf("%s: StepsOf %v = %v, want %v", what, list, l, steps)
		}
	}
	if l, want := impl.HeldLines(image, list), h.lines(); !sameNumbers(l, want) {
		t.Fatalf("%s: HeldLines behind %v = %v, want %v", what, list, l, want)
	}
	return run
}

func allPowered(list []impl.Act) bool {
	return !slices.ContainsFunc(list, func(a impl.Act) bool { return a.Power >= 0 })
}
