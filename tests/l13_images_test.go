package tests

import (
	"slices"
	"strings"
	"testing"

	"loop.example/g00648/impl"
)

// An imageTold is what chapter 13 says of an image, told by the tests.
type imageTold struct {
	code   int64
	config impl.Config
	undone string
	live   []int64
}

// toldOf makes the checks of chapter 13 one by one.
func toldOf(image string) imageTold {
	told := imageTold{code: impl.ImSuper}
	if len(image) < 64 {
		return told
	}
	c, ok := impl.ReadSuper(image[:64])
	if !ok || int64(len(image)) != 64*c.Lines {
		return told
	}
	told.config, told.code = c, impl.ImEpoch
	epoch, ok := impl.ReadEpoch(image[64:128])
	if !ok {
		return told
	}
	told.code = impl.ImLog
	var records []impl.Record
	for i := range c.Log {
		r, ok := impl.ReadRecord(image[64*(4+i) : 64*(5+i)])
		switch {
		case !ok || r.Epoch < epoch:
			continue
		case r.Epoch > epoch || i != int64(len(records)) || r.Seq != i || !mayBeLogged(c, r.Half):
			return told
		case slices.ContainsFunc(records, func(other impl.Record) bool { return other.Half == r.Half }):
			return told
		}
		records = append(records, r)
	}
	told.undone, told.code = image, impl.ImRoots
	for _, r := range records {
		told.undone = put(told.undone, 32*r.Half, r.Old)
	}
	roots := slotsIn(told.undone)
	if slices.ContainsFunc(roots, func(ref int64) bool { return !mayBeNamed(c, ref) }) {
		return told
	}
	told.code = impl.ImObjects
	if _, taken, ok := walkByQueue(c, told.undone, roots); ok {
		told.live, told.code = taken, impl.ImOk
	}
	return told
}

// lacking has those of a, among the lines of data, that b has not.
func (i imageTold) lacking(a, b []int64) []int64 {
	return slices.DeleteFunc(slices.Clone(a), func(line int64) bool {
		return line < 4+i.config.Log || line >= i.config.Lines || slices.Contains(b, line)
	})
}

// holdOpened holds all of chapter 13, and OpenSteps, against what the tests tell of any bytes; it answers the code.
func holdOpened(t *testing.T, what string, image string) int64 {
	t.Helper()
	told := toldOf(image)
	if c, ok := impl.ConfigOf(image); ok != (told.code != impl.ImSuper) || !sameConfig(c, told.config) {
		t.Errorf("%s: ConfigOf = %v, %v, want %v", what, c, ok, told.config)
	}
	if u, ok := impl.Undone(image); ok != (told.undone != "") || u != told.undone {
		t.Errorf("%s: Undone = %q, %v, want %q", what, u, ok, told.undone)
	}
	if code := impl.Checked(image); code != told.code {
		t.Errorf("%s: Checked = %d, want %d", what, code, told.code)
	}
	var leaked, missed []int64
	if told.code == impl.ImOk && image[3*64+16:4*64] == noughts(48) {
		written := impl.LinesOf(image[3*64 : 4*64])
		leaked, missed = told.lacking(written, told.live), told.lacking(told.live, written)
	}
	wantLines(t, what+": Leaked", impl.Leaked(image), leaked...)
	wantLines(t, what+": Missed", impl.Missed(image), missed...)
	if told.code != impl.ImOk {
		noOpening(t, what, image)
		return told.code
	}
	holdRecovered(t, what, image, told)
	return told.code
}

func noOpening(t *testing.T, what string, image string) {
	t.Helper()
	for _, power := range []int64{-1, 0, 1, 100} {
		if d, code := impl.Recovered(image, power); code != impl.RcImage || !sameDevice(d, impl.Device{}) {
			t.Errorf("%s: Recovered with power %d = %v, %d", what, power, d, code)
		}
	}
	if n := impl.OpenSteps(image); n != -1 {
		t.Errorf("%s: OpenSteps = %d", what, n)
	}
	noHeap(t, what, image, nil, impl.RnImage)
}

// holdRecovered: what is opened has nothing logged, just the lines of its graph are taken, and all is safe;
// it takes no more than two steps for each line of the log, and seven.
func holdRecovered(t *testing.T, what string, image string, told imageTold) {
	t.Helper()
	d, code := impl.Recovered(image, -1)
	if code != impl.RcOk || len(d.Lines) != 0 {
		t.Fatalf("%s: Recovered = %v, %d", what, d.Lines, code)
	}
	h := newHandHeap(image)
	wantDevice(t, what, d, h.d)
	if l, ok := impl.LogOf(told.config, d.Safe); !ok || len(l) != 0 {
		t.Errorf("%s: something is logged: %v, %v", what, l, ok)
	}
	if d.Safe[3*64:4*64] != mapBytes(64, told.live...) {
		t.Errorf("%s: %v is taken, %v is reached", what, impl.LinesOf(d.Safe[3*64:4*64]), told.live)
	}
	if keptHalves(told.config, d.Safe) != keptHalves(told.config, told.undone) {
		t.Errorf("%s: roots and data are not what they were", what)
	}
	steps := impl.OpenSteps(image)
	if steps != h.made || steps > 2*told.config.Log+7 {
		t.Errorf("%s: OpenSteps = %d, want %d", what, steps, h.made)
	}
	// Again there is nothing to be done.
	again, code := impl.Recovered(d.Safe, 0)
	if wantDevice(t, what, again, d); code != impl.RcOk || impl.OpenSteps(d.Safe) != 0 {
		t.Errorf("%s: recovered again in %d steps, %d", what, impl.OpenSteps(d.Safe), code)
	}
	wantLines(t, what+": Leaked again", impl.Leaked(d.Safe))
	wantLines(t, what+": Missed again", impl.Missed(d.Safe))
}

// recoveredWith has the device that is there when the power fails ahead of the next step.
func recoveredWith(image string, power int64) impl.Device {
	c, _ := impl.ConfigOf(image)
	h := &handHeap{logModel: logModel{c: c, d: impl.Device{Safe: image}}, left: power}
	func() {
		defer func() { recover() }()
		h.opened()
	}()
	return h.d
}

// holdPowers recovers with every power, and what is left of that with all of it.
func holdPowers(t *testing.T, what string, dice *dice, image string) {
	t.Helper()
	c, _ := impl.ConfigOf(image)
	steps := impl.OpenSteps(image)
	last, _ := impl.Recovered(image, -1)
	g, _ := impl.DurableOf(c, last.Safe)
	for power := int64(0); power <= steps+1; power++ {
		d, code := impl.Recovered(image, power)
		wantDevice(t, what, d, recoveredWith(image, power))
		if (code == impl.RcPower) != (power < steps) || (code == impl.RcOk) != (power >= steps) {
			t.Errorf("%s: power %d of %d: code %d", what, power, steps, code)
		}
		for _, keep := range dice.losses(len(d.Lines)) {
			left := impl.Crash(d, keep).Safe
			if code := impl.Checked(left); code != impl.ImOk {
				t.Fatalf("%s: power %d, then %v: Checked = %d", what, power, keep, code)
			}
			end, _ := impl.Recovered(left, -1)
			if h, ok := impl.DurableOf(c, end.Safe); !ok || !sameGraphs(g, h) {
				t.Fatalf("%s: power %d, then %v: %v, want %v", what, power, keep, h, g)
			}
		}
	}
	for _, power := range []int64{-2, -64, steps + 2, 1 << 62} {
		d, code := impl.Recovered(image, power)
		if wantDevice(t, what, d, last); code != impl.RcOk {
			t.Errorf("%s: power %d: code %d", what, power, code)
		}
	}
}

func TestP13Codes(t *testing.T) {
	codes := []int64{impl.ImOk, impl.ImSuper, impl.ImEpoch, impl.ImLog, impl.ImRoots, impl.ImObjects, impl.RcOk, impl.RcImage, impl.RcPower}
	wantLines(t, "codes", codes, 0, 1, 2, 3, 4, 5, 0, 1, 2)
}

func TestP13ConfigsOfImages(t *testing.T) {
	for _, c := range []impl.Config{heapConfig(), oldConfig(), {Lines: 8, Log: 3, Young: 2, Types: []string{"i"}},
		{Lines: 128, Log: 32, Young: 400, Types: slices.Repeat([]string{strings.Repeat("r", 23)}, 12)}} {
		image := impl.Format(c)
		if got, ok := impl.ConfigOf(image); !ok || !sameConfig(got, c) {
			t.Errorf("ConfigOf = %v, %v", got, ok)
		}
		// Line 0 and the size are all that is asked.
		odd := image[:64] + strings.Repeat("?", len(image)-64)
		if got, ok := impl.ConfigOf(odd); !ok || !sameConfig(got, c) {
			t.Errorf("ConfigOf = %v, %v", got, ok)
		}
		if code := holdOpened(t, "odd", odd); code != impl.ImEpoch {
			t.Errorf("Checked = %d", code)
		}
		if code := holdOpened(t, "formatted", image); code != impl.ImOk || impl.OpenSteps(image) != 0 {
			t.Errorf("Checked = %d", code)
		}
	}
	image := smallHeap()
	for what, other := range map[string]string{
		"nothing": "", "a byte": "N", "63 bytes": image[:63], "line 0 alone": image[:64], "a byte less": image[:len(image)-1],
		"a byte more": image + "\x00", "a line less": image[:len(image)-64], "a line more": image + noughts(64), "twice": image + image,
		"noughts": noughts(len(image)), "another config": withLine(image, 0, impl.SuperLine(oldConfig())), "a turned byte": put(image, 5, "\x15"),
		"the epoch in line 0": withLine(image, 0, impl.EpochLine(0)), "shifted": image[64:] + image[:64],
	} {
		if code := holdOpened(t, what, other); code != impl.ImSuper {
			t.Errorf("%s: Checked = %d", what, code)
		}
	}
}

// loggedImage is smallHeap at epoch 5 with these lines in its log.
func loggedImage(lines ...string) string {
	image := withLine(smallHeap(), 1, impl.EpochLine(5))
	for i, s := range lines {
		image = withLine(image, 4+int64(i), s)
	}
	return image
}

// recordOn is the line of a record with four words.
func recordOn(epoch, seq, at int64, words ...int64) string {
	old := ""
	for _, v := range words {
		old += impl.WordBytes(v)
	}
	return impl.RecordLine(impl.Record{Epoch: epoch, Seq: seq, Half: at, Old: old})
}

func TestP13TheFirstCheckThatFails(t *testing.T) {
	noEpoch := withLine(smallHeap(), 1, noughts(64))
	badLog := loggedImage(recordOn(5, 1, 4, 0, 0, 0, 0))
	youngRoot := withRoots(smallHeap(), 21)
	noObject := withRoots(smallHeap(), 26)
	for what, c := range map[string]struct {
		image string
		code  int64
	}{
		"right":                        {smallHeap(), impl.ImOk},
		"no epoch":                     {noEpoch, impl.ImEpoch},
		"no epoch, and all else wrong": {withRoots(withLine(badLog, 1, line("x")), 21), impl.ImEpoch},
		"the log alone":                {badLog, impl.ImLog},
		"the log, and a young root":    {withRoots(badLog, 21), impl.ImLog},
		"a greater epoch":              {loggedImage(recordOn(6, 0, 4, 0, 0, 0, 0)), impl.ImLog},
		"behind a gap":                 {loggedImage(noughts(64), recordOn(5, 0, 4, 0, 0, 0, 0)), impl.ImLog},
		"a half of the map":            {loggedImage(recordOn(5, 0, 6, 0, 0, 0, 0)), impl.ImLog},
		"a half of the log":            {loggedImage(recordOn(5, 0, 19, 0, 0, 0, 0)), impl.ImLog},
		"a half beyond":                {loggedImage(recordOn(5, 0, 40, 0, 0, 0, 0)), impl.ImLog},
		"one half twice":               {loggedImage(recordOn(5, 0, 4, 0, 0, 0, 0), recordOn(5, 1, 4, 0, 0, 0, 0)), impl.ImLog},
		"an older epoch":               {loggedImage(recordOn(4, 3, 40, 1, 1, 1, 1)), impl.ImOk},
		"a young root":                 {youngRoot, impl.ImRoots},
		"a root in the log":            {withRoots(smallHeap(), 18), impl.ImRoots},
		"a root in line 1":             {withRoots(smallHeap(), 2), impl.ImRoots},
		"a root beyond":                {withRoots(smallHeap(), 40), impl.ImRoots},
		"no reference":                 {withRoots(smallHeap(), -2), impl.ImRoots},
		"the last slot":                {withRoots(smallHeap(), 0, 0, 0, 0, 0, 0, 0, 21), impl.ImRoots},
		"a root of no object":          {noObject, impl.ImObjects},
		"a young field":                {withWord(smallHeap(), 82, 21), impl.ImObjects},
		"a field in the log":           {withWord(smallHeap(), 82, 18), impl.ImObjects},
		"a field of no object":         {withWord(smallHeap(), 82, 38), impl.ImObjects},
		"no such type":                 {withWord(smallHeap(), 80, 3), impl.ImObjects},
		"what should be noughts":       {withWord(smallHeap(), 87, 1), impl.ImObjects},
		"nothing reaches it":           {withWord(smallHeap(), 98, 21), impl.ImOk},
		// What is undone counts, and not what the image has.
		"a young root is undone":   {withRoots(loggedImage(recordOn(5, 0, 4, 20, 0, 0, 0)), 21), impl.ImOk},
		"no object is undone":      {withRoots(loggedImage(recordOn(5, 0, 4, 20, 0, 0, 0)), 26), impl.ImOk},
		"a young root comes back":  {loggedImage(recordOn(5, 0, 4, 21, 0, 0, 0)), impl.ImRoots},
		"no object comes back":     {loggedImage(recordOn(5, 0, 4, 26, 0, 0, 0)), impl.ImObjects},
		"a young field is undone":  {withWord(loggedImage(recordOn(5, 0, 20, 1, 6, 22, 0)), 82, 21), impl.ImOk},
		"a young field comes back": {loggedImage(recordOn(5, 0, 20, 1, 6, 21, 0)), impl.ImObjects},
	} {
		if code := holdOpened(t, what, c.image); code != c.code {
			t.Errorf("%s: Checked = %d, want %d", what, code, c.code)
		}
	}
	c := oldConfig()
	together := withRoots(oldImage(c, twoAt(6, 0, 0), pairAt(7, 1, 0)), 12, 14)
	if code := holdOpened(t, "a line together", together); code != impl.ImObjects {
		t.Errorf("a line together: Checked = %d", code)
	}
}

func TestP13WhatIsUndone(t *testing.T) {
	image := withRoots(loggedImage(recordOn(5, 0, 4, 20, 22, 0, 0), recordOn(5, 1, 21, 0, 0, 0, 0), recordOn(5, 2, 20, 1, 66, 22, 0), recordOn(4, 3, 5, 9, 9, 9, 9)), 1, 3, 5, 7)
	want := withWord(withRoots(image, 20, 22, 0, 0), 81, 66)
	if u, ok := impl.Undone(image); !ok || u != want {
		t.Errorf("Undone = %q, %v", u, ok)
	}
	if code := holdOpened(t, "undone", image); code != impl.ImOk {
		t.Errorf("Checked = %d", code)
	}
	d, _ := impl.Recovered(image, -1)
	if impl.EpochOf(heapConfig(), d.Safe) != 6 || d.Safe[:64] != image[:64] || d.Safe[4*64:10*64] != image[4*64:10*64] {
		t.Error("config, epoch and log")
	}
	// Three halves, lines 2 and 10, a fence, the epoch; the map.
	if n := impl.OpenSteps(image); n != 3+2+1+3+3 {
		t.Errorf("OpenSteps = %d", n)
	}
	holdPowers(t, "undone", &dice{state: 130}, image)
	// Without a log, or a config, there is nothing to undo; roots and objects are not asked.
	for what, c := range map[string]struct {
		image string
		ok    bool
	}{
		"young roots": {withRoots(smallHeap(), 1, 1), true},
		"no objects":  {withRoots(smallHeap(), 38), true},
		"no log":      {loggedImage(recordOn(5, 1, 4, 0, 0, 0, 0)), false},
		"no epoch":    {withLine(smallHeap(), 1, line("e")), false},
		"no config":   {withLine(smallHeap(), 0, line("c")), false},
	} {
		if u, ok := impl.Undone(c.image); ok != c.ok || ok && u != c.image || !ok && u != "" {
			t.Errorf("%s: Undone = %q, %v", what, u, ok)
		}
	}
}

// TestP13TheMostSteps: a log that is full, each record in a line of its own, and another map.
func TestP13TheMostSteps(t *testing.T) {
	for _, size := range []int64{1, 2, 6, 32} {
		c := impl.Config{Lines: 2*size + 8, Log: size, Young: 8, Types: []string{"ir"}}
		image := withLine(impl.Format(c), 3, mapBytes(64, c.Lines-1))
		for i := range size {
			image = withLine(image, 4+i, recordOn(0, i, 2*(4+size+i), 0, 0, 0, 0))
		}
		if n := impl.OpenSteps(image); n != 2*size+7 {
			t.Errorf("a log of %d: OpenSteps = %d", size, n)
		}
		holdOpened(t, "the most steps", image)
		holdPowers(t, "the most steps", &dice{state: 131}, image)
		// Without the map three fewer.
		if n := impl.OpenSteps(withLine(image, 3, noughts(64))); n != 2*size+4 {
			t.Errorf("a log of %d: OpenSteps = %d", size, n)
		}
	}
}

func TestP13MapsWithTooManyAndTooFew(t *testing.T) {
	for what, c := range map[string]struct {
		m              string
		leaked, missed []int64
		steps          int64
	}{
		"right":                {mapBytes(64, 10, 11), nil, nil, 0},
		"none":                 {noughts(64), nil, []int64{10, 11}, 3},
		"one too few":          {mapBytes(64, 11), nil, []int64{10}, 3},
		"one too many":         {mapBytes(64, 10, 11, 19), []int64{19}, nil, 3},
		"both":                 {mapBytes(64, 11, 12, 13), []int64{12, 13}, []int64{10}, 3},
		"all of data":          {mapBytes(64, linesFrom(10, 20)...), linesFrom(12, 20), nil, 3},
		"lines that are none":  {mapBytes(64, 0, 3, 9, 10, 11, 20, 21, 127), nil, nil, 3},
		"all that there are":   {mapBytes(64, linesFrom(0, 128)...), linesFrom(12, 20), nil, 3},
		"no map":               {mapBytes(64, 10, 11, 12, 128), nil, nil, 3},
		"no map, none of data": {mapBytes(64, 511), nil, nil, 3},
		"bytes":                {line("\xff"), nil, nil, 3},
	} {
		image := withLine(smallHeap(), 3, c.m)
		if code := holdOpened(t, what, image); code != impl.ImOk {
			t.Errorf("%s: Checked = %d", what, code)
		}
		wantLines(t, what+": Leaked", impl.Leaked(image), c.leaked...)
		wantLines(t, what+": Missed", impl.Missed(image), c.missed...)
		if n := impl.OpenSteps(image); n != c.steps {
			t.Errorf("%s: OpenSteps = %d", what, n)
		}
		holdPowers(t, what, &dice{state: 132}, image)
		// What is wrong with the image is told of no map.
		wantLines(t, what+": Leaked of no image", impl.Leaked(withRoots(image, 1)))
		wantLines(t, what+": Missed of no image", impl.Missed(withRoots(image, 1)))
	}
	// The log is undone first: what it brings back is reached.
	image := withLine(withRoots(loggedImage(recordOn(5, 0, 4, 20, 22, 0, 0)), 0, 0, 0, 0, 0, 0, 0, 0), 3, mapBytes(64, 12))
	wantLines(t, "Leaked", impl.Leaked(image), 12)
	wantLines(t, "Missed", impl.Missed(image), 10, 11)
}

// TestP13WhatActsLeave: images of a day's work, cut off at any step, with all that a loss of power may leave.
func TestP13WhatActsLeave(t *testing.T) {
	d := &dice{state: 133}
	c := heapConfig()
	c.Young = 14
	image := smallHeapOf(c)
	list := workDay()
	most := int64(0)
	for i, n := range impl.StepsOf(image, list) {
		for power := range n {
			some := append(slices.Clone(list[:i]), list[i])
			some[i].Power = power
			dev := impl.HeapPlay(image, some).Dev
			for _, keep := range d.losses(len(dev.Lines)) {
				left := impl.Crash(dev, keep).Safe
				if code := holdOpened(t, "left", left); code != impl.ImOk {
					t.Fatalf("act %d, power %d, keep %v: Checked = %d", i, power, keep, code)
				}
				most = max(most, impl.OpenSteps(left))
			}
			holdPowers(t, "left", d, impl.Crash(dev, nil).Safe)
		}
	}
	if most < 10 {
		t.Errorf("never more than %d steps", most)
	}
}

// TestP13AnythingActsLeave: the same of acts by chance.
func TestP13AnythingActsLeave(t *testing.T) {
	d := &dice{state: 134}
	for range 150 {
		image := d.someHeap()
		list := d.someWork(image, 40)
		for i, n := range impl.StepsOf(image, list) {
			if n > 0 && d.below(4) == 0 {
				list[i].Power = d.below(n + 2)
			}
		}
		dev := impl.HeapPlay(image, list).Dev
		for _, keep := range d.losses(len(dev.Lines)) {
			if code := holdOpened(t, "left", impl.Crash(dev, keep).Safe); code != impl.ImOk {
				t.Fatalf("behind %v, keep %v: Checked = %d", list, keep, code)
			}
		}
	}
}

// someLeft is an image that acts left, with and without a log.
func (d *dice) someLeft() string {
	image := d.someHeap()
	list := d.someWork(image, 30)
	for i, n := range impl.StepsOf(image, list) {
		if n > 0 && d.below(5) == 0 {
			list[i].Power = d.below(n + 2)
		}
	}
	dev := impl.HeapPlay(image, list).Dev
	return impl.Crash(dev, d.losses(len(dev.Lines))[d.below(9)]).Safe
}

// TestP13TurnedImages: of images that acts left one byte, one word or one line is another one.
func TestP13TurnedImages(t *testing.T) {
	d := &dice{state: 135}
	codes := map[int64]int{}
	for range 60 {
		image := d.someLeft()
		size := int64(len(image))
		for range 30 {
			other := image
			switch at := d.below(size); d.below(7) {
			case 0:
				other = put(image, at, string([]byte{image[at] ^ byte(1<<d.below(8))}))
			case 1:
				other = withWord(image, at/8, d.anyRef())
			case 2:
				other = withWord(image, 16+d.below(8), 2*d.below(size/64))
			case 3:
				other = withLine(image, at/64, image[d.below(size/64)*64:][:64])
			case 4:
				other = withLine(image, at/64, d.text(64))
			case 5:
				other = put(image, 64, impl.EpochLine(d.below(4)))
			case 6:
				other = withLine(image, 4, recordOn(d.below(3), d.below(2), d.below(size/32), d.below(size/32), 0, 0, 0))
			}
			codes[holdOpened(t, "turned", other)]++
		}
	}
	for code := int64(impl.ImOk); code <= impl.ImObjects; code++ {
		if codes[code] < 20 {
			t.Errorf("code %d came up %d times alone", code, codes[code])
		}
	}
}

// TestP13WhatIsNotReachedMayBeAnything: an image is opened, and a heap, whatever its free lines, its map and
// the lines of its log that are not of now are.
func TestP13WhatIsNotReachedMayBeAnything(t *testing.T) {
	d := &dice{state: 136}
	logs := 0
	for range 120 {
		image := d.someLeft()
		told := toldOf(image)
		c := told.config
		records, _ := impl.LogOf(c, image)
		for n := int64(3); n < c.Lines; n++ {
			reached := n >= 4 && n < 4+int64(len(records)) || slices.Contains(told.live, n)
			if !reached && d.below(4) > 0 {
				image = withLine(image, n, d.text(64))
			}
		}
		if code := holdOpened(t, "odd lines", image); code != impl.ImOk {
			t.Fatalf("odd lines: Checked = %d", code)
		}
		heapRun(t, "odd lines", image, d.someWork(image, 40)...)
		if len(records) > 0 {
			logs++
		}
	}
	if logs < 10 {
		t.Errorf("%d images with a log alone", logs)
	}
}

// TestP13AnyBytes are refused, and nothing is told of them.
func TestP13AnyBytes(t *testing.T) {
	d := &dice{state: 137}
	for range 300 {
		holdOpened(t, "any bytes", d.text(d.below(70)))
		holdOpened(t, "any lines", d.text(64*d.below(130)))
		c := d.config()
		image := impl.SuperLine(c) + impl.EpochLine(d.below(5)) + d.text(64*(c.Lines-2))
		holdOpened(t, "any bytes behind two lines", image)
		for i := range c.Log {
			if d.below(2) == 0 {
				image = withLine(image, 4+i, impl.RecordLine(impl.Record{Epoch: d.below(5), Seq: i, Half: d.below(2 * c.Lines), Old: d.text(32)}))
			}
		}
		holdOpened(t, "any bytes behind a log", withRoots(image, 0, 0, 0, 0, 0, 0, 0, 0))
	}
	for _, n := range []int{129 * 64, 20001, 1 << 20} {
		holdOpened(t, "too long", smallHeap()+noughts(n-len(smallHeap())))
	}
}

func TestP13TheLastEpoch(t *testing.T) {
	// A log of the epoch ahead of the last one is undone; none can be of the last one.
	image := withLine(smallHeap(), 1, impl.EpochLine(impl.MaxEpoch-1))
	image = withRoots(withLine(image, 4, recordOn(impl.MaxEpoch-1, 0, 4, 20, 22, 0, 0)), 1)
	if code := holdOpened(t, "the last epoch", image); code != impl.ImOk {
		t.Errorf("Checked = %d", code)
	}
	d, _ := impl.Recovered(image, -1)
	if e := impl.EpochOf(heapConfig(), d.Safe); e != impl.MaxEpoch {
		t.Errorf("epoch %d", e)
	}
	holdOpened(t, "the last epoch", withLine(image, 1, impl.EpochLine(impl.MaxEpoch)))
}

func TestP17AnswersOfImagesAreNewMemory(t *testing.T) {
	image := withLine(smallHeap(), 3, mapBytes(64, 12, 13))
	ask := func() string {
		c, _ := impl.ConfigOf(image)
		leaked, missed := impl.Leaked(image), impl.Missed(image)
		d, code := impl.Recovered(image, 2)
		text := strings.Join(c.Types, " ") + numbersText(leaked) + numbersText(missed) + numbersText([]int64{code, impl.OpenSteps(image)}) + impl.Seen(d)
		c.Types[0] = "spoilt"
		spoilNumbers(leaked)
		spoilNumbers(missed)
		d.Lines[0].Data = "spoilt"
		return text
	}
	first := ask()
	if again := ask(); again != first {
		t.Errorf("first %q, then %q", first, again)
	}
}
