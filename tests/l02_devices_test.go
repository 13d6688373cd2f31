package tests

import (
	"strings"
	"testing"

	"loop.example/g00648/impl"
)

// mixed has a line with nothing, one stored, one sent, one stored behind its flush, and one whose Data is Safe.
func mixed() impl.Device {
	return impl.Device{
		Safe: line("a") + line("b") + line("c") + line("d") + line("e"),
		Lines: []impl.Line{
			{At: 1, Data: line("B")},
			{At: 2, Data: line("C"), Sent: line("C")},
			{At: 3, Data: line("D"), Sent: line("x")},
			{At: 4, Data: line("e")},
		},
	}
}

func wrongDevices() map[string]impl.Device {
	two := noughts(128)
	full := line("x")
	return map[string]impl.Device{
		"zero":            {},
		"63 bytes":        {Safe: noughts(63)},
		"65 bytes":        {Safe: noughts(65)},
		"129 lines":       {Safe: noughts(64 * 129)},
		"128 lines and 1": {Safe: noughts(64*128 + 1)},
		"lines alone":     {Lines: []impl.Line{{At: 0, Data: full}}},
		"at below 0":      {Safe: two, Lines: []impl.Line{{At: -1, Data: full}}},
		"at beyond":       {Safe: two, Lines: []impl.Line{{At: 2, Data: full}}},
		"at far beyond":   {Safe: two, Lines: []impl.Line{{At: 1 << 58, Data: full}}},
		"one twice":       {Safe: two, Lines: []impl.Line{{At: 1, Data: full}, {At: 1, Data: full}}},
		"falling":         {Safe: two, Lines: []impl.Line{{At: 1, Data: full}, {At: 0, Data: full}}},
		"short data":      {Safe: two, Lines: []impl.Line{{At: 1, Data: full[1:]}}},
		"long data":       {Safe: two, Lines: []impl.Line{{At: 1, Data: full + "x"}}},
		"no data":         {Safe: two, Lines: []impl.Line{{At: 1}}},
		"short sent":      {Safe: two, Lines: []impl.Line{{At: 1, Data: full, Sent: full[1:]}}},
		"long sent":       {Safe: two, Lines: []impl.Line{{At: 1, Data: full, Sent: full + "x"}}},
		"second wrong":    {Safe: two, Lines: []impl.Line{{At: 0, Data: full}, {At: 1, Data: full, Sent: "x"}}},
	}
}

func TestP2RightDevices(t *testing.T) {
	for _, n := range []int{1, 2, 127, 128} {
		if !impl.DeviceOk(impl.Device{Safe: noughts(64 * n)}) {
			t.Errorf("%d lines", n)
		}
		d := impl.Device{Safe: noughts(64 * n)}
		for i := range n {
			d.Lines = append(d.Lines, impl.Line{At: int64(i), Data: line("x")})
		}
		if !impl.DeviceOk(d) || impl.Seen(d) != strings.Repeat("x", 64*n) {
			t.Errorf("%d lines, all with a Line", n)
		}
	}
	if !impl.DeviceOk(mixed()) {
		t.Error("mixed")
	}
}

func TestP2WrongDevices(t *testing.T) {
	for name, d := range wrongDevices() {
		if impl.DeviceOk(d) || impl.Seen(d) != "" || len(impl.AtRisk(d)) != 0 {
			t.Errorf("%s is taken as right", name)
		}
		if s, ok := impl.Load(d, 0, 0); ok || s != "" {
			t.Errorf("%s: Load = %q, %v", name, s, ok)
		}
		wantDevice(t, name+": Fence", impl.Fence(d), impl.Device{})
		wantDevice(t, name+": Crash", impl.Crash(d, []int64{2, 2, 2}), impl.Device{})
		refused(t, name+": Store", func() (impl.Device, bool) { return impl.Store(d, 0, "x") })
		refused(t, name+": Flush", func() (impl.Device, bool) { return impl.Flush(d, 0) })
		refused(t, name+": Evict", func() (impl.Device, bool) { return impl.Evict(d, 0) })
	}
}

func refused(t *testing.T, what string, call func() (impl.Device, bool)) {
	t.Helper()
	d, ok := call()
	if ok {
		t.Errorf("%s is not refused", what)
	}
	wantDevice(t, what, d, impl.Device{})
}

func TestP2Seen(t *testing.T) {
	if s := impl.Seen(mixed()); s != line("a")+line("B")+line("C")+line("D")+line("e") {
		t.Errorf("Seen = %q", s)
	}
}

func TestP2Load(t *testing.T) {
	d := mixed()
	seen := impl.Seen(d)
	size := int64(len(seen))
	for at := int64(-1); at <= size+1; at++ {
		for _, n := range []int64{-1, 0, 1, 63, 64, 65, size - at, size - at + 1, size, size + 1} {
			want, right := "", at >= 0 && n >= 0 && at+n <= size
			if right {
				want = seen[at : at+n]
			}
			if s, ok := impl.Load(d, at, n); ok != right || s != want {
				t.Errorf("Load(%d, %d) = %q, %v", at, n, s, ok)
			}
		}
	}
	for _, e := range edges {
		for _, f := range append([]int64{0, 1, 64}, edges...) {
			if s, ok := impl.Load(d, e, f); ok || s != "" {
				t.Errorf("Load(%d, %d) = %q, %v", e, f, s, ok)
			}
			if s, ok := impl.Load(d, f, e); ok || s != "" {
				t.Errorf("Load(%d, %d) = %q, %v", f, e, s, ok)
			}
		}
	}
}

func TestP2StoreAddsALine(t *testing.T) {
	d := mixed()
	got, ok := impl.Store(d, 10, "new")
	if !ok {
		t.Fatal("refused")
	}
	first := impl.Line{At: 0, Data: line("a")[:10] + "new" + line("a")[13:]}
	wantDevice(t, "Store", got, impl.Device{Safe: d.Safe, Lines: append([]impl.Line{first}, d.Lines...)})
}

func TestP2StoreBetweenLines(t *testing.T) {
	d := impl.Device{Safe: noughts(64 * 5), Lines: []impl.Line{{At: 0, Data: line("p")}, {At: 4, Data: line("q")}}}
	got, ok := impl.Store(d, 64*2, line("m"))
	if !ok {
		t.Fatal("refused")
	}
	wantDevice(t, "Store", got, impl.Device{Safe: d.Safe, Lines: []impl.Line{d.Lines[0], {At: 2, Data: line("m")}, d.Lines[1]}})
}

func TestP2StoreOfWhatIsThereStillAddsALine(t *testing.T) {
	d := impl.Device{Safe: line("a")}
	got, ok := impl.Store(d, 0, "a")
	if !ok || len(impl.AtRisk(got)) != 0 {
		t.Error(ok, impl.AtRisk(got))
	}
	wantDevice(t, "Store", got, impl.Device{Safe: d.Safe, Lines: []impl.Line{{At: 0, Data: line("a")}}})
}

func TestP2StoreIsSeenAndNothingElseChanges(t *testing.T) {
	d := mixed()
	seen := impl.Seen(d)
	size := int64(len(seen))
	for at := int64(-70); at < size+70; at++ {
		for _, n := range []int64{0, 1, 2, 32, 63, 64, 65, 128} {
			data := strings.Repeat("s", int(n))
			right := at >= 0 && n >= 1 && n <= 64 && at+n <= size && at/64 == (at+n-1)/64
			got, ok := impl.Store(d, at, data)
			if ok != right {
				t.Fatalf("Store of %d at %d: %v", n, at, ok)
			}
			if !right {
				wantDevice(t, "refused", got, impl.Device{})
				continue
			}
			if impl.Seen(got) != seen[:at]+data+seen[at+n:] || got.Safe != d.Safe || !impl.DeviceOk(got) {
				t.Fatalf("Store of %d at %d: %#v", n, at, got)
			}
			if back, ok := impl.Load(got, at, n); !ok || back != data {
				t.Fatalf("Store of %d at %d, then Load: %q", n, at, back)
			}
		}
	}
	for _, at := range edges {
		refused(t, "Store far away", func() (impl.Device, bool) { return impl.Store(d, at, "x") })
		refused(t, "Store far away", func() (impl.Device, bool) { return impl.Store(d, at, line("x")) })
	}
}

func TestP2Flush(t *testing.T) {
	d := mixed()
	for at := range int64(5) {
		want := mixed()
		for i := range want.Lines {
			if want.Lines[i].At == at {
				want.Lines[i].Sent = want.Lines[i].Data
			}
		}
		got, ok := impl.Flush(d, at)
		if !ok {
			t.Errorf("Flush(%d) is refused", at)
		}
		wantDevice(t, "Flush", got, want)
	}
	for _, at := range append([]int64{5, 6, 128}, edges...) {
		refused(t, "Flush of no line", func() (impl.Device, bool) { return impl.Flush(d, at) })
	}
}

func TestP2Fence(t *testing.T) {
	wantDevice(t, "Fence", impl.Fence(mixed()), impl.Device{
		Safe: line("a") + line("b") + line("C") + line("x") + line("e"),
		Lines: []impl.Line{
			{At: 1, Data: line("B")},
			{At: 3, Data: line("D")},
			{At: 4, Data: line("e")},
		},
	})
	still := impl.Device{Safe: noughts(64)}
	wantDevice(t, "Fence of nothing", impl.Fence(still), still)
}

func TestP2StoreBehindAFlush(t *testing.T) {
	d := impl.Device{Safe: line("a")}
	d, _ = impl.Store(d, 0, "1")
	d, _ = impl.Flush(d, 0)
	d, _ = impl.Store(d, 1, "2")
	sent := "1" + line("a")[1:]
	data := "12" + line("a")[2:]
	wantDevice(t, "behind the store", d, impl.Device{Safe: line("a"), Lines: []impl.Line{{At: 0, Data: data, Sent: sent}}})
	f := impl.Fence(d)
	wantDevice(t, "behind the fence", f, impl.Device{Safe: sent, Lines: []impl.Line{{At: 0, Data: data}}})
	if l := impl.AtRisk(f); !sameNumbers(l, []int64{0}) {
		t.Errorf("AtRisk = %v", l)
	}
	f, _ = impl.Flush(f, 0)
	wantDevice(t, "sent again, and fenced", impl.Fence(f), impl.Device{Safe: data})
}

func TestP2Evict(t *testing.T) {
	d := mixed()
	for at := range int64(5) {
		want := impl.Device{Safe: d.Safe}
		for _, l := range d.Lines {
			if l.At == at {
				want.Safe = want.Safe[:64*at] + l.Data + want.Safe[64*at+64:]
			} else {
				want.Lines = append(want.Lines, l)
			}
		}
		got, ok := impl.Evict(d, at)
		if !ok || impl.Seen(got) != impl.Seen(d) {
			t.Errorf("Evict(%d): %v, %q", at, ok, impl.Seen(got))
		}
		wantDevice(t, "Evict", got, want)
	}
	for _, at := range append([]int64{5, 6, 128}, edges...) {
		refused(t, "Evict of no line", func() (impl.Device, bool) { return impl.Evict(d, at) })
	}
}

func TestP2AtRisk(t *testing.T) {
	if l := impl.AtRisk(mixed()); !sameNumbers(l, []int64{1, 2, 3}) {
		t.Errorf("AtRisk = %v", l)
	}
	if l := impl.AtRisk(impl.Device{Safe: noughts(64)}); len(l) != 0 {
		t.Errorf("AtRisk = %v", l)
	}
}

func TestP2AllFlushedAndFencedIsSafe(t *testing.T) {
	d := mixed()
	seen := impl.Seen(d)
	for at := range int64(5) {
		d, _ = impl.Flush(d, at)
	}
	wantDevice(t, "all fenced", impl.Fence(d), impl.Device{Safe: seen})
}

func TestP2Crash(t *testing.T) {
	for _, r := range []struct {
		keep []int64
		left string
	}{
		{nil, "abcde"},
		{[]int64{}, "abcde"},
		{[]int64{0, 0, 0, 0}, "abcde"},
		{[]int64{1, 1, 1, 1}, "abCxe"},
		{[]int64{2, 2, 2, 2}, "aBCDe"},
		{[]int64{2}, "aBcde"},
		{[]int64{0, 2}, "abCde"},
		{[]int64{3, -1, 2}, "abcDe"},
		{[]int64{-2, 1 << 32, 1}, "abcxe"},
		{[]int64{2, 0, 1, 2, 2, 1, 2}, "aBcxe"},
		{edges, "abcde"},
	} {
		want := ""
		for _, b := range r.left {
			want += line(string(b))
		}
		wantDevice(t, "Crash", impl.Crash(mixed(), r.keep), impl.Device{Safe: want})
	}
	still := impl.Device{Safe: line("z")}
	wantDevice(t, "Crash without Lines", impl.Crash(still, []int64{2, 1}), still)
}

// model is a device in which each line is told on its own, so that the program can be held against it.
type model struct {
	safe, data, sent []string
	has              []bool
}

func newModel(safe string) *model {
	m := &model{}
	for at := 0; at < len(safe); at += 64 {
		m.safe = append(m.safe, safe[at:at+64])
		m.data, m.sent, m.has = append(m.data, ""), append(m.sent, ""), append(m.has, false)
	}
	return m
}

func (m *model) seen(i int64) string {
	if m.has[i] {
		return m.data[i]
	}
	return m.safe[i]
}

func (m *model) gone(i int64) { m.has[i], m.data[i], m.sent[i] = false, "", "" }

func (m *model) fence() {
	for i := range int64(len(m.safe)) {
		if m.sent[i] == "" {
			continue
		}
		m.safe[i] = m.sent[i]
		if m.data[i] == m.sent[i] {
			m.gone(i)
		}
		m.sent[i] = ""
	}
}

func (m *model) crash(keep []int64) {
	place := 0
	for i := range int64(len(m.safe)) {
		if !m.has[i] {
			continue
		}
		if place < len(keep) && keep[place] == 2 {
			m.safe[i] = m.data[i]
		} else if place < len(keep) && keep[place] == 1 && m.sent[i] != "" {
			m.safe[i] = m.sent[i]
		}
		place++
		m.gone(i)
	}
}

func (m *model) device() impl.Device {
	d := impl.Device{Safe: strings.Join(m.safe, "")}
	for i, has := range m.has {
		if has {
			d.Lines = append(d.Lines, impl.Line{At: int64(i), Data: m.data[i], Sent: m.sent[i]})
		}
	}
	return d
}

// step does one act on both and answers the program's device.
func (m *model) step(r *dice, d impl.Device) (impl.Device, bool) {
	i := r.below(int64(len(m.safe)))
	switch r.below(9) {
	case 0, 1, 2:
		from := r.below(64)
		data := r.text(1 + r.below(64-from))
		old := m.seen(i)
		m.has[i], m.data[i] = true, old[:from]+data+old[from+int64(len(data)):]
		return impl.Store(d, 64*i+from, data)
	case 3, 4, 5:
		m.sent[i] = m.data[i]
		return impl.Flush(d, i)
	case 6:
		m.fence()
		return impl.Fence(d), true
	case 7:
		m.safe[i] = m.seen(i)
		m.gone(i)
		return impl.Evict(d, i)
	}
	if r.below(3) > 0 {
		return d, true
	}
	keep := make([]int64, r.below(6))
	for k := range keep {
		keep[k] = r.below(4)
	}
	m.crash(keep)
	return impl.Crash(d, keep), true
}

func TestP2ManyActs(t *testing.T) {
	for seed := range uint64(40) {
		r := &dice{seed}
		d := impl.Device{Safe: r.text(64 * (1 + r.below(9)))}
		m := newModel(d.Safe)
		for range 150 {
			got, ok := m.step(r, d)
			if !ok {
				t.Fatal("refused")
			}
			wantDevice(t, "many acts", got, m.device())
			if !impl.DeviceOk(got) || t.Failed() {
				t.Fatalf("seed %d", seed)
			}
			seen := ""
			var risk []int64
			for i := range int64(len(m.safe)) {
				seen += m.seen(i)
				if m.seen(i) != m.safe[i] {
					risk = append(risk, i)
				}
			}
			if impl.Seen(got) != seen || !sameNumbers(impl.AtRisk(got), risk) {
				t.Fatalf("seed %d: seen or at risk", seed)
			}
			d = got
		}
	}
}

// TestP17ArgumentsOfDevicesStay: nothing is written into an argument or the spare room behind it, and answers share none of it.
func TestP17ArgumentsOfDevicesStay(t *testing.T) {
	keep := []int64{2, 1, 0, 2, 9, 9}
	calls := map[string]func(impl.Device) impl.Device{
		"Store new":   func(d impl.Device) impl.Device { e, _ := impl.Store(d, 0, "x"); return e },
		"Store old":   func(d impl.Device) impl.Device { e, _ := impl.Store(d, 64, "x"); return e },
		"Store last":  func(d impl.Device) impl.Device { e, _ := impl.Store(d, 64*5, "x"); return e },
		"Flush":       func(d impl.Device) impl.Device { e, _ := impl.Flush(d, 1); return e },
		"Flush none":  func(d impl.Device) impl.Device { e, _ := impl.Flush(d, 0); return e },
		"Fence":       impl.Fence,
		"Evict":       func(d impl.Device) impl.Device { e, _ := impl.Evict(d, 1); return e },
		"Evict none":  func(d impl.Device) impl.Device { e, _ := impl.Evict(d, 0); return e },
		"Crash":       func(d impl.Device) impl.Device { return impl.Crash(d, keep[:4]) },
		"Seen":        func(d impl.Device) impl.Device { return impl.Device{Safe: impl.Seen(d)} },
		"DeviceOk":    func(d impl.Device) impl.Device { impl.DeviceOk(d); return impl.Device{} },
		"AtRisk":      func(d impl.Device) impl.Device { return impl.Device{Safe: impl.WordBytes(int64(len(impl.AtRisk(d))))} },
		"Load":        func(d impl.Device) impl.Device { s, _ := impl.Load(d, 60, 70); return impl.Device{Safe: s} },
		"Fence a few": func(d impl.Device) impl.Device { return impl.Fence(impl.Device{Safe: d.Safe, Lines: d.Lines[:1]}) },
	}
	for name, call := range calls {
		d := mixed()
		d.Safe += line("f")
		d, all := roomy(d)
		before := append([]impl.Line(nil), all...)
		first := call(d)
		if !sameLines(all, before) {
			t.Errorf("%s wrote into its argument", name)
		}
		again := call(d)
		wantDevice(t, name+" again", again, first)
		for i := range first.Lines {
			first.Lines[i] = impl.Line{At: 99}
		}
		first.Lines = append(first.Lines, impl.Line{At: 98})
		if !sameLines(all, before) {
			t.Errorf("%s answered memory of its argument", name)
		}
		wantDevice(t, name+" a third time", call(d), again)
	}
	if !sameNumbers(keep, []int64{2, 1, 0, 2, 9, 9}) {
		t.Errorf("keep is %v", keep)
	}
}
