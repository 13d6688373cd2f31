package tests

import (
	"slices"
	"strings"
	"testing"

	"loop.example/g00648/impl"
)

// logConfig has a log of three lines, 4 .. 6, and data in 7 .. 11: halves 14 .. 23.
func logConfig() impl.Config {
	return impl.Config{Lines: 12, Log: 3, Young: 8, Types: []string{"i"}}
}

// half has 32 bytes that are all b.
func half(b string) string { return strings.Repeat(b, 32) }

// recordOf is the line of a record whose Old is all b.
func recordOf(epoch, seq, at int64, b string) string {
	return impl.RecordLine(impl.Record{Epoch: epoch, Seq: seq, Half: at, Old: half(b)})
}

// withLine is the image with another line n.
func withLine(image string, n int64, data string) string {
	return image[:64*n] + data + image[64*n+64:]
}

// logImage has an epoch, these lines of the log, and no two halves alike in roots and data.
func logImage(c impl.Config, epoch int64, log ...string) string {
	image := withLine(impl.Format(c), 1, impl.EpochLine(epoch))
	for i, s := range log {
		image = withLine(image, 4+int64(i), s)
	}
	for n := int64(2); n < c.Lines; n++ {
		if n == 2 || n >= 4+c.Log {
			image = withLine(image, n, half(string([]byte{byte(2*n + 65)}))+half(string([]byte{byte(2*n + 66)})))
		}
	}
	return image
}

// mayBeLogged is what chapter 5 says of halves.
func mayBeLogged(c impl.Config, n int64) bool {
	return n == 4 || n == 5 || n >= 2*(4+c.Log) && n < 2*c.Lines
}

// keptHalves are all halves that may be logged, one behind the other.
func keptHalves(c impl.Config, image string) string {
	return image[2*64:3*64] + image[64*(4+c.Log):]
}

// undone is an image with what its log says that was.
func undone(t *testing.T, c impl.Config, image string) string {
	t.Helper()
	l, ok := impl.LogOf(c, image)
	if !ok {
		t.Fatal("no log is told")
	}
	for i := len(l) - 1; i >= 0; i-- {
		image = image[:32*l[i].Half] + l[i].Old + image[32*l[i].Half+32:]
	}
	return image
}

func sameRecords(a, b []impl.Record) bool {
	if len(a) != len(b) {
		return false
	}
	for i := range a {
		if a[i] != b[i] {
			return false
		}
	}
	return true
}

// wantLogCall holds what a call of chapter 5 answered against a device and a code.
func wantLogCall(t *testing.T, what string, got impl.Device, code int64, want impl.Device, wantCode int64) {
	t.Helper()
	if code != wantCode {
		t.Errorf("%s: code %d, want %d", what, code, wantCode)
	}
	wantDevice(t, what, got, want)
}

// allLogCalls calls each function that answers a code, with arguments that are right otherwise.
func allLogCalls(t *testing.T, what string, c impl.Config, d impl.Device, code int64) {
	t.Helper()
	got, k := impl.Noted(c, d, 4)
	wantLogCall(t, what+": Noted", got, k, impl.Device{}, code)
	got, k = impl.Logged(c, d, 130, "x")
	wantLogCall(t, what+": Logged", got, k, impl.Device{}, code)
	got, k = impl.Ended(c, d)
	wantLogCall(t, what+": Ended", got, k, impl.Device{}, code)
	got, k = impl.RolledBack(c, d)
	wantLogCall(t, what+": RolledBack", got, k, impl.Device{}, code)
}

func TestP5Codes(t *testing.T) {
	if impl.LgOk != 0 || impl.LgBad != 1 || impl.LgForm != 2 || impl.LgFull != 3 {
		t.Error(impl.LgOk, impl.LgBad, impl.LgForm, impl.LgFull)
	}
}

func TestP5Epochs(t *testing.T) {
	c := logConfig()
	for _, e := range []int64{0, 1, 258, impl.MaxEpoch - 1, impl.MaxEpoch} {
		if got := impl.EpochOf(c, logImage(c, e)); got != e {
			t.Errorf("EpochOf = %d, want %d", got, e)
		}
		if l, ok := impl.LogOf(c, logImage(c, e)); !ok || len(l) != 0 {
			t.Errorf("epoch %d: LogOf = %v, %v", e, l, ok)
		}
	}
	// An image is told by its size alone: line 0 and the map may be anything.
	odd := withLine(withLine(logImage(c, 7), 0, line("?")), 3, line("\xff"))
	if got := impl.EpochOf(c, odd); got != 7 {
		t.Errorf("EpochOf with another line 0 = %d", got)
	}
}

// wrongLogImages are images of logConfig without an epoch.
func wrongLogImages() map[string]string {
	c := logConfig()
	image := logImage(c, 3)
	turned := []byte(impl.EpochLine(3))
	turned[0] ^= 1
	return map[string]string{
		"nothing":           "",
		"a byte less":       image[:len(image)-1],
		"a byte more":       image + "x",
		"a line less":       image[:len(image)-64],
		"a line more":       image + line("x"),
		"line 1 noughts":    withLine(image, 1, noughts(64)),
		"line 1 turned":     withLine(image, 1, string(turned)),
		"line 1 beyond":     withLine(image, 1, sealed(impl.WordBytes(impl.MaxEpoch+1))),
		"line 1 below 0":    withLine(image, 1, sealed(impl.WordBytes(-1))),
		"line 1 and more":   withLine(image, 1, sealed(impl.WordBytes(3)+"x")),
		"line 1 a record":   withLine(image, 1, recordOf(3, 0, 4, "a")),
		"line 1 is line 0":  withLine(image, 1, impl.SuperLine(c)),
		"line 1 not sealed": withLine(image, 1, impl.WordBytes(3)+noughts(56)),
		"epoch in line 2":   withLine(withLine(image, 1, noughts(64)), 2, impl.EpochLine(3)),
	}
}

func TestP5NoEpoch(t *testing.T) {
	c := logConfig()
	for name, image := range wrongLogImages() {
		if e := impl.EpochOf(c, image); e != -1 {
			t.Errorf("%s: EpochOf = %d", name, e)
		}
		if l, ok := impl.LogOf(c, image); ok || len(l) != 0 {
			t.Errorf("%s: LogOf = %v, %v", name, l, ok)
		}
		allLogCalls(t, name, c, impl.Device{Safe: image}, impl.LgBad)
	}
}

// wrongConfigs have the lines of logConfig, where that does not make them right.
func wrongConfigs() map[string]impl.Config {
	l := map[string]impl.Config{
		"zero":             {},
		"no log":           {Lines: 12, Log: 0, Young: 8, Types: []string{"i"}},
		"log below 0":      {Lines: 12, Log: -1, Young: 8, Types: []string{"i"}},
		"too long a log":   {Lines: 12, Log: 8, Young: 8, Types: []string{"i"}},
		"nursery of 1":     {Lines: 12, Log: 3, Young: 1, Types: []string{"i"}},
		"nursery of 401":   {Lines: 12, Log: 3, Young: 401, Types: []string{"i"}},
		"no types":         {Lines: 12, Log: 3, Young: 8},
		"a wrong type":     {Lines: 12, Log: 3, Young: 8, Types: []string{"i", ""}},
		"lines, log great": {Lines: 1 << 58, Log: 1 << 62, Young: 8, Types: []string{"i"}},
	}
	for name, types := range wrongTypes() {
		c := logConfig()
		c.Types = types
		l["types: "+name] = c
	}
	return l
}

func TestP5WrongConfigs(t *testing.T) {
	image := logImage(logConfig(), 3)
	for name, c := range wrongConfigs() {
		if e := impl.EpochOf(c, image); e != -1 {
			t.Errorf("%s: EpochOf = %d", name, e)
		}
		if l, ok := impl.LogOf(c, image); ok || len(l) != 0 {
			t.Errorf("%s: LogOf = %v, %v", name, l, ok)
		}
		allLogCalls(t, name, c, impl.Device{Safe: image}, impl.LgBad)
	}
	for _, n := range []int64{11, 13, 8, 128} {
		other := logConfig()
		other.Lines = n
		if e := impl.EpochOf(other, image); e != -1 {
			t.Errorf("%d lines: EpochOf = %d", n, e)
		}
		allLogCalls(t, "another size", other, impl.Device{Safe: image}, impl.LgBad)
	}
}

func TestP5WrongDevices(t *testing.T) {
	c := logConfig()
	for name, d := range wrongDevices() {
		allLogCalls(t, name, c, d, impl.LgBad)
	}
	image := logImage(c, 3)
	for name, lines := range map[string][]impl.Line{
		"at beyond":  {{At: 12, Data: line("x")}},
		"at below 0": {{At: -1, Data: line("x")}},
		"falling":    {{At: 9, Data: line("x")}, {At: 8, Data: line("x")}},
		"one twice":  {{At: 9, Data: line("x")}, {At: 9, Data: line("x")}},
		"short data": {{At: 9, Data: "x"}},
		"short sent": {{At: 9, Data: line("x"), Sent: "x"}},
	} {
		allLogCalls(t, name, c, impl.Device{Safe: image, Lines: lines}, impl.LgBad)
	}
}

func TestP5LogsThatAreTold(t *testing.T) {
	c := logConfig()
	a, b, d := recordOf(5, 0, 4, "a"), recordOf(5, 1, 14, "b"), recordOf(5, 2, 23, "c")
	old := recordOf(4, 0, 4, "o")
	for name, r := range map[string]struct {
		log  []string
		want int
	}{
		"none":                             {nil, 0},
		"one":                              {[]string{a}, 1},
		"two":                              {[]string{a, b}, 2},
		"as many as there are lines":       {[]string{a, b, d}, 3},
		"older ones alone":                 {[]string{old, recordOf(4, 1, 5, "o"), recordOf(4, 2, 14, "o")}, 0},
		"older behind":                     {[]string{a, recordOf(4, 1, 4, "o"), recordOf(4, 2, 5, "o")}, 1},
		"older behind, of another Seq":     {[]string{a, recordOf(3, 0, 4, "o"), recordOf(4, 2, 4, "o")}, 1},
		"older behind two":                 {[]string{a, b, recordOf(0, 31, 0, "o")}, 2},
		"older with a Half never logged":   {[]string{recordOf(4, 9, 255, "o"), recordOf(1, 9, 0, "o")}, 0},
		"older, twice one Half":            {[]string{recordOf(4, 0, 4, "o"), recordOf(4, 1, 4, "o")}, 0},
		"anything behind":                  {[]string{a, line("z"), line("U")}, 1},
		"anything alone":                   {[]string{line("z"), line("U"), impl.EpochLine(9)}, 0},
		"a greater one that is not sealed": {[]string{a, recordOf(6, 1, 14, "n")[:60] + "nnnn"}, 1},
		"one of now that is not sealed":    {[]string{a, line("z"), d[:60] + "cccc"}, 1},
	} {
		image := logImage(c, 5, r.log...)
		want := []impl.Record{
			{Epoch: 5, Seq: 0, Half: 4, Old: half("a")},
			{Epoch: 5, Seq: 1, Half: 14, Old: half("b")},
			{Epoch: 5, Seq: 2, Half: 23, Old: half("c")},
		}[:r.want]
		if l, ok := impl.LogOf(c, image); !ok || !sameRecords(l, want) {
			t.Errorf("%s: LogOf = %v, %v", name, l, ok)
		}
	}
	// A record in a line of data is none of the log.
	if l, ok := impl.LogOf(c, withLine(logImage(c, 5, a), 7, recordOf(6, 1, 14, "n"))); !ok || len(l) != 1 {
		t.Errorf("a record in data: LogOf = %v, %v", l, ok)
	}
	if l, ok := impl.LogOf(c, withLine(logImage(c, 5, a), 3, recordOf(6, 1, 14, "n"))); !ok || len(l) != 1 {
		t.Errorf("a record in the map: LogOf = %v, %v", l, ok)
	}
}

func TestP5TheLongestLog(t *testing.T) {
	c := impl.Config{Lines: 128, Log: 32, Young: 2, Types: []string{"r"}}
	d := impl.Device{Safe: logImage(c, impl.MaxEpoch-1)}
	for n := range int64(32) {
		e, k := impl.Noted(c, d, 255-n)
		if k != impl.LgOk {
			t.Fatal(n, k)
		}
		d = e
	}
	l, ok := impl.LogOf(c, d.Safe)
	if !ok || len(l) != 32 || l[31].Seq != 31 || l[31].Half != 224 || l[31].Epoch != impl.MaxEpoch-1 {
		t.Error(ok, l)
	}
	got, k := impl.Noted(c, d, 223)
	wantLogCall(t, "one more", got, k, impl.Device{}, impl.LgFull)
	got, k = impl.Noted(c, d, 255)
	wantLogCall(t, "one again", got, k, d, impl.LgOk)
}

func wrongLogs() map[string][]string {
	a, b := recordOf(5, 0, 4, "a"), recordOf(5, 1, 14, "b")
	old := recordOf(4, 0, 4, "o")
	return map[string][]string{
		"a greater one":                {recordOf(6, 0, 4, "n")},
		"a greater one behind":         {a, b, recordOf(6, 2, 15, "n")},
		"a greater one behind an old":  {old, old, recordOf(6, 2, 15, "n")},
		"the greatest one":             {old, recordOf(impl.MaxEpoch-1, 0, 4, "n")},
		"now behind an old":            {old, a},
		"now behind an old, Seq 1":     {old, b},
		"an old between":               {a, old, b},
		"an old between, Seq 2":        {a, old, recordOf(5, 2, 14, "b")},
		"anything between":             {a, line("z"), b},
		"noughts ahead":                {noughts(64), a},
		"noughts ahead, all three":     {noughts(64), noughts(64), a},
		"Seq from 1 on":                {b},
		"Seq 0, 0":                     {a, recordOf(5, 0, 14, "b")},
		"Seq 0, 2":                     {a, recordOf(5, 2, 14, "b")},
		"Seq 1, 0":                     {b, a},
		"Seq 0, 1, 31":                 {a, b, recordOf(5, 31, 15, "c")},
		"one Half twice":               {a, recordOf(5, 1, 4, "b")},
		"one Half twice, one between":  {a, b, recordOf(5, 2, 4, "c")},
		"one Half twice, with one Old": {a, recordOf(5, 1, 4, "a")},
	}
}

// wrongLog asks for all that chapter 5 says of an image that has no log that is told.
func wrongLog(t *testing.T, name string, c impl.Config, image string) {
	t.Helper()
	if l, ok := impl.LogOf(c, image); ok || len(l) != 0 {
		t.Errorf("%s: LogOf = %v, %v", name, l, ok)
	}
	if e := impl.EpochOf(c, image); e != 5 {
		t.Errorf("%s: EpochOf = %d", name, e)
	}
	allLogCalls(t, name, c, impl.Device{Safe: image}, impl.LgBad)
}

func TestP5LogsThatAreNot(t *testing.T) {
	c := logConfig()
	for name, log := range wrongLogs() {
		wrongLog(t, name, c, logImage(c, 5, log...))
	}
}

func TestP5HalvesThatMayBeLogged(t *testing.T) {
	for _, c := range []impl.Config{logConfig(), {Lines: 8, Log: 1, Young: 2, Types: []string{"i"}}, {Lines: 8, Log: 3, Young: 2, Types: []string{"i"}}, {Lines: 128, Log: 32, Young: 2, Types: []string{"i"}}, {Lines: 127, Log: 2, Young: 2, Types: []string{"i"}}} {
		for n := range int64(256) {
			image := logImage(c, 5, recordOf(5, 0, n, "a"))
			if !mayBeLogged(c, n) {
				wrongLog(t, "a Half that may not be", c, image)
				continue
			}
			if l, ok := impl.LogOf(c, image); !ok || len(l) != 1 || l[0].Half != n {
				t.Errorf("%v: LogOf with half %d = %v, %v", c, n, l, ok)
			}
		}
		d := impl.Device{Safe: logImage(c, 5)}
		for n := int64(-3); n < 260; n++ {
			got, k := impl.Noted(c, d, n)
			if !mayBeLogged(c, n) {
				wantLogCall(t, "Noted", got, k, impl.Device{}, impl.LgForm)
				continue
			}
			want := withLine(d.Safe, 4, impl.RecordLine(impl.Record{Epoch: 5, Half: n, Old: impl.Half(d.Safe, n)}))
			wantLogCall(t, "Noted", got, k, impl.Device{Safe: want}, impl.LgOk)
		}
		for _, n := range edges {
			got, k := impl.Noted(c, d, n)
			wantLogCall(t, "Noted far away", got, k, impl.Device{}, impl.LgForm)
		}
	}
}

// TestP5NotedKeepsWhatIsSeen: Old is what is seen, not what is safe; what was sent comes with the fence, what was not stays at risk.
func TestP5NotedKeepsWhatIsSeen(t *testing.T) {
	c := logConfig()
	safe := logImage(c, 5)
	d := impl.Device{Safe: safe, Lines: []impl.Line{
		{At: 4, Data: line("q"), Sent: line("p")},
		{At: 8, Data: half("s") + half("t")},
		{At: 9, Data: line("u"), Sent: line("u")},
		{At: 10, Data: line("v"), Sent: line("w")},
	}}
	got, k := impl.Noted(c, d, 17)
	want := withLine(withLine(withLine(safe, 4, recordOf(5, 0, 17, "t")), 9, line("u")), 10, line("w"))
	wantLogCall(t, "Noted", got, k, impl.Device{Safe: want, Lines: []impl.Line{
		{At: 8, Data: half("s") + half("t")},
		{At: 10, Data: line("v")},
	}}, impl.LgOk)
}

func TestP5NotedAgain(t *testing.T) {
	c := logConfig()
	d := impl.Device{Safe: logImage(c, 5, recordOf(5, 0, 4, "a"), recordOf(5, 1, 14, "b"), recordOf(5, 2, 23, "c")), Lines: []impl.Line{
		{At: 2, Data: line("x"), Sent: line("x")},
		{At: 9, Data: line("y"), Sent: line("z")},
	}}
	for _, n := range []int64{4, 14, 23} {
		got, k := impl.Noted(c, d, n)
		wantLogCall(t, "a full log", got, k, d, impl.LgOk)
	}
	for _, n := range []int64{5, 15, 22} {
		got, k := impl.Noted(c, d, n)
		wantLogCall(t, "a full log, one more", got, k, impl.Device{}, impl.LgFull)
	}
	for _, n := range []int64{-1, 0, 3, 6, 7, 8, 13, 24, 255, 256} {
		got, k := impl.Noted(c, d, n)
		wantLogCall(t, "a full log, none that may be", got, k, impl.Device{}, impl.LgForm)
	}
	// An older record with that half is not of now, though: it is noted, over the first of them.
	d = impl.Device{Safe: logImage(c, 6, recordOf(5, 0, 4, "a"), recordOf(5, 1, 14, "b"), recordOf(5, 2, 23, "c"))}
	got, k := impl.Noted(c, d, 14)
	want := withLine(d.Safe, 4, impl.RecordLine(impl.Record{Epoch: 6, Half: 14, Old: impl.Half(d.Safe, 14)}))
	wantLogCall(t, "an older one", got, k, impl.Device{Safe: want}, impl.LgOk)
	d, want = got, withLine(want, 5, impl.RecordLine(impl.Record{Epoch: 6, Seq: 1, Half: 4, Old: impl.Half(want, 4)}))
	got, k = impl.Noted(c, d, 4)
	wantLogCall(t, "a second one", got, k, impl.Device{Safe: want}, impl.LgOk)
}

func TestP5TheLastEpoch(t *testing.T) {
	c := logConfig()
	d := impl.Device{Safe: logImage(c, impl.MaxEpoch, recordOf(impl.MaxEpoch-1, 0, 4, "o"))}
	got, k := impl.Noted(c, d, 4)
	wantLogCall(t, "Noted", got, k, impl.Device{}, impl.LgFull)
	got, k = impl.Noted(c, d, 3)
	wantLogCall(t, "Noted of none", got, k, impl.Device{}, impl.LgForm)
	got, k = impl.Logged(c, d, 130, "x")
	wantLogCall(t, "Logged", got, k, impl.Device{}, impl.LgFull)
	got, k = impl.Logged(c, d, 130, "")
	wantLogCall(t, "Logged of none", got, k, impl.Device{}, impl.LgForm)
	got, k = impl.Ended(c, d)
	wantLogCall(t, "Ended", got, k, d, impl.LgOk)
	got, k = impl.RolledBack(c, d)
	wantLogCall(t, "RolledBack", got, k, d, impl.LgOk)

	d = impl.Device{Safe: logImage(c, impl.MaxEpoch-1)}
	e, k := impl.Logged(c, d, 130, "x")
	if k != impl.LgOk {
		t.Fatal(k)
	}
	for name, call := range map[string]func(impl.Config, impl.Device) (impl.Device, int64){"Ended": impl.Ended, "RolledBack": impl.RolledBack} {
		f, k := call(c, e)
		if k != impl.LgOk || impl.EpochOf(c, f.Safe) != impl.MaxEpoch || len(f.Lines) != 0 {
			t.Errorf("%s: %d, epoch %d", name, k, impl.EpochOf(c, f.Safe))
		}
		if l, ok := impl.LogOf(c, f.Safe); !ok || len(l) != 0 {
			t.Errorf("%s: LogOf = %v, %v", name, l, ok)
		}
		got, k = impl.Noted(c, f, 4)
		wantLogCall(t, name+", then Noted", got, k, impl.Device{}, impl.LgFull)
	}
}

func TestP5LoggedForms(t *testing.T) {
	c := logConfig()
	d := impl.Device{Safe: logImage(c, 5)}
	size := int64(len(d.Safe))
	for at := int64(-40); at < size+40; at++ {
		for _, n := range []int64{0, 1, 2, 16, 31, 32, 33, 64} {
			data := strings.Repeat("s", int(n))
			got, k := impl.Logged(c, d, at, data)
			if at < 0 || n < 1 || n > 32 || at/32 != (at+n-1)/32 || !mayBeLogged(c, at/32) {
				wantLogCall(t, "Logged", got, k, impl.Device{}, impl.LgForm)
				continue
			}
			note, _ := impl.Noted(c, d, at/32)
			want, _ := impl.Store(note, at, data)
			wantLogCall(t, "Logged", got, k, want, impl.LgOk)
			if s := impl.Seen(got); s[:256] != (d.Safe[:at] + data + d.Safe[at+n:])[:256] || s[7*64:] != (d.Safe[:at] + data + d.Safe[at+n:])[7*64:] {
				t.Errorf("Logged of %d at %d: %q is seen", n, at, s)
			}
		}
		if t.Failed() {
			t.Fatal(at)
		}
	}
	for _, at := range edges {
		for _, data := range []string{"", "x", half("x"), line("x")} {
			got, k := impl.Logged(c, d, at, data)
			wantLogCall(t, "Logged far away", got, k, impl.Device{}, impl.LgForm)
		}
	}
}

func TestP5LoggedWhenTheLogIsFull(t *testing.T) {
	c := logConfig()
	d := impl.Device{Safe: logImage(c, 5, recordOf(5, 0, 4, "a"), recordOf(5, 1, 14, "b"), recordOf(5, 2, 23, "c"))}
	got, k := impl.Logged(c, d, 14*32+5, "xyz")
	want, _ := impl.Store(d, 14*32+5, "xyz")
	wantLogCall(t, "one that is noted", got, k, want, impl.LgOk)
	got, k = impl.Logged(c, d, 15*32, "xyz")
	wantLogCall(t, "one that is not", got, k, impl.Device{}, impl.LgFull)
	for _, at := range []int64{-1, 0, 127, 192, 256, 14*32 + 30, 24 * 32} {
		got, k = impl.Logged(c, d, at, "xyz")
		wantLogCall(t, "one that may not be", got, k, impl.Device{}, impl.LgForm)
	}
	got, k = impl.Logged(c, d, 14*32, "")
	wantLogCall(t, "no data", got, k, impl.Device{}, impl.LgForm)
	got, k = impl.Logged(c, d, 14*32, line("x")[:33])
	wantLogCall(t, "33 bytes", got, k, impl.Device{}, impl.LgForm)
}

// regionDevice has records of halves 4, 5, 14 and lines that were stored, sent, and stored behind that.
func regionDevice(c impl.Config) impl.Device {
	return impl.Device{Safe: logImage(c, 5, recordOf(5, 0, 5, "a"), recordOf(5, 1, 14, "b"), recordOf(5, 2, 4, "c")), Lines: []impl.Line{
		{At: 2, Data: line("x"), Sent: line("w")},
		{At: 3, Data: line("m")},
		{At: 7, Data: line("y")},
		{At: 9, Data: line("z"), Sent: line("z")},
		{At: 10, Data: line("u"), Sent: line("v")},
	}}
}

func TestP5Ended(t *testing.T) {
	c := logConfig()
	d := regionDevice(c)
	want := withLine(impl.Seen(d), 1, impl.EpochLine(6))
	got, k := impl.Ended(c, d)
	wantLogCall(t, "Ended", got, k, impl.Device{Safe: want}, impl.LgOk)
	if l, ok := impl.LogOf(c, got.Safe); !ok || len(l) != 0 {
		t.Errorf("LogOf = %v, %v", l, ok)
	}
	again, k := impl.Ended(c, got)
	wantLogCall(t, "Ended again", again, k, got, impl.LgOk)
}

// TestP5RolledBack: lines of no record are not flushed; those that were sent have come.
func TestP5RolledBack(t *testing.T) {
	c := logConfig()
	d := regionDevice(c)
	want := withLine(d.Safe, 1, impl.EpochLine(6))
	want = withLine(want, 2, half("c")+half("a"))
	want = withLine(want, 7, half("b")+half("y"))
	want = withLine(withLine(want, 9, line("z")), 10, line("v"))
	got, k := impl.RolledBack(c, d)
	wantLogCall(t, "RolledBack", got, k, impl.Device{Safe: want, Lines: []impl.Line{
		{At: 3, Data: line("m")},
		{At: 10, Data: line("u")},
	}}, impl.LgOk)
	again, k := impl.RolledBack(c, got)
	wantLogCall(t, "RolledBack again", again, k, got, impl.LgOk)
}

func TestP5NothingLogged(t *testing.T) {
	c := logConfig()
	d := impl.Device{Safe: logImage(c, 5, recordOf(4, 0, 4, "o")), Lines: []impl.Line{
		{At: 2, Data: line("x"), Sent: line("w")},
		{At: 7, Data: line("y")},
		{At: 9, Data: line("z"), Sent: line("z")},
	}}
	got, k := impl.Ended(c, d)
	wantLogCall(t, "Ended", got, k, d, impl.LgOk)
	got, k = impl.RolledBack(c, d)
	wantLogCall(t, "RolledBack", got, k, d, impl.LgOk)
}

// TestP5WhatIsSeenCounts: epoch and log are those that are seen, whatever is safe.
func TestP5WhatIsSeenCounts(t *testing.T) {
	c := logConfig()
	safe := logImage(c, 5, recordOf(5, 0, 4, "a"))
	d := impl.Device{Safe: safe, Lines: []impl.Line{{At: 1, Data: impl.EpochLine(8)}, {At: 4, Data: recordOf(8, 0, 15, "b")}}}
	got, k := impl.RolledBack(c, d)
	want := withLine(withLine(safe, 1, impl.EpochLine(9)), 7, safe[7*64:7*64+32]+half("b"))
	wantLogCall(t, "RolledBack", got, k, impl.Device{Safe: want, Lines: d.Lines[1:]}, impl.LgOk)
	got, k = impl.Ended(c, d)
	want = withLine(withLine(safe, 1, impl.EpochLine(9)), 4, d.Lines[1].Data)
	wantLogCall(t, "Ended", got, k, impl.Device{Safe: want}, impl.LgOk)

	hidden := impl.Device{Safe: safe, Lines: []impl.Line{{At: 1, Data: line("x"), Sent: impl.EpochLine(5)}}}
	allLogCalls(t, "line 1 hidden", c, hidden, impl.LgBad)
	shown := impl.Device{Safe: withLine(safe, 1, line("x")), Lines: []impl.Line{{At: 1, Data: impl.EpochLine(5)}}}
	got, k = impl.Noted(c, shown, 4)
	wantLogCall(t, "line 1 shown", got, k, shown, impl.LgOk)
}

// logModel does what chapter 5 says by the calls of chapter 2, with a list of records of its own.
type logModel struct {
	c       impl.Config
	d       impl.Device
	epoch   int64
	records []impl.Record
	// Asked ahead of each step, where that is told.
	ahead func()
}

func (m *logModel) store(at int64, data string) {
	m.step()
	m.d, _ = impl.Store(m.d, at, data)
}

func (m *logModel) send(line int64) {
	m.step()
	m.d, _ = impl.Flush(m.d, line)
}

func (m *logModel) fence() {
	m.step()
	m.d = impl.Fence(m.d)
}

func (m *logModel) step() {
	if m.ahead != nil {
		m.ahead()
	}
}

func (m *logModel) whole(line int64, data string) {
	m.store(64*line, data)
	m.send(line)
	m.fence()
}

func (m *logModel) logged(at int64, data string, n int64) int64 {
	if at < 0 || n < 1 || n > 32 || at/32 != (at+n-1)/32 || !mayBeLogged(m.c, at/32) {
		return impl.LgForm
	}
	known := false
	for _, r := range m.records {
		known = known || r.Half == at/32
	}
	count := int64(len(m.records))
	if !known && (count == m.c.Log || m.epoch == impl.MaxEpoch) {
		return impl.LgFull
	}
	if !known {
		r := impl.Record{Epoch: m.epoch, Seq: count, Half: at / 32, Old: impl.Seen(m.d)[at/32*32 : at/32*32+32]}
		m.records = append(m.records, r)
		m.whole(4+count, impl.RecordLine(r))
	}
	if data != "" {
		m.store(at, data)
	}
	return impl.LgOk
}

func (m *logModel) next() {
	m.epoch++
	m.records = nil
	m.whole(1, impl.EpochLine(m.epoch))
}

func (m *logModel) ended() int64 {
	if len(m.records) == 0 {
		return impl.LgOk
	}
	for _, l := range m.d.Lines {
		m.send(l.At)
	}
	m.fence()
	m.next()
	return impl.LgOk
}

func (m *logModel) rolledBack() int64 {
	if len(m.records) == 0 {
		return impl.LgOk
	}
	for i := len(m.records) - 1; i >= 0; i-- {
		m.store(32*m.records[i].Half, m.records[i].Old)
	}
	for n := range m.c.Lines {
		if slices.ContainsFunc(m.records, func(r impl.Record) bool { return r.Half/2 == n }) {
			m.send(n)
		}
	}
	m.fence()
	m.next()
	return impl.LgOk
}

// act does one thing on both and answers what the program did, and the code that the model tells.
func (m *logModel) act(r *dice) (what string, got impl.Device, code, want int64) {
	d := m.d
	at := r.below(64*m.c.Lines+40) - 20
	if r.below(3) > 0 {
		at = 64*(4+m.c.Log) + r.below(64*(m.c.Lines-4-m.c.Log))
	}
	line := r.below(m.c.Lines)
	switch r.below(12) {
	case 0, 1, 2, 3:
		data := r.text(r.below(34))
		got, code = impl.Logged(m.c, d, at, data)
		if data == "" {
			return "Logged of none", got, code, impl.LgForm
		}
		return "Logged", got, code, m.logged(at, data, int64(len(data)))
	case 4, 5:
		n := r.below(2*m.c.Lines+4) - 2
		got, code = impl.Noted(m.c, d, n)
		return "Noted", got, code, m.logged(32*n, "", 1)
	case 6:
		got, code = impl.Ended(m.c, d)
		return "Ended", got, code, m.ended()
	case 7:
		got, code = impl.RolledBack(m.c, d)
		return "RolledBack", got, code, m.rolledBack()
	case 8:
		m.d, _ = impl.Evict(d, line)
	case 9, 10:
		m.d, _ = impl.Flush(d, line)
	case 11:
		m.d = impl.Fence(d)
	}
	return "a device", m.d, impl.LgOk, impl.LgOk
}

func TestP5ManyActs(t *testing.T) {
	for seed := range uint64(60) {
		r := &dice{seed + 500}
		c := r.config()
		m := &logModel{c: c, d: impl.Device{Safe: logImage(c, 3)}, epoch: 3}
		kept := keptHalves(c, m.d.Safe)
		for range 80 {
			what, got, code, want := m.act(r)
			if want == impl.LgOk {
				wantLogCall(t, what, got, code, m.d, want)
			} else {
				wantLogCall(t, what, got, code, impl.Device{}, want)
			}
			if l, ok := impl.LogOf(c, impl.Seen(m.d)); !ok || !sameRecords(l, m.records) {
				t.Errorf("%s: LogOf = %v, %v", what, l, ok)
			}
			if t.Failed() {
				t.Fatalf("seed %d, %s", seed, what)
			}
			if len(m.records) == 0 {
				kept = keptHalves(c, impl.Seen(m.d))
			}
			if keptHalves(c, undone(t, c, impl.Seen(m.d))) != kept {
				t.Fatalf("seed %d: %s: what is undone is not what was", seed, what)
			}
		}
	}
}

// losses are keeps of n lines: nothing, all that was sent, all, and some by chance.
func (d *dice) losses(n int) [][]int64 {
	l := [][]int64{nil, make([]int64, n), make([]int64, n)}
	for i := range n {
		l[1][i], l[2][i] = 1, 2
	}
	for range 6 {
		keep := make([]int64, n)
		for i := range keep {
			keep[i] = d.below(3)
		}
		l = append(l, keep)
	}
	return l
}

// wantLeft loses the power in several ways: what is left, undone, always has these halves.
func wantLeft(t *testing.T, what string, r *dice, c impl.Config, d impl.Device, want string) {
	t.Helper()
	for _, keep := range r.losses(len(d.Lines)) {
		left := impl.Crash(d, keep)
		if keptHalves(c, undone(t, c, left.Safe)) != want {
			t.Fatalf("%s, keep %v: what is undone is not what was", what, keep)
		}
		back, k := impl.RolledBack(c, left)
		if k != impl.LgOk || keptHalves(c, back.Safe) != want || len(back.Lines) != 0 {
			t.Fatalf("%s, keep %v: RolledBack %d", what, keep, k)
		}
	}
}

// wantEnded holds a device behind the end of a region against what its data is to be.
func wantEnded(t *testing.T, what string, r *dice, c impl.Config, d impl.Device, code, epoch int64, want string) {
	t.Helper()
	if l, ok := impl.LogOf(c, impl.Seen(d)); code != impl.LgOk || !ok || len(l) != 0 {
		t.Fatalf("%s: %d, LogOf = %v, %v", what, code, l, ok)
	}
	if e := impl.EpochOf(c, d.Safe); e != epoch {
		t.Fatalf("%s: epoch %d, want %d", what, e, epoch)
	}
	wantLeft(t, what, r, c, d, want)
}

// writtenSomewhere logs data in a half that may be logged; a log that is full leaves d.
func (r *dice) writtenSomewhere(c impl.Config, d impl.Device) impl.Device {
	at := 64*(4+c.Log) + r.below(64*(c.Lines-4-c.Log))
	if r.below(4) == 0 {
		at = 2*64 + r.below(64)
	}
	e, k := impl.Logged(c, d, at, r.text(1+r.below(32-at%32)))
	if k != impl.LgOk {
		return d
	}
	return e
}

// TestP5WhateverALossOfPowerLeaves: at any time what is left, undone, has the data that undoing gave ahead of the region; behind its end the data stays.
func TestP5WhateverALossOfPowerLeaves(t *testing.T) {
	for seed := range uint64(40) {
		r := &dice{seed + 900}
		c := r.config()
		d := impl.Device{Safe: logImage(c, r.below(impl.MaxEpoch-9))}
		for range 3 {
			kept := keptHalves(c, impl.Seen(d))
			for range 6 {
				d = r.writtenSomewhere(c, d)
				wantLeft(t, "Logged", r, c, d, kept)
				d, _ = impl.Flush(d, r.below(c.Lines))
				wantLeft(t, "Flush", r, c, d, kept)
				if r.below(3) == 0 {
					d, _ = impl.Evict(d, r.below(c.Lines))
					wantLeft(t, "Evict", r, c, d, kept)
				}
			}
			epoch := impl.EpochOf(c, impl.Seen(d)) + 1
			back, k := impl.RolledBack(c, d)
			wantEnded(t, "RolledBack", r, c, back, k, epoch, kept)
			end, k := impl.Ended(c, d)
			wantEnded(t, "Ended", r, c, end, k, epoch, keptHalves(c, impl.Seen(d)))
			d = end
		}
	}
}

// TestP17ArgumentsOfLogsStay: nothing is written into an argument or the spare room behind it, and answers share none of it.
func TestP17ArgumentsOfLogsStay(t *testing.T) {
	c := logConfig()
	types, allTypes := roomyTexts([]string{"i", "r"})
	c.Types = types
	idle := impl.Device{Safe: logImage(c, 5), Lines: regionDevice(c).Lines}
	calls := map[string]func(impl.Device) (impl.Device, int64){
		"Noted":           func(d impl.Device) (impl.Device, int64) { return impl.Noted(c, d, 15) },
		"Noted again":     func(d impl.Device) (impl.Device, int64) { return impl.Noted(c, d, 4) },
		"Logged":          func(d impl.Device) (impl.Device, int64) { return impl.Logged(c, d, 15*32, "x") },
		"Logged again":    func(d impl.Device) (impl.Device, int64) { return impl.Logged(c, d, 130, "x") },
		"Ended":           func(d impl.Device) (impl.Device, int64) { return impl.Ended(c, d) },
		"RolledBack":      func(d impl.Device) (impl.Device, int64) { return impl.RolledBack(c, d) },
		"refused, a form": func(d impl.Device) (impl.Device, int64) { return impl.Noted(c, d, 0) },
	}
	for name, call := range calls {
		for _, from := range []impl.Device{regionDevice(c), idle} {
			d, all := roomy(from)
			before := append([]impl.Line(nil), all...)
			first, code := call(d)
			again, code2 := call(d)
			wantLogCall(t, name+" twice", again, code2, first, code)
			for i := range first.Lines {
				first.Lines[i] = impl.Line{At: 99}
			}
			first.Lines = append(first.Lines, impl.Line{At: 98})
			if !sameLines(all, before) {
				t.Errorf("%s wrote into its argument, or answered its memory", name)
			}
		}
	}
	if !sameTexts(allTypes, []string{"i", "r", "spare", "spare", "spare"}) {
		t.Errorf("types are %q", allTypes)
	}
	image := regionDevice(c).Safe
	first, _ := impl.LogOf(c, image)
	first[0] = impl.Record{Half: 99}
	if second, ok := impl.LogOf(c, image); !ok || second[0].Half != 5 {
		t.Errorf("LogOf again = %v", second)
	}
}
