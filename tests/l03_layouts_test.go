package tests

import (
	"math"
	"strings"
	"testing"

	"loop.example/g00648/impl"
)

func plainConfig() impl.Config {
	return impl.Config{Lines: 20, Log: 6, Young: 24, Types: []string{"ir", "rri"}}
}

func TestP3RightTypes(t *testing.T) {
	d := &dice{30}
	for n := int64(1); n <= 12; n++ {
		if l := d.types(n); !impl.TypesOk(l) {
			t.Errorf("TypesOk(%q) = false", l)
		}
	}
	for _, l := range [][]string{{"i"}, {"r"}, {strings.Repeat("i", 23)}, {strings.Repeat("r", 23)}, {"i", "i"}} {
		if !impl.TypesOk(l) {
			t.Errorf("TypesOk(%q) = false", l)
		}
	}
}

func TestP3WrongTypes(t *testing.T) {
	for name, l := range wrongTypes() {
		if impl.TypesOk(l) {
			t.Errorf("%s: TypesOk(%q) = true", name, l)
		}
		c := plainConfig()
		c.Types = l
		wrongConfig(t, c)
	}
}

func TestP3Runs(t *testing.T) {
	for n := 1; n <= 23; n++ {
		want := int64(1)
		if n > 7 {
			want = 2
		}
		if n > 15 {
			want = 3
		}
		for _, kinds := range []string{strings.Repeat("i", n), strings.Repeat("r", n), strings.Repeat("i", n-1) + "r"} {
			if got := impl.RunOf(kinds); got != want {
				t.Errorf("RunOf(%q) = %d, want %d", kinds, got, want)
			}
		}
	}
	for _, kinds := range []string{"", "x", "xi", "ix", "I", "R", "i ", "\x00", strings.Repeat("i", 24), strings.Repeat("r", 1000)} {
		if got := impl.RunOf(kinds); got != 0 {
			t.Errorf("RunOf(%q) = %d", kinds, got)
		}
	}
	for b := range 256 {
		kind := string([]byte{byte(b)})
		if got := impl.RunOf("ir" + kind + "r"); (got == 1) != (kind == "i" || kind == "r") {
			t.Errorf("RunOf with a field %q = %d", kind, got)
		}
	}
}

// rightConfig holds a config against all that chapter 3 says of one that is right.
func rightConfig(t *testing.T, c impl.Config) {
	t.Helper()
	if !impl.ConfigOk(c) || impl.FirstData(c) != 4+c.Log {
		t.Errorf("%v: %v, %d", c, impl.ConfigOk(c), impl.FirstData(c))
	}
	want := "NVG1" + impl.ShortBytes(c.Lines) + impl.ShortBytes(c.Log) + impl.ShortBytes(c.Young) + string([]byte{byte(len(c.Types))})
	for _, kinds := range c.Types {
		bits := 0
		for i := range kinds {
			if kinds[i] == 'r' {
				bits += int(math.Pow(2, float64(i)))
			}
		}
		want += string([]byte{byte(len(kinds)), byte(bits >> 16), byte(bits >> 8), byte(bits)})
	}
	s := impl.SuperLine(c)
	if s != sealed(want) {
		t.Errorf("SuperLine(%v) = %q", c, s)
	}
	if back, ok := impl.ReadSuper(s); !ok || !sameConfig(back, c) {
		t.Errorf("ReadSuper of %v = %v, %v", c, back, ok)
	}
	if f := impl.Format(c); f != s+sealed("")+noughts(int(64*c.Lines)-128) {
		t.Errorf("Format(%v) = %q", c, f)
	}
}

func wrongConfig(t *testing.T, c impl.Config) {
	t.Helper()
	if impl.ConfigOk(c) || impl.FirstData(c) != -1 || impl.SuperLine(c) != "" || impl.Format(c) != "" {
		t.Errorf("%v is taken as right: %v, %d, %q", c, impl.ConfigOk(c), impl.FirstData(c), impl.SuperLine(c))
	}
}

func TestP3RightConfigsComeBack(t *testing.T) {
	types := []string{"i"}
	for _, c := range []impl.Config{
		plainConfig(),
		{Lines: 8, Log: 1, Young: 2, Types: types},
		{Lines: 8, Log: 3, Young: 2, Types: types},
		{Lines: 9, Log: 4, Young: 3, Types: types},
		{Lines: 36, Log: 31, Young: 399, Types: types},
		{Lines: 37, Log: 32, Young: 400, Types: types},
		{Lines: 127, Log: 32, Young: 400, Types: types},
		{Lines: 128, Log: 32, Young: 400, Types: types},
		{Lines: 128, Log: 1, Young: 256, Types: []string{strings.Repeat("r", 23), strings.Repeat("i", 23), "r"}},
	} {
		rightConfig(t, c)
	}
	d := &dice{31}
	for range 300 {
		rightConfig(t, d.config())
	}
	full := impl.Config{Lines: 128, Log: 32, Young: 400}
	for range 12 {
		full.Types = append(full.Types, strings.Repeat("r", 23))
	}
	rightConfig(t, full)
}

func TestP3WrongConfigs(t *testing.T) {
	types := []string{"i"}
	for _, c := range []impl.Config{
		{},
		{Lines: 7, Log: 1, Young: 2, Types: types},
		{Lines: 7, Log: 2, Young: 2, Types: types},
		{Lines: 129, Log: 1, Young: 2, Types: types},
		{Lines: 8, Log: 0, Young: 2, Types: types},
		{Lines: 8, Log: 4, Young: 2, Types: types},
		{Lines: 36, Log: 32, Young: 2, Types: types},
		{Lines: 128, Log: 33, Young: 2, Types: types},
		{Lines: 128, Log: 123, Young: 2, Types: types},
		{Lines: 20, Log: 6, Young: 1, Types: types},
		{Lines: 20, Log: 6, Young: 401, Types: types},
		{Lines: 20, Log: 6, Young: 24},
	} {
		wrongConfig(t, c)
	}
	for _, e := range edges {
		wrongConfig(t, impl.Config{Lines: e, Log: 6, Young: 24, Types: types})
		wrongConfig(t, impl.Config{Lines: 20, Log: e, Young: 24, Types: types})
		wrongConfig(t, impl.Config{Lines: 20, Log: 6, Young: e, Types: types})
		wrongConfig(t, impl.Config{Lines: e, Log: e, Young: e, Types: types})
	}
}

// superBody is the text ahead of the seal, made of any numbers, right or wrong.
func superBody(mark string, numbers [3]int64, count byte, types string) string {
	s := mark
	for _, n := range numbers {
		s += impl.ShortBytes(n)
	}
	return s + string([]byte{count}) + types
}

func TestP3WrongSuperLines(t *testing.T) {
	right := [3]int64{20, 6, 24}
	types := "\x02\x00\x00\x02\x03\x00\x00\x03"
	if c, ok := impl.ReadSuper(sealed(superBody("NVG1", right, 2, types))); !ok || !sameConfig(c, plainConfig()) {
		t.Fatal(c, ok)
	}
	twelve := strings.Repeat("\x01\x00\x00\x01", 12)
	for name, body := range map[string]string{
		"nothing":                "",
		"another mark":           superBody("NVG2", right, 2, types),
		"a small mark":           superBody("nvg1", right, 2, types),
		"7 lines":                superBody("NVG1", [3]int64{7, 1, 24}, 2, types),
		"129 lines":              superBody("NVG1", [3]int64{129, 6, 24}, 2, types),
		"65535 lines":            superBody("NVG1", [3]int64{65535, 6, 24}, 2, types),
		"no log":                 superBody("NVG1", [3]int64{20, 0, 24}, 2, types),
		"too long a log":         superBody("NVG1", [3]int64{20, 16, 24}, 2, types),
		"33 lines of log":        superBody("NVG1", [3]int64{128, 33, 24}, 2, types),
		"a nursery of 1":         superBody("NVG1", [3]int64{20, 6, 1}, 2, types),
		"a nursery of 401":       superBody("NVG1", [3]int64{20, 6, 401}, 2, types),
		"no types":               superBody("NVG1", right, 0, ""),
		"no types, but two":      superBody("NVG1", right, 0, types),
		"fewer types":            superBody("NVG1", right, 1, types),
		"more types":             superBody("NVG1", right, 3, types),
		"13 types":               superBody("NVG1", right, 13, twelve),
		"255 types":              superBody("NVG1", right, 255, twelve),
		"no field":               superBody("NVG1", right, 1, "\x00\x00\x00\x00"),
		"24 fields":              superBody("NVG1", right, 1, "\x18\x00\x00\x01"),
		"255 fields":             superBody("NVG1", right, 1, "\xff\x00\x00\x01"),
		"reference just beyond":  superBody("NVG1", right, 1, "\x02\x00\x00\x04"),
		"reference far beyond":   superBody("NVG1", right, 1, "\x02\x80\x00\x01"),
		"reference 24th of 23":   superBody("NVG1", right, 1, "\x17\x80\x00\x00"),
		"something behind":       superBody("NVG1", right, 2, types+"\x00\x01"),
		"something at the end":   superBody("NVG1", right, 2, types) + noughts(40) + "\x01",
		"something behind 12":    superBody("NVG1", right, 12, twelve) + "\x01",
		"a byte ahead":           "\x00" + superBody("NVG1", right, 2, types),
		"a word that is Epoch's": "\x00\x00\x00\x00\x00\x00\x00\x05",
	} {
		if c, ok := impl.ReadSuper(sealed(body)); ok || !sameConfig(c, impl.Config{}) {
			t.Errorf("%s: ReadSuper = %v, %v", name, c, ok)
		}
	}
	if _, ok := impl.ReadSuper(sealed(superBody("NVG1", right, 12, twelve))); !ok {
		t.Error("twelve types that fill the line")
	}
	unsealed(t, impl.SuperLine(plainConfig()), func(s string) bool { _, ok := impl.ReadSuper(s); return ok })
}

// unsealed asks a Read function for a line that is not as it was sealed.
func unsealed(t *testing.T, s string, read func(string) bool) {
	t.Helper()
	if !read(s) {
		t.Errorf("%q is refused", s)
	}
	for i := range len(s) {
		b := []byte(s)
		b[i] ^= 1
		if read(string(b)) {
			t.Errorf("byte %d of %q is turned, and it is taken", i, s)
		}
	}
	for _, wrong := range []string{"", s[:63], s[1:], s + "\x00", "\x00" + s, s + s, noughts(64), s[:60]} {
		if read(wrong) {
			t.Errorf("%q is taken", wrong)
		}
	}
}

func TestP3EpochsComeBack(t *testing.T) {
	d := &dice{32}
	numbers := []int64{0, 1, 255, 256, 65536, 999999999, 1000000000}
	for range 200 {
		numbers = append(numbers, d.below(1000000001))
	}
	for _, e := range numbers {
		s := impl.EpochLine(e)
		if s != sealed(impl.WordBytes(e)) {
			t.Errorf("EpochLine(%d) = %q", e, s)
		}
		if back, ok := impl.ReadEpoch(s); !ok || back != e {
			t.Errorf("ReadEpoch of %d = %d, %v", e, back, ok)
		}
	}
}

func TestP3WrongEpochs(t *testing.T) {
	for _, e := range append([]int64{1000000001, 1 << 32, 1 << 40}, edges...) {
		if s := impl.EpochLine(e); s != "" {
			t.Errorf("EpochLine(%d) = %q", e, s)
		}
		if back, ok := impl.ReadEpoch(sealed(impl.WordBytes(e))); ok || back != 0 {
			t.Errorf("ReadEpoch of %d = %d, %v", e, back, ok)
		}
	}
	for _, body := range []string{impl.WordBytes(5) + "\x01", impl.WordBytes(5) + noughts(51) + "\x01", impl.WordBytes(0) + impl.WordBytes(1)} {
		if back, ok := impl.ReadEpoch(sealed(body)); ok || back != 0 {
			t.Errorf("ReadEpoch of %q = %d, %v", body, back, ok)
		}
	}
	unsealed(t, impl.EpochLine(258), func(s string) bool { _, ok := impl.ReadEpoch(s); return ok })
	unsealed(t, impl.EpochLine(0), func(s string) bool { _, ok := impl.ReadEpoch(s); return ok })
}

// recordBody is what chapter 3 says of a record, of any numbers, right or wrong.
func recordBody(mark string, seq byte, half int64, epoch int64, old string) string {
	return mark + string([]byte{seq}) + impl.ShortBytes(half) + impl.WordBytes(epoch) + old
}

func TestP3RecordsComeBack(t *testing.T) {
	d := &dice{33}
	var list []impl.Record
	for _, epoch := range []int64{0, 1, 999999999} {
		for _, seq := range []int64{0, 1, 30, 31} {
			for _, half := range []int64{0, 1, 254, 255} {
				list = append(list, impl.Record{Epoch: epoch, Seq: seq, Half: half, Old: d.text(32)})
			}
		}
	}
	for range 200 {
		list = append(list, impl.Record{Epoch: d.below(1000000000), Seq: d.below(32), Half: d.below(256), Old: d.text(32)})
	}
	list = append(list, impl.Record{Old: noughts(32)})
	for _, r := range list {
		s := impl.RecordLine(r)
		if s != sealed(recordBody("U", byte(r.Seq), r.Half, r.Epoch, r.Old)) {
			t.Errorf("RecordLine(%v) = %q", r, s)
		}
		if back, ok := impl.ReadRecord(s); !ok || back != r {
			t.Errorf("ReadRecord of %v = %v, %v", r, back, ok)
		}
	}
}

func TestP3WrongRecords(t *testing.T) {
	old := strings.Repeat("o", 32)
	list := []impl.Record{
		{Epoch: 1000000000, Old: old}, {Epoch: 1000000001, Old: old}, {Epoch: -1, Old: old},
		{Seq: 32, Old: old}, {Seq: 256, Old: old}, {Seq: -1, Old: old},
		{Half: 256, Old: old}, {Half: 65536, Old: old}, {Half: -1, Old: old},
		{}, {Old: old[:31]}, {Old: old + "o"}, {Old: old + old},
	}
	for _, e := range edges {
		list = append(list, impl.Record{Epoch: e, Old: old}, impl.Record{Seq: e, Old: old}, impl.Record{Half: e, Old: old})
	}
	for _, r := range list {
		if s := impl.RecordLine(r); s != "" {
			t.Errorf("RecordLine(%v) = %q", r, s)
		}
	}
}

func TestP3WrongRecordLines(t *testing.T) {
	old := strings.Repeat("o", 32)
	if r, ok := impl.ReadRecord(sealed(recordBody("U", 31, 255, 999999999, old))); !ok || r != (impl.Record{Epoch: 999999999, Seq: 31, Half: 255, Old: old}) {
		t.Fatal(r, ok)
	}
	for _, body := range []string{
		"", recordBody("V", 0, 0, 0, old), recordBody("u", 0, 0, 0, old), recordBody("\x00", 0, 0, 0, old),
		recordBody("U", 32, 0, 0, old), recordBody("U", 255, 0, 0, old),
		recordBody("U", 0, 256, 0, old), recordBody("U", 0, 65535, 0, old),
		recordBody("U", 0, 0, 1000000000, old), recordBody("U", 0, 0, -1, old), recordBody("U", 0, 0, math.MinInt64, old),
		recordBody("U", 0, 0, 0, old+"o"), recordBody("U", 0, 0, 0, old) + noughts(15) + "\x01",
	} {
		if r, ok := impl.ReadRecord(sealed(body)); ok || r != (impl.Record{}) {
			t.Errorf("ReadRecord of %q = %v, %v", body, r, ok)
		}
	}
	s := impl.RecordLine(impl.Record{Epoch: 3, Seq: 2, Half: 200, Old: old})
	unsealed(t, s, func(s string) bool { _, ok := impl.ReadRecord(s); return ok })
}

func TestP3LinesAreNotTakenForEachOther(t *testing.T) {
	super, epoch := impl.SuperLine(plainConfig()), impl.EpochLine(7)
	record := impl.RecordLine(impl.Record{Epoch: 3, Old: noughts(32)})
	for _, s := range []string{epoch, record, sealed("")} {
		if _, ok := impl.ReadSuper(s); ok {
			t.Errorf("ReadSuper takes %q", s)
		}
	}
	for _, s := range []string{super, record} {
		if _, ok := impl.ReadEpoch(s); ok {
			t.Errorf("ReadEpoch takes %q", s)
		}
	}
	for _, s := range []string{super, epoch, sealed("")} {
		if _, ok := impl.ReadRecord(s); ok {
			t.Errorf("ReadRecord takes %q", s)
		}
	}
}

func TestP3FormattedSaysWhatItIs(t *testing.T) {
	d := &dice{34}
	for range 60 {
		c := d.config()
		f := impl.Format(c)
		if back, ok := impl.ReadSuper(f[:64]); !ok || !sameConfig(back, c) {
			t.Errorf("%v: ReadSuper = %v, %v", c, back, ok)
		}
		if e, ok := impl.ReadEpoch(f[64:128]); !ok || e != 0 {
			t.Errorf("%v: ReadEpoch = %d, %v", c, e, ok)
		}
		if int64(len(f)) != 64*c.Lines || f[128:] != noughts(len(f)-128) {
			t.Errorf("%v: %d bytes", c, len(f))
		}
	}
}

func TestP17LayoutsLeaveTheirArguments(t *testing.T) {
	c := plainConfig()
	types, all := roomyTexts(c.Types)
	c.Types = types
	before := append([]string(nil), all...)
	for range 2 {
		impl.TypesOk(c.Types)
		impl.ConfigOk(c)
		impl.FirstData(c)
		impl.SuperLine(c)
		impl.Format(c)
	}
	if !sameTexts(all, before) {
		t.Errorf("%q", all)
	}
	s := impl.SuperLine(c)
	a, _ := impl.ReadSuper(s)
	b, _ := impl.ReadSuper(s)
	a.Types[0] = "turned"
	if !sameConfig(b, plainConfig()) || impl.SuperLine(c) != s {
		t.Error(b)
	}
}
