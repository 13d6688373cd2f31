package tests

import (
	"math"
	"strings"
	"testing"

	"loop.example/g00648/impl"
)

// edges are numbers that sums and products of places could wrap on.
var edges = []int64{math.MinInt64, math.MinInt64 + 1, -64, -1, math.MaxInt64 - 63, math.MaxInt64 - 1, math.MaxInt64, math.MaxInt64/32 + 1, math.MaxInt64/64 + 1, 1 << 58, 1 << 59, 1 << 60}

func noughts(n int) string { return string(make([]byte, n)) }

// line has 64 bytes that are all b.
func line(b string) string { return strings.Repeat(b, 64) }

// dice gives the same numbers in every run of the tests.
type dice struct{ state uint64 }

func (d *dice) below(n int64) int64 {
	d.state = d.state*6364136223846793005 + 1442695040888963407
	return int64((d.state >> 33) % uint64(n))
}

func (d *dice) text(n int64) string {
	b := make([]byte, n)
	for i := range b {
		b[i] = byte(d.below(256))
	}
	return string(b)
}

// roomy is a copy of d with spare room behind its Lines, and a look at all of that memory.
func roomy(d impl.Device) (impl.Device, []impl.Line) {
	all := make([]impl.Line, len(d.Lines)+3)
	copy(all, d.Lines)
	for i := len(d.Lines); i < len(all); i++ {
		all[i] = impl.Line{At: 77, Data: "spare", Sent: "room"}
	}
	return impl.Device{Safe: d.Safe, Lines: all[:len(d.Lines)]}, all
}

func sameLines(a, b []impl.Line) bool {
	if len(a) != len(b) {
		return false
	}
	for i := range a {
		if a[i] != b[i] {
			return false
		}
	}
	return true
}

func sameDevice(a, b impl.Device) bool {
	return a.Safe == b.Safe && sameLines(a.Lines, b.Lines)
}

func sameNumbers(a, b []int64) bool {
	if len(a) != len(b) {
		return false
	}
	for i := range a {
		if a[i] != b[i] {
			return false
		}
	}
	return true
}

func wantDevice(t *testing.T, what string, got, want impl.Device) {
	t.Helper()
	if !sameDevice(got, want) {
		t.Errorf("%s: got %#v, want %#v", what, got, want)
	}
}

func sameTexts(a, b []string) bool {
	if len(a) != len(b) {
		return false
	}
	for i := range a {
		if a[i] != b[i] {
			return false
		}
	}
	return true
}

func sameConfig(a, b impl.Config) bool {
	return a.Lines == b.Lines && a.Log == b.Log && a.Young == b.Young && sameTexts(a.Types, b.Types)
}

func sameObj(a, b impl.Obj) bool { return a.Type == b.Type && sameNumbers(a.Vals, b.Vals) }

// roomyNumbers is a copy of l with spare room behind it, and a look at all of that memory.
func roomyNumbers(l []int64) ([]int64, []int64) {
	all := make([]int64, len(l)+3)
	copy(all, l)
	for i := len(l); i < len(all); i++ {
		all[i] = 7777
	}
	return all[:len(l)], all
}

// roomyTexts is the same of texts.
func roomyTexts(l []string) ([]string, []string) {
	all := make([]string, len(l)+3)
	copy(all, l)
	for i := len(l); i < len(all); i++ {
		all[i] = "spare"
	}
	return all[:len(l)], all
}

// kinds is a type of n fields, any of them references.
func (d *dice) kinds(n int64) string {
	b := make([]byte, n)
	for i := range b {
		b[i] = "ir"[d.below(2)]
	}
	return string(b)
}

// types has n of them.
func (d *dice) types(n int64) []string {
	var l []string
	for range n {
		l = append(l, d.kinds(1+d.below(23)))
	}
	return l
}

func (d *dice) config() impl.Config {
	c := impl.Config{Lines: 8 + d.below(121), Young: 2 + d.below(399), Types: d.types(1 + d.below(12))}
	c.Log = 1 + d.below(min(32, c.Lines-5))
	return c
}

// sealed is a line of these bytes, with its noughts and its sum.
func sealed(s string) string {
	body := s + noughts(60-len(s))
	return body + impl.Crc(body)
}

// wrongTypes are lists of texts that are no types.
func wrongTypes() map[string][]string {
	thirteen := strings.Split(strings.Repeat("i ", 12)+"i", " ")
	return map[string][]string{
		"none":             nil,
		"thirteen":         thirteen,
		"no field":         {""},
		"24 fields":        {strings.Repeat("i", 24)},
		"24 references":    {strings.Repeat("r", 24)},
		"another letter":   {"ix"},
		"greater letters":  {"IR"},
		"a blank":          {"i r"},
		"a nought":         {"i\x00"},
		"a high byte":      {"\xff"},
		"the last is none": {"i", "r", ""},
		"the first is bad": {"q", "r", "i"},
		"one among twelve": {"i", "i", "i", "i", "i", "i", "j", "i", "i", "i", "i", "i"},
	}
}
