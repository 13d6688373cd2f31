package tests

import (
	"math"
	"strings"
	"testing"

	"loop.example/g00648/impl"
)

// edges are numbers that sums and products of places could wrap on.
var edges = []int64{math.MinInt64, math.MinInt64 + 1, -64, -1, math.MaxInt64 - 63, math.MaxInt64 - 1, math.MaxInt64, math.MaxInt64/32 + 1, math.MaxInt64/64 + 1, 1 << 58, 1 << 59, 1 << 60}

func noughts(n int) string { return string(make([]byte, n)) }

// line has 64 bytes that are all b.
func line(b string) string { return strings.Repeat(b, 64) }

// dice gives the same numbers in every run of the tests.
type dice struct{ state uint64 }

func (d *dice) below(n int64) int64 {
	d.state = d.state*6364136223846793005 + 1442695040888963407
	return int64((d.state >> 33) % uint64(n))
}

func (d *dice) text(n int64) string {
	b := make([]byte, n)
	for i := range b {
		b[i] = byte(d.below(256))
	}
	return string(b)
}

// roomy is a copy of d with spare room behind its Lines, and a look at all of that memory.
func roomy(d impl.Device) (impl.Device, []impl.Line) {
	all := make([]impl.Line, len(d.Lines)+3)
	copy(all, d.Lines)
	for i := len(d.Lines); i < len(all); i++ {
		all[i] = impl.Line{At: 77, Data: "spare", Sent: "room"}
	}
	return impl.Device{Safe: d.Safe, Lines: all[:len(d.Lines)]}, all
}

func sameLines(a, b []impl.Line) bool {
	if len(a) != len(b) {
		return false
	}
	for i := range a {
		if a[i] != b[i] {
			return false
		}
	}
	return true
}

func sameDevice(a, b impl.Device) bool {
	return a.Safe == b.Safe && sameLines(a.Lines, b.Lines)
}

func sameNumbers(a, b []int64) bool {
	if len(a) != len(b) {
		return false
	}
	for i := range a {
		if a[i] != b[i] {
			return false
		}
	}
	return true
}

func wantDevice(t *testing.T, what string, got, want impl.Device) {
	t.Helper()
	if !sameDevice(got, want) {
		t.Errorf("%s: got %#v, want %#v", what, got, want)
	}
}
