package tests

import (
	"encoding/binary"
	"hash/crc32"
	"math"
	"strings"
	"testing"

	"loop.example/g00648/impl"
)

func TestP1WordsComeBack(t *testing.T) {
	numbers := []int64{0, 1, -1, 255, 256, 65535, 65536, -256, -65536, math.MaxInt32, math.MinInt32, math.MaxInt64, math.MinInt64}
	for i := range 64 {
		numbers = append(numbers, 1<<i, -(1 << i), 1<<i-1)
	}
	for _, n := range numbers {
		want := string(binary.BigEndian.AppendUint64(nil, uint64(n)))
		s := impl.WordBytes(n)
		if s != want {
			t.Errorf("WordBytes(%d) = %x, want %x", n, s, want)
		}
		if back, ok := impl.ReadWord(s); !ok || back != n {
			t.Errorf("ReadWord(%x) = %d, %v, want %d", s, back, ok, n)
		}
	}
}

func TestP1AnyEightBytesAreAWord(t *testing.T) {
	d := &dice{1}
	for range 500 {
		s := d.text(8)
		n, ok := impl.ReadWord(s)
		if !ok || n != int64(binary.BigEndian.Uint64([]byte(s))) || impl.WordBytes(n) != s {
			t.Errorf("ReadWord(%x) = %d, %v", s, n, ok)
		}
	}
}

func TestP1NoWordOfAnotherLength(t *testing.T) {
	for _, n := range []int{0, 1, 2, 4, 7, 9, 16, 64} {
		if v, ok := impl.ReadWord(strings.Repeat("\x01", n)); ok || v != 0 {
			t.Errorf("ReadWord of %d bytes = %d, %v", n, v, ok)
		}
	}
}

func TestP1ShortsComeBack(t *testing.T) {
	for n := int64(0); n <= 65535; n++ {
		s := impl.ShortBytes(n)
		if len(s) != 2 || s[0] != byte(n/256) || s[1] != byte(n%256) {
			t.Fatalf("ShortBytes(%d) = %x", n, s)
		}
		if back, ok := impl.ReadShort(s); !ok || back != n {
			t.Fatalf("ReadShort(%x) = %d, %v", s, back, ok)
		}
	}
}

func TestP1WrongShorts(t *testing.T) {
	for _, n := range append([]int64{65536, 65537, 131071, 1 << 32}, edges...) {
		if s := impl.ShortBytes(n); s != "" {
			t.Errorf("ShortBytes(%d) = %x", n, s)
		}
	}
	for _, s := range []string{"", "\x01", "\x00\x00\x01", "\x01\x02\x03\x04"} {
		if v, ok := impl.ReadShort(s); ok || v != 0 {
			t.Errorf("ReadShort(%x) = %d, %v", s, v, ok)
		}
	}
}

func TestP1Sums(t *testing.T) {
	for s, want := range map[string]string{
		"":          "\x00\x00\x00\x00",
		"a":         "\xe8\xb7\xbe\x43",
		"abc":       "\x35\x24\x41\xc2",
		"123456789": "\xcb\xf4\x39\x26",
	} {
		if got := impl.Crc(s); got != want {
			t.Errorf("Crc(%q) = %x, want %x", s, got, want)
		}
	}
	d := &dice{2}
	texts := []string{noughts(20000), d.text(19999), d.text(20000), noughts(60)}
	for b := range 256 {
		texts = append(texts, string([]byte{byte(b)}))
	}
	for n := range int64(80) {
		texts = append(texts, d.text(n))
	}
	for _, s := range texts {
		want := string(binary.BigEndian.AppendUint32(nil, crc32.ChecksumIEEE([]byte(s))))
		if got := impl.Crc(s); got != want {
			t.Errorf("Crc of %d bytes = %x, want %x", len(s), got, want)
		}
	}
	for _, n := range []int{20001, 20002, 40000} {
		if got := impl.Crc(noughts(n)); got != "" {
			t.Errorf("Crc of %d bytes = %x", n, got)
		}
	}
}

func TestP1WhatWasSealedComesBack(t *testing.T) {
	d := &dice{3}
	for n := range int64(61) {
		s := d.text(n)
		body := s + noughts(int(60-n))
		sealed := impl.Sealed(s)
		if sealed != body+impl.Crc(body) {
			t.Errorf("Sealed of %d bytes = %x", n, sealed)
		}
		if back, ok := impl.Unsealed(sealed); !ok || back != body {
			t.Errorf("Unsealed of %d bytes = %x, %v", n, back, ok)
		}
	}
	for _, n := range []int{61, 62, 64, 20001} {
		if s := impl.Sealed(noughts(n)); s != "" {
			t.Errorf("Sealed of %d bytes = %x", n, s)
		}
	}
}

func TestP1ATurnedByteIsNoticed(t *testing.T) {
	for _, s := range []string{"", "heap", strings.Repeat("\xff", 60)} {
		sealed := impl.Sealed(s)
		for i := range len(sealed) {
			for turn := 1; turn < 256; turn++ {
				b := []byte(sealed)
				b[i] ^= byte(turn)
				if back, ok := impl.Unsealed(string(b)); ok || back != "" {
					t.Fatalf("byte %d turned by %d: %x, %v", i, turn, back, ok)
				}
			}
		}
	}
}

func TestP1UnsealedOfAnotherLength(t *testing.T) {
	sealed := impl.Sealed("heap")
	longer := noughts(61)
	shorter := noughts(59)
	for _, s := range []string{"", "x", sealed[:63], sealed[1:], sealed + "\x00", "\x00" + sealed, sealed + sealed, noughts(64),
		longer + impl.Crc(longer), shorter + impl.Crc(shorter), impl.Crc(""), noughts(20001)} {
		if back, ok := impl.Unsealed(s); ok || back != "" {
			t.Errorf("Unsealed(%x) = %x, %v", s, back, ok)
		}
	}
}

func TestP1Halves(t *testing.T) {
	d := &dice{4}
	for _, size := range []int{0, 1, 31, 32, 33, 63, 64, 65, 127, 128, 8192} {
		image := d.text(int64(size))
		for n := range size/32 + 2 {
			want := ""
			if 32*n+32 <= size {
				want = image[32*n : 32*n+32]
			}
			if got := impl.Half(image, int64(n)); got != want {
				t.Errorf("Half of %d bytes at %d = %x, want %x", size, n, got, want)
			}
		}
		for _, n := range edges {
			if got := impl.Half(image, n); got != "" {
				t.Errorf("Half of %d bytes at %d = %x", size, n, got)
			}
		}
	}
}
