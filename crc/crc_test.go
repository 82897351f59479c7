package crc

import (
	"bytes"
	"hash/crc32"
	"testing"
)

// word16 is what one byte makes of a number in the check of 16 bits, in the chapter's words: doubled and cut off, without shifts.
func word16(sum int, b byte) int {
	sum ^= int(b) * 256
	for range 8 {
		high := sum >= 32768
		sum = sum * 2 % 65536
		if high {
			sum ^= 0x1021
		}
	}
	return sum
}

func words16(b []byte) uint16 {
	sum := 65535
	for _, x := range b {
		sum = word16(sum, x)
	}
	return uint16(sum)
}

// words32 is the check of 32 bits in the chapter's words: halved and rounded down, without shifts.
func words32(b []byte) uint32 {
	sum := 4294967295
	for _, x := range b {
		sum ^= int(x)
		for range 8 {
			odd := sum%2 == 1
			sum /= 2
			if odd {
				sum ^= 0xEDB88320
			}
		}
	}
	return uint32(4294967295 - sum)
}

// stuff is n bytes without an order to be seen, the same ones for the same n and seed.
func stuff(n, seed int) []byte {
	out := make([]byte, n)
	x := uint64(n)*2654435761 + uint64(seed)*40503 + 1
	for i := range out {
		x = x*6364136223846793005 + 1442695040888963407
		out[i] = byte(x >> 56)
	}
	return out
}

// lists are lists of bytes of many lengths and kinds.
func lists() [][]byte {
	out := [][]byte{nil, {}, []byte("123456789"), []byte("a bedside monitor"), stuff(4096, 1), stuff(65537, 2)}
	for b := range 256 {
		out = append(out, []byte{byte(b)}, []byte{0, byte(b)}, []byte{byte(b), 0xFF})
	}
	for n := range 300 {
		out = append(out, bytes.Repeat([]byte{0}, n), bytes.Repeat([]byte{0xFF}, n), stuff(n, 0), stuff(n, 3))
	}
	return out
}

// brief is a list as a fault tells it.
func brief(b []byte) []byte {
	return b[:min(len(b), 16)]
}

func xor(lists ...[]byte) []byte {
	out := make([]byte, len(lists[0]))
	for _, list := range lists {
		for i, x := range list {
			out[i] ^= x
		}
	}
	return out
}

func TestP31Examples(t *testing.T) {
	for _, x := range []struct {
		b     []byte
		sum16 uint16
		sum32 uint32
	}{
		{nil, 65535, 0},
		{[]byte{}, 65535, 0},
		{[]byte("123456789"), 0x29B1, 0xCBF43926},
		{[]byte{0}, 0xE1F0, 0xD202EF8D},
	} {
		if got := Sum16(x.b); got != x.sum16 {
			t.Errorf("Sum16(% x): %#x, not %#x", x.b, got, x.sum16)
		}
		if got := Sum32(x.b); got != x.sum32 {
			t.Errorf("Sum32(% x): %#x, not %#x", x.b, got, x.sum32)
		}
	}
	if got := Step16(65535, 0); got != 0xE1F0 {
		t.Errorf("Step16(65535, 0): %#x", got)
	}
	if got := Step16(0, 0); got != 0 {
		t.Errorf("Step16(0, 0): %#x", got)
	}
}

func TestP31SumsAreTheWords(t *testing.T) {
	for _, b := range lists() {
		if got, want := Sum16(b), words16(b); got != want {
			t.Errorf("Sum16 of %d bytes % x: %#x, not %#x", len(b), brief(b), got, want)
		}
		if got, want := Sum32(b), words32(b); got != want {
			t.Errorf("Sum32 of %d bytes % x: %#x, not %#x", len(b), brief(b), got, want)
		}
	}
}

// TestP31Sum32IsKnown holds the check of 32 bits, and the words that this file has of it, against another one's.
func TestP31Sum32IsKnown(t *testing.T) {
	for _, b := range lists() {
		want := crc32.ChecksumIEEE(b)
		if got := Sum32(b); got != want {
			t.Errorf("Sum32 of %d bytes % x: %#x, not %#x", len(b), brief(b), got, want)
		}
		if got := words32(b); got != want {
			t.Errorf("the words of %d bytes % x: %#x, not %#x", len(b), brief(b), got, want)
		}
	}
}

func TestP31StepIsTheWords(t *testing.T) {
	sums := []int{0, 65535, 1, 32767, 32768, 0x1021, 0x8000 ^ 0x1021, 0x00FF, 0xFF00}
	for sum := 0; sum < 65536; sum += 97 {
		sums = append(sums, sum)
	}
	for _, sum := range sums {
		for b := range 256 {
			if got, want := Step16(uint16(sum), byte(b)), uint16(word16(sum, byte(b))); got != want {
				t.Fatalf("Step16(%#x, %#x): %#x, not %#x", sum, b, got, want)
			}
		}
	}
}

// TestP32OnlyRead looks at the bytes behind the list's length, too.
func TestP32OnlyRead(t *testing.T) {
	for n := range 70 {
		room := stuff(n+20, 5)
		before := bytes.Clone(room)
		b := room[7 : 7+n]
		first16, first32 := Sum16(b), Sum32(b)
		if !bytes.Equal(room, before) {
			t.Fatalf("%d bytes are not as they were: % x, not % x", n, room, before)
		}
		if Sum16(b) != first16 || Sum32(b) != first32 {
			t.Fatalf("%d bytes have other sums, asked again", n)
		}
	}
}

// TestP32NothingIsKept changes bytes once their sum was told.
func TestP32NothingIsKept(t *testing.T) {
	b := stuff(40, 6)
	Sum16(b)
	Sum32(b)
	b[20] ^= 0x10
	if got, want := Sum16(b), words16(b); got != want {
		t.Errorf("Sum16 of changed bytes: %#x, not %#x", got, want)
	}
	if got, want := Sum32(b), words32(b); got != want {
		t.Errorf("Sum32 of changed bytes: %#x, not %#x", got, want)
	}
}

func TestP33OneMoreByte(t *testing.T) {
	for _, n := range []int{0, 1, 2, 3, 9, 64, 255, 256, 1000} {
		b := stuff(n, 7)
		sum := Sum16(b)
		for last := range 256 {
			both := append(bytes.Clone(b), byte(last))
			if got, want := Step16(sum, byte(last)), Sum16(both); got != want {
				t.Errorf("%d bytes and %#x: Step16 %#x, Sum16 %#x", n, last, got, want)
			}
		}
	}
}

func TestP33ByteForByte(t *testing.T) {
	for _, b := range lists() {
		sum := Sum16(nil)
		for _, x := range b {
			sum = Step16(sum, x)
		}
		if want := Sum16(b); sum != want {
			t.Errorf("%d bytes % x by steps: %#x, not %#x", len(b), brief(b), sum, want)
		}
	}
}

func TestP33ExclusiveOrsGoTogether(t *testing.T) {
	for n := range 130 {
		for _, three := range [][3][]byte{
			{stuff(n, 8), stuff(n, 9), stuff(n, 10)},
			{stuff(n, 11), make([]byte, n), bytes.Repeat([]byte{0xFF}, n)},
			{stuff(n, 12), stuff(n, 12), stuff(n, 13)},
			{make([]byte, n), make([]byte, n), make([]byte, n)},
		} {
			a, b, c := three[0], three[1], three[2]
			all := xor(a, b, c)
			if got, want := Sum16(all), Sum16(a)^Sum16(b)^Sum16(c); got != want {
				t.Errorf("Sum16 of %d bytes: %#x, not %#x", n, got, want)
			}
			if got, want := Sum32(all), Sum32(a)^Sum32(b)^Sum32(c); got != want {
				t.Errorf("Sum32 of %d bytes: %#x, not %#x", n, got, want)
			}
		}
	}
}

// TestP33OneByteApart puts every other byte at every place.
func TestP33OneByteApart(t *testing.T) {
	for _, n := range []int{1, 2, 3, 17, 64} {
		for seed := range 3 {
			b := stuff(n, 20+seed)
			sum16, sum32 := Sum16(b), Sum32(b)
			for at := range b {
				apart(t, b, at, sum16, sum32)
			}
		}
	}
}

func apart(t *testing.T, b []byte, at int, sum16 uint16, sum32 uint32) {
	t.Helper()
	other := bytes.Clone(b)
	for turned := 1; turned < 256; turned++ {
		other[at] = b[at] ^ byte(turned)
		if Sum16(other) == sum16 {
			t.Errorf("Sum16 of %d bytes is the same with %#x at %d", len(b), other[at], at)
		}
		if Sum32(other) == sum32 {
			t.Errorf("Sum32 of %d bytes is the same with %#x at %d", len(b), other[at], at)
		}
	}
}

func TestP33SumBehindIsNought(t *testing.T) {
	for _, b := range lists() {
		sum := Sum16(b)
		behind := append(bytes.Clone(b), byte(sum>>8), byte(sum))
		if got := Sum16(behind); got != 0 {
			t.Errorf("%d bytes % x with their sum behind them: %#x", len(b), brief(b), got)
		}
	}
}
