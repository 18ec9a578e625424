package crc

import (
	"hash/crc32"
	"math"
	"math/rand"
	"strings"
	"testing"
)

// numbers: the edges of 32 bits, single bits, and some chosen the same way in each run.
func numbers() []uint32 {
	out := []uint32{0, 1, 2, 7, 9, 15, 16, 255, 256, 0x7fffffff, 0x80000000, 0x82f63b78, 0xfffffffe, 0xffffffff}
	for i := range 32 {
		out = append(out, 1<<i, ^uint32(1<<i))
	}
	r := rand.New(rand.NewSource(1))
	for range 40 {
		out = append(out, r.Uint32())
	}
	return out
}

func randomText(r *rand.Rand, n int) string {
	b := make([]byte, n)
	r.Read(b)
	return string(b)
}

func noughts(n int) string { return strings.Repeat("\x00", n) }

// texts: of no bytes, of each single byte, of bytes of 0 and of 255, of letters, and of any bytes.
func texts() []string {
	out := []string{"", "a", "abc", "123456789", "The quick brown fox jumps over the lazy dog", "näh", "\xff\xfe\x80", "a\x00b", "\x00a", "a\x00"}
	for b := range 256 {
		out = append(out, string([]byte{byte(b)}))
	}
	for _, n := range []int{1, 2, 3, 4, 5, 31, 32, 33, 128, 1000} {
		out = append(out, noughts(n), strings.Repeat("\xff", n), strings.Repeat("\x80", n), strings.Repeat("\x01", n))
	}
	r := rand.New(rand.NewSource(2))
	for n := range 140 {
		out = append(out, randomText(r, n))
	}
	return append(out, randomText(r, 4096))
}

// goingOn is what the chapter's words say, a bit at a time.
func goingOn(c uint32, s string) uint32 {
	c = ^c
	for i := 0; i < len(s); i++ {
		c ^= uint32(s[i])
		for range 8 {
			if c&1 == 0 {
				c >>= 1
			} else {
				c = c>>1 ^ 0x82f63b78
			}
		}
	}
	return ^c
}

// P2.1
func TestSum(t *testing.T) {
	castagnoli := crc32.MakeTable(crc32.Castagnoli)
	for _, s := range texts() {
		got := Sum(s)
		if want := goingOn(0, s); got != want {
			t.Errorf("Sum(%.20q) = %#x, not %#x", s, got, want)
		}
		if want := crc32.Checksum([]byte(s), castagnoli); got != want {
			t.Errorf("Sum(%.20q) = %#x, but CRC-32C is %#x", s, got, want)
		}
	}
}

// P2.1
func TestUpdate(t *testing.T) {
	for _, s := range texts() {
		if len(s) > 140 {
			continue
		}
		for _, c := range numbers() {
			if got, want := Update(c, s), goingOn(c, s); got != want {
				t.Errorf("Update(%#x, %.20q) = %#x, not %#x", c, s, got, want)
			}
		}
	}
}

// P2.1: nothing to go on over.
func TestUpdateByNothing(t *testing.T) {
	for _, c := range numbers() {
		if got := Update(c, ""); got != c {
			t.Errorf("Update(%#x, nothing) = %#x", c, got)
		}
	}
}

// P2.2, by its own words, at all small lengths, about each power of two, and at the edges.
func TestJoin(t *testing.T) {
	lengths := []int{65535, 65534, 65533, 40000, 12345, 0x5555, 0xaaaa}
	for n := range 70 {
		lengths = append(lengths, n)
	}
	for n := 128; n < 65536; n *= 2 {
		lengths = append(lengths, n-1, n, n+1)
	}
	for _, n := range lengths {
		ofNoughts := goingOn(0, noughts(n))
		for _, a := range []uint32{0, 1, 7, 0x80000000, 0xdeadbeef, 0xffffffff} {
			behind := goingOn(a, noughts(n))
			for _, b := range []uint32{0, 1, 9, 0x12345678, 0xffffffff} {
				if got, want := Join(a, b, n), behind^b^ofNoughts; got != want {
					t.Errorf("Join(%#x, %#x, %d) = %#x, not %#x", a, b, n, got, want)
				}
			}
		}
	}
}

// P2.2: n below 0, and above 65535.
func TestJoinBeyondItsEdges(t *testing.T) {
	for _, a := range numbers() {
		for _, b := range []uint32{0, 1, 9, 0x12345678, 0xffffffff} {
			for _, n := range []int{0, -1, -2, -5, -65535, -65536, -65537, math.MinInt32, math.MinInt + 1, math.MinInt} {
				if got := Join(a, b, n); got != a^b {
					t.Errorf("Join(%#x, %#x, %d) = %#x, not %#x", a, b, n, got, a^b)
				}
			}
		}
	}
	const most = 65535
	for _, a := range []uint32{0, 1, 7, 0x80000000, 0xffffffff} {
		want := goingOn(a, noughts(most)) ^ 9 ^ goingOn(0, noughts(most))
		for _, n := range []int{most, most + 1, most + 2, 2 * most, 1 << 17, 1<<17 + 1, math.MaxInt32, math.MaxInt - 1, math.MaxInt} {
			if got := Join(a, 9, n); got != want {
				t.Errorf("Join(%#x, 9, %d) = %#x, not %#x", a, n, got, want)
			}
		}
	}
}

// P2.3, at each place where a text can be parted.
func TestSumsOfTwoTexts(t *testing.T) {
	for _, s := range texts() {
		whole := Sum(s)
		parts := len(s) + 1
		for k := 0; k < parts; k += 1 + parts/200 {
			first, second := s[:k], s[k:]
			if got := Update(Sum(first), second); got != whole {
				t.Errorf("Update of the sum of %.20q by %.20q: %#x, not %#x", first, second, got, whole)
			}
			if got := Join(Sum(first), Sum(second), len(second)); got != whole {
				t.Errorf("Join of the sums of %.20q and %.20q: %#x, not %#x", first, second, got, whole)
			}
		}
	}
}

// P2.3: a second text as long as Join can go over.
func TestSumsOfLongTexts(t *testing.T) {
	r := rand.New(rand.NewSource(3))
	for _, n := range []int{32768, 65534, 65535} {
		for _, second := range []string{randomText(r, n), noughts(n), strings.Repeat("\xff", n)} {
			for _, first := range []string{"", "a", randomText(r, 70000)} {
				whole := goingOn(0, first+second)
				if got := Update(Sum(first), second); got != whole {
					t.Errorf("Update by %d bytes: %#x, not %#x", n, got, whole)
				}
				if got := Join(Sum(first), Sum(second), n); got != whole {
					t.Errorf("Join over %d bytes: %#x, not %#x", n, got, whole)
				}
			}
		}
	}
}

// turned is s with one bit turned; bits are counted from the first byte's lowest one.
func turned(s string, bit int) string {
	b := []byte(s)
	b[bit/8] ^= 1 << (bit % 8)
	return string(b)
}

// rank is how many of the numbers are needed to make them all, combined.
func rank(numbers []uint32) int {
	var top [32]uint32 // by its highest bit
	found := 0
	for _, x := range numbers {
		for bit := 31; bit >= 0 && x != 0; bit-- {
			if x>>bit&1 == 0 {
				continue
			}
			if top[bit] == 0 {
				top[bit] = x
				found++
				break
			}
			x ^= top[bit]
		}
	}
	return found
}

// P2.4: what turned bits make of a sum is combined of what each makes of it (TestTurnedBitsCombine), so no choice of bits out of 32 that stand together leaves it as it was, just if the 32 changes are of rank 32.
func TestNearBitsAreToldApart(t *testing.T) {
	r := rand.New(rand.NewSource(4))
	for _, n := range []int{4, 5, 8, 9, 64, 128, 400} {
		for _, s := range []string{noughts(n), strings.Repeat("\xff", n), randomText(r, n)} {
			changes := make([]uint32, 8*n)
			for bit := range changes {
				changes[bit] = Sum(turned(s, bit)) ^ Sum(s)
			}
			for first := 0; first+32 <= len(changes); first++ {
				if got := rank(changes[first : first+32]); got != 32 {
					t.Errorf("%d bytes, bits from %d: rank %d", n, first, got)
				}
			}
		}
	}
}

// P2.4: what TestNearBitsAreToldApart leans on, and the promise itself, of bits chosen the same way in each run.
func TestTurnedBitsCombine(t *testing.T) {
	r := rand.New(rand.NewSource(5))
	for range 3000 {
		s := randomText(r, 4+r.Intn(40))
		first := r.Intn(8*len(s) - 31)
		other, change := s, uint32(0)
		for bit, chosen := first, r.Uint32(); chosen != 0; bit, chosen = bit+1, chosen>>1 {
			if chosen&1 == 1 {
				other = turned(other, bit)
				change ^= Sum(turned(s, bit)) ^ Sum(s)
			}
		}
		if got := Sum(other) ^ Sum(s); got != change {
			t.Errorf("%q and %q: sums differ by %#x, not %#x", s, other, got, change)
		}
		if other != s && Sum(other) == Sum(s) {
			t.Errorf("%q and %q have one sum", s, other)
		}
	}
}

// P2.4
func TestSingleBytesAreToldApart(t *testing.T) {
	r := rand.New(rand.NewSource(6))
	for _, s := range []string{"a", "ab", "123456789", noughts(32), strings.Repeat("\xff", 32), randomText(r, 64)} {
		for at := range len(s) {
			seen := map[uint32]int{}
			for b := range 256 {
				sum := Sum(s[:at] + string([]byte{byte(b)}) + s[at+1:])
				if other, ok := seen[sum]; ok {
					t.Errorf("%q with %d or with %d at %d: %#x", s, other, b, at, sum)
				}
				seen[sum] = b
			}
		}
	}
}

// P2.4: texts shorter than 32 bits, all of one length.
func TestShortTextsAreToldApart(t *testing.T) {
	seen := map[uint32]int{}
	for a := range 256 {
		for b := range 256 {
			sum := Sum(string([]byte{byte(a), byte(b)}))
			if other, ok := seen[sum]; ok {
				t.Errorf("%d and %d: %#x", other, a<<8|b, sum)
			}
			seen[sum] = a<<8 | b
		}
	}
}

// P2.5: as with P2.4, rank 32 of what single bits make says that no two numbers meet.
func TestUnlikeNumbersGoOnUnlike(t *testing.T) {
	for _, s := range texts() {
		var changes []uint32
		for bit := range 32 {
			changes = append(changes, Update(1<<bit, s)^Update(0, s))
		}
		if got := rank(changes); got != 32 {
			t.Errorf("over %.20q: rank %d", s, got)
		}
	}
	r := rand.New(rand.NewSource(7))
	for _, s := range []string{"", "a", noughts(1), noughts(33), strings.Repeat("\xff", 33), randomText(r, 100)} {
		seen := map[uint32]uint32{}
		for range 20000 {
			c := r.Uint32()
			got := Update(c, s)
			if other, ok := seen[got]; ok && other != c {
				t.Errorf("%#x and %#x over %q: %#x", c, other, s, got)
			}
			seen[got] = c
			d := r.Uint32()
			if Update(c^d, s) != got^Update(d, s)^Update(0, s) {
				t.Errorf("%#x and %#x over %q do not combine", c, d, s)
			}
		}
	}
}

// The chapter's examples.
func TestExamples(t *testing.T) {
	for _, c := range []struct {
		text string
		want uint32
	}{
		{"", 0},
		{"a", 3251651376},
		{"123456789", 3808858755},
		{noughts(32), 2324772522},
		{strings.Repeat("\xff", 32), 1655221059},
	} {
		if got := Sum(c.text); got != c.want {
			t.Errorf("Sum(%q) = %d, not %d", c.text, got, c.want)
		}
	}
	if got := Update(Sum("1234"), "56789"); got != 3808858755 {
		t.Errorf("Update: %d", got)
	}
	if got := Join(Sum("1234"), Sum("56789"), 5); got != 3808858755 {
		t.Errorf("Join: %d", got)
	}
	if below, at := Join(7, 9, -1), Join(7, 9, 0); below != 14 || at != 14 {
		t.Errorf("Join(7, 9, -1), Join(7, 9, 0): %d, %d", below, at)
	}
}
