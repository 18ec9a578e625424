package seal

import (
	"encoding/binary"
	"hash/crc32"
	"math"
	"math/rand"
	"strings"
	"testing"

	"rillbed/api"
)

// sealed is how the chapter's words say that a text stands sealed.
func sealed(s string) string {
	b := binary.BigEndian.AppendUint16(nil, uint16(len(s)))
	b = append(b, s...)
	sum := crc32.Checksum(b, crc32.MakeTable(crc32.Castagnoli))
	return string(binary.BigEndian.AppendUint32(b, sum))
}

// stamped is how the chapter's words say that a text stands stamped.
func stamped(gen uint64, index uint32, s string, n int) string {
	b := binary.BigEndian.AppendUint64(nil, gen)
	b = binary.BigEndian.AppendUint32(b, index)
	b = binary.BigEndian.AppendUint16(b, uint16(len(s)))
	b = append(b, s...)
	b = append(b, make([]byte, n-26-len(s))...)
	b = binary.BigEndian.AppendUint32(b, index)
	return string(binary.BigEndian.AppendUint64(b, gen))
}

func manyTexts() []string {
	out := []string{"", "a", "ab", "\x00", "\xff", "\x00\x00", "\x00\x01a", "näh", "\xff\xfe\x80", "a\x00b", "\x00\x00\x00\x00\x00\x00"}
	for _, n := range []int{31, 32, 33, 255, 256, 257, 300} {
		out = append(out, strings.Repeat("x", n), chosenText(rand.New(rand.NewSource(int64(n))), n))
	}
	return out
}

func longTexts() []string {
	return []string{strings.Repeat("q", 65534), strings.Repeat("\x00", 65535), strings.Repeat("\xff", 65535), chosenText(rand.New(rand.NewSource(9)), 65535)}
}

func chosenText(r *rand.Rand, n int) string {
	b := make([]byte, n)
	r.Read(b)
	return string(b)
}

// turned is s with some bits of it turned: bit i of a text is bit i%8 of its byte i/8, the lowest first.
func turned(s string, at int, pattern uint32) string {
	b := []byte(s)
	for i := range 32 {
		if pattern>>i&1 == 1 {
			b[(at+i)/8] ^= 1 << ((at + i) % 8)
		}
	}
	return string(b)
}

func withByte(s string, at int, b byte) string { return s[:at] + string([]byte{b}) + s[at+1:] }

func wantText(t *testing.T, what string, got string, e api.Errno, want string, wantErr api.Errno) {
	t.Helper()
	if got != want || e != wantErr {
		t.Errorf("%s: %.40q of %d bytes, %d; not %.40q of %d bytes, %d", what, got, len(got), e, want, len(want), wantErr)
	}
}

func wantOpen(t *testing.T, s, text, rest string, want api.Errno) {
	t.Helper()
	gotText, gotRest, e := Open(s)
	if gotText != text || gotRest != rest || e != want {
		t.Errorf("Open of %.40q (%d bytes): %.20q, %.20q, %d; not %.20q, %.20q, %d", s, len(s), gotText, gotRest, e, text, rest, want)
	}
}

func wantUnstamp(t *testing.T, s string, gen uint64, index uint32, text string, want api.Errno) {
	t.Helper()
	gotGen, gotIndex, gotText, e := Unstamp(s)
	if gotGen != gen || gotIndex != index || gotText != text || e != want {
		t.Errorf("Unstamp of %.60q (%d bytes): %d, %d, %.20q, %d; not %d, %d, %.20q, %d", s, len(s), gotGen, gotIndex, gotText, e, gen, index, text, want)
	}
}

// P4.1
func TestSeal(t *testing.T) {
	for _, s := range append(manyTexts(), longTexts()...) {
		got, e := Seal(s)
		wantText(t, "Seal", got, e, sealed(s), api.OK)
	}
}

// P4.1: one byte too many, and many.
func TestSealOfTooLong(t *testing.T) {
	for _, n := range []int{65536, 65537, 65536 + 65535, 131072, 131073, 1 << 20} {
		got, e := Seal(strings.Repeat("l", n))
		wantText(t, "Seal", got, e, "", api.ErrLong)
	}
}

// P4.1, P4.5: a sealed text, and what stands behind it.
func TestOpen(t *testing.T) {
	behind := []string{"", "x", "\x00", "xy", "\x00\x00\x00\x00\x00\x00", sealed("other"), strings.Repeat("z", 70000)}
	for _, s := range append(manyTexts(), longTexts()...) {
		for _, rest := range behind {
			wantOpen(t, sealed(s)+rest, s, rest, api.OK)
		}
	}
}

// P4.5: texts that stand sealed one behind the other are told one by one.
func TestOpenOneBehindTheOther(t *testing.T) {
	all := ""
	for _, s := range manyTexts() {
		all += sealed(s)
	}
	for _, s := range manyTexts() {
		text, rest, e := Open(all)
		wantText(t, "Open", text, e, s, api.OK)
		all = rest
	}
	wantOpen(t, all, "", "", api.ErrTorn)
}

// P4.1: fewer than 6 bytes are torn, whatever they are; the shortest sealed text has 6.
func TestOpenOfFewBytes(t *testing.T) {
	for n := range 6 {
		for _, b := range []string{"\x00", "\x01", "\xff", "a"} {
			wantOpen(t, strings.Repeat(b, n), "", "", api.ErrTorn)
		}
		wantOpen(t, sealed("")[:n], "", "", api.ErrTorn)
	}
	wantOpen(t, sealed(""), "", "", api.OK)
	wantOpen(t, strings.Repeat("\x00", 6), "", "", api.ErrSum)
}

// P4.1: as many bytes as the first two tell, and 6, are enough, and one fewer are not: the sum is not asked then.
func TestOpenOfOneByteTooFew(t *testing.T) {
	for _, told := range []int{0, 1, 2, 255, 256, 257, 65534, 65535} {
		length := string(binary.BigEndian.AppendUint16(nil, uint16(told)))
		for _, missing := range []int{1, 2, 3, 4, 5} {
			wantOpen(t, length+strings.Repeat("m", max(told+4-missing, 0)), "", "", api.ErrTorn)
		}
		wantOpen(t, length+strings.Repeat("m", told+4), "", "", api.ErrSum)
		wantOpen(t, length+strings.Repeat("m", told+9), "", "", api.ErrSum)
	}
}

// P4.5: each beginning of a sealed text is torn.
func TestBeginningOfSealed(t *testing.T) {
	for _, s := range manyTexts() {
		u, _ := Seal(s)
		for n := range len(u) {
			wantOpen(t, u[:n], "", "", api.ErrTorn)
		}
	}
	for _, s := range longTexts() {
		u, _ := Seal(s)
		for _, n := range []int{0, 1, 2, 5, 6, 7, 32768, 65535, 65536, 65537, len(u) - 5, len(u) - 4, len(u) - 1} {
			wantOpen(t, u[:n], "", "", api.ErrTorn)
		}
	}
}

// P4.5: each single bit of the text or the sum.
func TestTurnedBit(t *testing.T) {
	for _, s := range manyTexts() {
		u, _ := Seal(s)
		for at := 16; at < 8*len(u); at++ {
			wantOpen(t, turned(u, at, 1)+"rest", "", "", api.ErrSum)
		}
	}
}

// P4.5: bits that are turned within 32 that stand together, in the text alone, or in the sum alone.
func TestTurnedBits(t *testing.T) {
	r := rand.New(rand.NewSource(5))
	for _, s := range append(manyTexts(), longTexts()...) {
		u, _ := Seal(s)
		for range 100 {
			if places := 8*len(s) - 31; places > 0 {
				wantOpen(t, turned(u, 16+r.Intn(places), 1|r.Uint32()), "", "", api.ErrSum)
			}
			wantOpen(t, turned(u, 8*(len(u)-4), 1|r.Uint32()), "", "", api.ErrSum)
		}
		for _, pattern := range []uint32{math.MaxUint32, 1 << 31, 0x80000001, 0x82f63b78, 0x1edc6f41, 0x00ff00ff} {
			if len(s) >= 4 {
				wantOpen(t, turned(u, 16, pattern), "", "", api.ErrSum)
				wantOpen(t, turned(u, 16+8*len(s)-32, pattern), "", "", api.ErrSum)
			}
			wantOpen(t, turned(u, 8*(len(u)-4), pattern), "", "", api.ErrSum)
		}
	}
}

// P4.1: the sum is of the length's two bytes too: not of the text alone.
func TestSumIsOfLengthToo(t *testing.T) {
	table := crc32.MakeTable(crc32.Castagnoli)
	for _, s := range []string{"a", "abc", strings.Repeat("x", 300)} {
		b := append(binary.BigEndian.AppendUint16(nil, uint16(len(s))), s...)
		b = binary.BigEndian.AppendUint32(b, crc32.Checksum([]byte(s), table))
		wantOpen(t, string(b), "", "", api.ErrSum)
	}
}

// P4.2: about multiples of each n.
func TestPad(t *testing.T) {
	for _, n := range []int{1, 2, 3, 4, 5, 64, 126, 127, 128, 255, 65535, 65536} {
		for _, size := range []int{0, 1, 2, 3, 4, n - 1, n, n + 1, 2*n - 1, 2 * n, 2*n + 1, 5*n + 2} {
			s := strings.Repeat("p", size)
			want := s
			for len(want)%n != 0 {
				want += strings.Repeat("\x00", n-len(want)%n)
			}
			if len(want) >= size+n {
				t.Fatalf("the test's own: %d bytes by %d are %d", size, n, len(want))
			}
			got, e := Pad(s, n)
			wantText(t, "Pad", got, e, want, api.OK)
		}
	}
}

// P4.2: noughts that the text ends with are its own, and stay; so is any byte.
func TestPadKeepsText(t *testing.T) {
	for _, s := range manyTexts() {
		for _, n := range []int{1, 2, 3, 7, 128, 65536} {
			got, e := Pad(s, n)
			if e != api.OK || len(got)%n != 0 || len(got)-len(s) >= n || !strings.HasPrefix(got, s) || strings.Trim(got[len(s):], "\x00") != "" {
				t.Errorf("Pad(%.20q, %d): %.40q, %d", s, n, got, e)
			}
		}
	}
}

// P4.2
func TestPadByWrongNumber(t *testing.T) {
	for _, n := range []int{0, -1, -2, -128, -65536, math.MinInt, 65537, 65538, 1 << 20, math.MaxInt} {
		for _, s := range []string{"", "a", "abcd", strings.Repeat("x", 70000)} {
			got, e := Pad(s, n)
			wantText(t, "Pad", got, e, "", api.ErrArg)
		}
	}
}

// someStamps are generations and indices whose bytes are unlike, and those at the edges.
func someStamps() []stampOfTest {
	return []stampOfTest{
		{0, 0}, {1, 2}, {2, 1}, {0, 1}, {1, 0}, {255, 256}, {0x0102030405060708, 0x090a0b0c},
		{math.MaxUint64, math.MaxUint32}, {math.MaxUint64, 0}, {0, math.MaxUint32}, {1 << 63, 1 << 31}, {1 << 32, 1 << 16},
	}
}

type stampOfTest struct {
	gen   uint64
	index uint32
}

// P4.3, P4.4, P4.6: texts that leave much room, a byte of it, and none.
func TestStampAndUnstamp(t *testing.T) {
	for _, p := range someStamps() {
		for _, s := range manyTexts() {
			for _, n := range []int{26, 27, 28, 58, 127, 128, 129, 26 + len(s), 27 + len(s), 65535, 65536} {
				got, e := Stamp(p.gen, p.index, s, n)
				if len(s) > n-26 {
					wantText(t, "Stamp", got, e, "", api.ErrLong)
					continue
				}
				wantText(t, "Stamp", got, e, stamped(p.gen, p.index, s, n), api.OK)
				wantUnstamp(t, got, p.gen, p.index, s, api.OK)
			}
		}
	}
}

// P4.3: texts of n less 26 bytes, and one more.
func TestStampOfTooLong(t *testing.T) {
	for _, n := range []int{26, 27, 28, 128, 32768, 65535, 65536} {
		fits := strings.Repeat("f", n-26)
		got, e := Stamp(3, 4, fits, n)
		wantText(t, "Stamp", got, e, stamped(3, 4, fits, n), api.OK)
		wantUnstamp(t, got, 3, 4, fits, api.OK)
		for _, more := range []int{1, 2, 26, 65536, 65537, 131072} {
			got, e = Stamp(3, 4, fits+strings.Repeat("m", more), n)
			wantText(t, "Stamp", got, e, "", api.ErrLong)
		}
	}
}

// P4.3: a wrong n is told ahead of a text that is too long.
func TestStampInWrongNumber(t *testing.T) {
	for _, n := range []int{25, 24, 14, 12, 1, 0, -1, -26, math.MinInt, 65537, 65538, 131072, math.MaxInt} {
		for _, s := range []string{"", "a", strings.Repeat("x", 65535), strings.Repeat("x", 65536)} {
			got, e := Stamp(1, 2, s, n)
			wantText(t, "Stamp", got, e, "", api.ErrArg)
		}
	}
}

// P4.4: 25 bytes are torn, and 26 need not be; of too few bytes nothing else is asked.
func TestUnstampOfFewBytes(t *testing.T) {
	for n := range 26 {
		for _, b := range []string{"\x00", "\x01", "\xff"} {
			wantUnstamp(t, strings.Repeat(b, n), 0, 0, "", api.ErrTorn)
		}
		wantUnstamp(t, stamped(1, 2, "", 26)[:n], 0, 0, "", api.ErrTorn)
		wantUnstamp(t, stamped(1, 2, "a", 128)[:n], 0, 0, "", api.ErrTorn)
	}
	wantUnstamp(t, stamped(1, 2, "", 26), 1, 2, "", api.OK)
}

// P4.4: 65536 bytes are not too many, 65537 are, though all else is right.
func TestUnstampOfManyBytes(t *testing.T) {
	for _, s := range []string{"", "a", strings.Repeat("x", 65510)} {
		wantUnstamp(t, stamped(1, 2, s, 65536), 1, 2, s, api.OK)
		for _, n := range []int{65537, 65538, 131072, 200000} {
			wantUnstamp(t, stamped(1, 2, s, n), 0, 0, "", api.ErrForm)
		}
	}
}

// P4.4: each bit of either stamp.
func TestUnstampOfUnlikeStamps(t *testing.T) {
	for _, p := range someStamps() {
		for _, n := range []int{26, 27, 29, 128} {
			u := stamped(p.gen, p.index, strings.Repeat("s", min(n-26, 3)), n)
			for i := range 96 {
				wantUnstamp(t, turned(u, i, 1), 0, 0, "", api.ErrForm)
				wantUnstamp(t, turned(u, 8*(n-12)+i, 1), 0, 0, "", api.ErrForm)
			}
		}
	}
}

// P4.4: the last stamp has the index first, and then the generation.
func TestLastStampIsTurnedRound(t *testing.T) {
	u := stamped(0x0102030405060708, 0x090a0b0c, "abc", 64)
	wantUnstamp(t, u[:52]+u[:12], 0, 0, "", api.ErrForm)
}

// P4.4: all lengths, in texts of noughts, where nothing else could be wrong.
func TestUnstampOfLengths(t *testing.T) {
	for _, n := range []int{26, 27, 30, 38, 39, 40, 128, 300} {
		zeros := strings.Repeat("\x00", n)
		for length := range 65536 {
			s := zeros[:12] + string([]byte{byte(length >> 8), byte(length)}) + zeros[14:]
			if length <= n-26 {
				wantUnstamp(t, s, 0, 0, zeros[:length], api.OK)
				continue
			}
			wantUnstamp(t, s, 0, 0, "", api.ErrForm)
		}
	}
}

// P4.4: lengths about the greatest that there is room for, in the greatest stamped text.
func TestUnstampOfGreatLengths(t *testing.T) {
	zeros := strings.Repeat("\x00", 65536)
	for length, want := range map[int]api.Errno{65509: api.OK, 65510: api.OK, 65511: api.ErrForm, 65522: api.ErrForm, 65523: api.ErrForm, 65535: api.ErrForm} {
		s := zeros[:12] + string([]byte{byte(length >> 8), byte(length)}) + zeros[14:]
		text := ""
		if want == api.OK {
			text = zeros[:length]
		}
		wantUnstamp(t, s, 0, 0, text, want)
	}
}

// P4.4: a byte that is not 0 at each place between the text and the last twelve bytes.
func TestUnstampOfNoNought(t *testing.T) {
	for _, s := range []string{"", "a", "abc\x00", strings.Repeat("x", 100)} {
		u := stamped(7, 8, s, 128)
		for at := 14 + len(s); at < 128-12; at++ {
			for b := 1; b < 256; b++ {
				wantUnstamp(t, withByte(u, at, byte(b)), 0, 0, "", api.ErrForm)
			}
		}
	}
	u := stamped(7, 8, "näh", 65536)
	for _, at := range []int{18, 19, 128, 32768, 65522, 65523} {
		wantUnstamp(t, withByte(u, at, 0x80), 0, 0, "", api.ErrForm)
	}
}

// P4.6: of any bytes, what is told is stamped just so.
func TestUnstampedIsStamped(t *testing.T) {
	r := rand.New(rand.NewSource(6))
	told := 0
	for range 50000 {
		n := r.Intn(60)
		b := make([]byte, n)
		for i := range b {
			b[i] = byte(r.Intn(2) * r.Intn(2) * r.Intn(2) * r.Intn(3))
		}
		if n >= 26 {
			copy(b[n-12:], append(append([]byte{}, b[8:12]...), b[:8]...))
		}
		gen, index, text, e := Unstamp(string(b))
		if e != api.OK {
			continue
		}
		told++
		again, e := Stamp(gen, index, text, n)
		wantText(t, "Stamp of what Unstamp told", again, e, string(b), api.OK)
	}
	if told < 1000 {
		t.Errorf("only %d of the texts were told", told)
	}
}

// P4.6: a stamped text with a byte changed is refused, or told and stamped as it is then.
func TestChangedByteOfStamped(t *testing.T) {
	for _, s := range []string{"", "a", "abc\x00\x00", strings.Repeat("x", 22)} {
		u := stamped(1, 2, s, 48)
		for at := range u {
			for b := range 256 {
				changed := withByte(u, at, byte(b))
				gen, index, text, e := Unstamp(changed)
				if e == api.ErrForm {
					continue
				}
				again, e := Stamp(gen, index, text, 48)
				wantText(t, "Stamp of what Unstamp told", again, e, changed, api.OK)
			}
		}
	}
}

// P4.7: the first bytes of one stamped text, and the others of another one, cut at each place.
func TestTornStamped(t *testing.T) {
	texts := []string{"", "a", "b", "old", "newer", "\x00\x00", strings.Repeat("x", 102), strings.Repeat("y", 102)}
	for _, p := range someStamps() {
		for _, q := range someStamps() {
			if p == q {
				continue
			}
			for _, s := range texts {
				for _, u := range texts {
					wantOneOfBoth(t, stamped(p.gen, p.index, s, 128), stamped(q.gen, q.index, u, 128))
				}
			}
		}
	}
}

// P4.7: stamps that differ in one bit alone, in the shortest stamped texts and in some longer ones.
func TestTornStampedOfNearStamps(t *testing.T) {
	for i := range 96 {
		for _, n := range []int{26, 27, 40} {
			p, q := stampOfTest{5, 6}, stampOfTest{5, 6}
			if i < 64 {
				q.gen ^= 1 << i
			} else {
				q.index ^= 1 << (i - 64)
			}
			s, u := strings.Repeat("s", n-26), strings.Repeat("u", (n-26)/2)
			wantOneOfBoth(t, stamped(p.gen, p.index, s, n), stamped(q.gen, q.index, u, n))
			wantOneOfBoth(t, stamped(q.gen, q.index, u, n), stamped(p.gen, p.index, s, n))
		}
	}
}

func wantOneOfBoth(t *testing.T, a, b string) {
	t.Helper()
	for k := range len(a) + 1 {
		s := a[:k] + b[k:]
		gen, index, text, e := Unstamp(s)
		if e == api.OK && (s == a || s == b) && stamped(gen, index, text, len(s)) == s {
			continue
		}
		if gen != 0 || index != 0 || text != "" || e != api.ErrForm || s == a || s == b {
			t.Errorf("cut at %d of %d: %d, %d, %.20q, %d", k, len(a), gen, index, text, e)
		}
	}
}

func TestExamples(t *testing.T) {
	u, e := Seal("a")
	if e != api.OK || len(u) != 7 || u[:3] != "\x00\x01\x61" {
		t.Errorf("Seal of a: %q, %d", u, e)
	}
	wantOpen(t, u+"xy", "a", "xy", api.OK)

	wantOpen(t, "", "", "", api.ErrTorn)
	wantOpen(t, "\x00\x01\x61", "", "", api.ErrTorn)
	wantOpen(t, "\x00\x00\x00\x00\x00\x00", "", "", api.ErrSum)

	u, e = Pad("abc", 4)
	wantText(t, "Pad", u, e, "\x61\x62\x63\x00", api.OK)
	u, e = Pad("abcd", 4)
	wantText(t, "Pad", u, e, "abcd", api.OK)
	u, e = Pad("", 4)
	wantText(t, "Pad", u, e, "", api.OK)
	u, e = Pad("a", 0)
	wantText(t, "Pad", u, e, "", api.ErrArg)

	u, e = Stamp(1, 2, "a", 28)
	wantText(t, "Stamp", u, e, "\x00\x00\x00\x00\x00\x00\x00\x01\x00\x00\x00\x02\x00\x01\x61\x00\x00\x00\x00\x02\x00\x00\x00\x00\x00\x00\x00\x01", api.OK)
	u, e = Stamp(1, 2, "a", 26)
	wantText(t, "Stamp", u, e, "", api.ErrLong)
	u, e = Stamp(1, 2, "", 25)
	wantText(t, "Stamp", u, e, "", api.ErrArg)

	wantUnstamp(t, strings.Repeat("\x00", 26), 0, 0, "", api.OK)
	wantUnstamp(t, strings.Repeat("\x00", 25), 0, 0, "", api.ErrTorn)
	wantUnstamp(t, strings.Repeat("\x00", 127)+"\x01", 0, 0, "", api.ErrForm)
}
