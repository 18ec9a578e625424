package block

import (
	"fmt"
	"math"
	"math/rand"
	"strings"
	"testing"

	"rillbed/api"
)

func noughts(n int) string { return strings.Repeat("\x00", n) }

// letters are n bytes of which no two neighbours are alike, and none is 0.
func letters(n int) string {
	b := make([]byte, n)
	for i := range b {
		b[i] = byte('a' + i%26)
	}
	return string(b)
}

func splice(at int, s string) Patch { return Patch{At: at, S: s} }

func cut(n int) Patch { return Patch{Cut: true, N: n} }

// shown is a patch for a report, however long its S is.
func shown(p Patch) string {
	return fmt.Sprintf("{Cut: %t, At: %d, N: %d, S: %.80q, %d bytes}", p.Cut, p.At, p.N, p.S, len(p.S))
}

// patchIsRight is how the chapter's words say which patches may be.
func patchIsRight(p Patch) bool {
	if p.Cut {
		return p.N >= 0 && p.N < 64 && p.At == 0 && len(p.S) == 0
	}
	if p.At < 0 || p.At > 64 || len(p.S) < 1 || len(p.S) > 64 {
		return false
	}
	return p.At+len(p.S) <= 64 && p.N == 0
}

// textOf is how the chapter's words say what a patch's text is.
func textOf(p Patch) string {
	if p.Cut {
		return string([]byte{2, byte(p.N)})
	}
	return string([]byte{1, byte(p.At), byte(len(p.S) >> 8), byte(len(p.S))}) + p.S
}

// told is how the chapter's words say what Take answers.
func told(s string) (Patch, api.Errno) {
	if s == "" {
		return Patch{}, api.ErrTorn
	}
	var p Patch
	size := 2
	switch s[0] {
	case 1:
		if len(s) < 4 {
			return Patch{}, api.ErrTorn
		}
		size = 4 + int(s[2])*256 + int(s[3])
	case 2:
	default:
		return Patch{}, api.ErrForm
	}
	if len(s) < size {
		return Patch{}, api.ErrTorn
	}
	if s[0] == 1 {
		p = splice(int(s[1]), s[4:size])
	} else {
		p = cut(int(s[1]))
	}
	if len(s) > size || !patchIsRight(p) {
		return Patch{}, api.ErrForm
	}
	return p, api.OK
}

// trimmed is how the chapter's words say what Trim answers.
func trimmed(s string) string { return strings.TrimRight(s, "\x00") }

// byteAt is the byte that stands at a place of v, and 0 where there is none.
func byteAt(v string, at int) byte {
	if at < 0 || at >= len(v) {
		return 0
	}
	return v[at]
}

// applied is how the chapter's words say what Apply answers, byte by byte.
func applied(v string, p Patch) string {
	var b [64]byte
	for i := range b {
		b[i] = byteAt(v, i)
		switch {
		case !patchIsRight(p):
		case p.Cut && i >= p.N:
			b[i] = 0
		case !p.Cut && p.At <= i && i < p.At+len(p.S):
			b[i] = p.S[i-p.At]
		}
	}
	return trimmed(string(b[:]))
}

// manyValues are texts at all edges: values of blocks, ones that end with bytes 0, and ones that are too long.
func manyValues() []string {
	out := []string{"", "\x00", "a", "a\x00", "\x00a", "a\x00b\x00\x00", "a\x00\x00d", "abcdef", "\xff\xfe\x80", "näh", "\x01\x02\x00\x02xy", "\x02\x03"}
	for _, n := range []int{2, 31, 32, 33, 62, 63, 64, 65, 66, 127, 128, 200, 65536} {
		out = append(out, letters(n), noughts(n), letters(n-1)+"\x00", noughts(n-1)+"z", "q"+noughts(n-1), noughts(n/2)+letters(n-n/2), letters(n/2)+noughts(n-n/2))
	}
	return append(out, letters(64)+noughts(64), letters(10)+noughts(60)+"z", noughts(64)+"z")
}

// manyPatches are patches at all edges, such that may be and such that may not.
func manyPatches() []Patch {
	ints := []int{math.MinInt, -64, -1, 0, 1, 2, 3, 31, 32, 62, 63, 64, 65, 127, 128, 255, 256, 259, math.MaxInt - 63, math.MaxInt - 1, math.MaxInt}
	texts := []string{"", "\x00", "a", "xy", "\x00y", "x\x00", "x\x00y\x00", noughts(2), noughts(64), "\xff\xfe", letters(32), letters(33), letters(61), letters(62), letters(63), letters(64), letters(65), letters(63) + "\x00", letters(256), letters(65536)}
	var out []Patch
	for _, c := range []bool{false, true} {
		for _, at := range ints {
			for _, n := range ints {
				for _, s := range texts {
					out = append(out, Patch{Cut: c, At: at, N: n, S: s})
				}
			}
		}
	}
	return out
}

// rightPatches are all cuts, and splices of each length at each place.
func rightPatches() []Patch {
	var out []Patch
	for n := range 64 {
		out = append(out, cut(n))
		for at := range 64 - n {
			out = append(out, splice(at, letters(n+1)), splice(at, noughts(n+1)), splice(at, noughts(n)+"y"), splice(at, "y"+noughts(n)))
		}
	}
	return out
}

func wantCheck(t *testing.T, v string, want api.Errno) {
	t.Helper()
	if e := Check(v); e != want {
		t.Errorf("Check(%.80q, %d bytes): %d, not %d", v, len(v), e, want)
	}
}

func wantTrim(t *testing.T, s, want string) {
	t.Helper()
	if got := Trim(s); got != want {
		t.Errorf("Trim(%.80q, %d bytes): %.80q, %d bytes; not %.80q, %d bytes", s, len(s), got, len(got), want, len(want))
	}
}

func wantAt(t *testing.T, v string, from, n int, want string) {
	t.Helper()
	if got := At(v, from, n); got != want {
		t.Errorf("At(%.80q, %d, %d): %q, not %q", v, from, n, got, want)
	}
}

func wantPut(t *testing.T, p Patch, want string, wantE api.Errno) {
	t.Helper()
	if s, e := Put(p); s != want || e != wantE {
		t.Errorf("Put(%s): %x, %d; not %x, %d", shown(p), s, e, want, wantE)
	}
}

func wantTake(t *testing.T, s string, want Patch, wantE api.Errno) {
	t.Helper()
	if p, e := Take(s); p != want || e != wantE {
		t.Errorf("Take(%.80x, %d bytes): %s, %d; not %s, %d", s, len(s), shown(p), e, shown(want), wantE)
	}
}

func wantTaken(t *testing.T, s string) {
	t.Helper()
	p, e := told(s)
	wantTake(t, s, p, e)
}

func wantApply(t *testing.T, v string, p Patch, want string) {
	t.Helper()
	if got := Apply(v, p); got != want {
		t.Errorf("Apply(%.80q, %s): %.80q, not %q", v, shown(p), got, want)
	}
}

// spoil hands over each text that has one byte less than s, one more, or another one, and each beginning of s.
func spoil(s string, each func(string)) {
	for at := range len(s) {
		each(s[:at])
		each(s[:at] + s[at+1:])
		for b := range 256 {
			other := string([]byte{byte(b)})
			each(s[:at] + other + s[at:])
			each(s[:at] + other + s[at+1:])
		}
	}
	for b := range 256 {
		each(s + string([]byte{byte(b)}))
	}
}

// P8.1
func TestCheck(t *testing.T) {
	for _, v := range manyValues() {
		want := api.OK
		if len(v) < 1 || len(v) > 64 || strings.HasSuffix(v, "\x00") {
			want = api.ErrForm
		}
		wantCheck(t, v, want)
	}
	for n := range 130 {
		right := n >= 1 && n <= 64
		for _, v := range []string{letters(n), noughts(max(n-1, 0)) + letters(min(n, 1))} {
			if right {
				wantCheck(t, v, api.OK)
			} else {
				wantCheck(t, v, api.ErrForm)
			}
		}
		wantCheck(t, letters(n)+"\x00", api.ErrForm)
		wantCheck(t, noughts(n), api.ErrForm)
	}
	for b := 1; b < 256; b++ {
		wantCheck(t, string([]byte{byte(b)}), api.OK)
		wantCheck(t, string([]byte{0, byte(b)}), api.OK)
	}
}

// P8.1
func TestTrim(t *testing.T) {
	for _, s := range manyValues() {
		wantTrim(t, s, trimmed(s))
	}
	for n := range 130 {
		wantTrim(t, noughts(n), "")
		wantTrim(t, letters(n)+noughts(n), letters(n))
		wantTrim(t, "a"+noughts(n)+"b"+noughts(n), "a"+noughts(n)+"b")
		wantTrim(t, noughts(n)+"b", noughts(n)+"b")
	}
	for b := 1; b < 256; b++ {
		last := string([]byte{byte(b)})
		wantTrim(t, last+noughts(3), last)
	}
}

// P8.1: Trim is not bound to a block's length.
func TestTrimOfLongTexts(t *testing.T) {
	const long = 1 << 22
	wantTrim(t, noughts(long), "")
	wantTrim(t, letters(long), letters(long))
	wantTrim(t, letters(long)+noughts(long), letters(long))
	wantTrim(t, noughts(long)+"z\x00", noughts(long)+"z")
	wantTrim(t, "a"+noughts(long), "a")
}

// P8.1: places and numbers of bytes, the greatest and the least among them.
func TestAt(t *testing.T) {
	froms := []int{math.MinInt, math.MinInt + 1, -65, -64, -1, 0, 1, 2, 3, 4, 10, 31, 62, 63, 64, 65, 70, 127, 128, 200, 65535, 65536, math.MaxInt - 64, math.MaxInt - 63, math.MaxInt - 1, math.MaxInt}
	numbers := []int{math.MinInt, -64, -1, 0, 1, 2, 4, 32, 63, 64, 65, 66, 128, math.MaxInt - 1, math.MaxInt}
	for _, v := range manyValues() {
		for _, from := range froms {
			for _, n := range numbers {
				want := make([]byte, min(64, max(n, 0)))
				at := max(from, 0)
				for i := range want {
					if at < len(v) {
						want[i] = byteAt(v, at+i)
					}
				}
				wantAt(t, v, from, n, string(want))
			}
		}
	}
}

// P8.1: the same, written out.
func TestAtWrittenOut(t *testing.T) {
	for _, c := range []struct {
		v       string
		from, n int
		want    string
	}{
		{"abc", 0, 3, "abc"}, {"abc", 0, 2, "ab"}, {"abc", 1, 1, "b"}, {"abc", 2, 1, "c"}, {"abc", -1, 2, "ab"}, {"abc", math.MinInt, 4, "abc\x00"},
		{"abc", 3, 2, noughts(2)}, {"abc", 4, 2, noughts(2)}, {"abc", math.MaxInt, 2, noughts(2)}, {"abc", math.MaxInt, math.MaxInt, noughts(64)}, {"", 0, 1, "\x00"},
		{"abc", 0, 0, ""}, {"abc", 0, -1, ""}, {"abc", 0, math.MinInt, ""}, {"abc", 5, 0, ""},
		{"abc", 0, 64, "abc" + noughts(61)}, {"abc", 0, 65, "abc" + noughts(61)}, {"abc", 1, math.MaxInt, "bc" + noughts(62)},
		{letters(64), 0, 64, letters(64)}, {letters(64), 1, 64, letters(64)[1:] + "\x00"}, {letters(64), 63, 2, letters(64)[63:] + "\x00"}, {letters(64), 64, 1, "\x00"},
		{letters(200), 0, 65, letters(64)}, {letters(200), 64, 64, letters(128)[64:]}, {letters(200), 199, 2, letters(200)[199:] + "\x00"}, {"a\x00b\x00", 1, 3, "\x00b\x00"},
	} {
		wantAt(t, c.v, c.from, c.n, c.want)
	}
}

// P8.2: Put of all edges.
func TestPut(t *testing.T) {
	for _, p := range manyPatches() {
		if patchIsRight(p) {
			wantPut(t, p, textOf(p), api.OK)
		} else {
			wantPut(t, p, "", api.ErrForm)
		}
	}
	for _, p := range rightPatches() {
		wantPut(t, p, textOf(p), api.OK)
	}
}

// P8.2: the edges of splices and cuts, written out.
func TestPutOfEdges(t *testing.T) {
	wantPut(t, splice(0, "a"), "\x01\x00\x00\x01a", api.OK)
	wantPut(t, splice(63, "a"), "\x01\x3f\x00\x01a", api.OK)
	wantPut(t, splice(0, letters(64)), "\x01\x00\x00\x40"+letters(64), api.OK)
	wantPut(t, splice(1, letters(63)), "\x01\x01\x00\x3f"+letters(63), api.OK)
	wantPut(t, splice(62, "\x00\x00"), "\x01\x3e\x00\x02\x00\x00", api.OK)
	wantPut(t, cut(0), "\x02\x00", api.OK)
	wantPut(t, cut(63), "\x02\x3f", api.OK)
	for _, p := range []Patch{
		{}, splice(63, ""), splice(64, ""), splice(64, "a"), splice(63, "ab"), splice(1, letters(64)), splice(0, letters(65)), splice(0, letters(320)), splice(-1, "a"), splice(-1, letters(65)), splice(256, "a"), splice(math.MaxInt, "a"), splice(math.MinInt, "a"),
		{S: "a", N: 1}, {S: "a", N: -1}, {At: 3, S: "a", N: 3}, {N: 3},
		cut(-1), cut(64), cut(256), cut(math.MinInt), cut(math.MaxInt), {Cut: true, At: 1}, {Cut: true, At: -1, N: 3}, {Cut: true, At: 3, N: 3}, {Cut: true, S: "a"}, {Cut: true, N: 3, S: "\x00"}, {Cut: true, At: 1, S: "a"},
	} {
		wantPut(t, p, "", api.ErrForm)
	}
}

// P8.2: Take of the texts of patches that may be, and of what would be those of patches that may not.
func TestTake(t *testing.T) {
	for _, p := range rightPatches() {
		wantTake(t, textOf(p), p, api.OK)
	}
	for at := range 256 {
		wantTaken(t, textOf(cut(at)))
		for _, size := range []int{0, 1, 2, 32, 63, 64, 65, 66, 255, 256, 257, 320, 65535} {
			wantTaken(t, textOf(splice(at, letters(size))))
		}
	}
}

// P8.2: what is wrong first is what is told.
func TestTakeOfWrongTexts(t *testing.T) {
	wantTake(t, "", Patch{}, api.ErrTorn)
	for first := range 256 {
		s := string([]byte{byte(first)})
		want := api.ErrForm
		if first == 1 || first == 2 {
			want = api.ErrTorn
		}
		wantTake(t, s, Patch{}, want)
		if want == api.ErrForm {
			for _, behind := range []string{"\x00", "\x03", "\x02\x00\x02xy", letters(1000)} {
				wantTake(t, s+behind, Patch{}, api.ErrForm)
			}
		}
	}
	for _, s := range []string{"\x01\x00", "\x01\x00\x00", "\x01\x00\x00\x01", "\x01\xff\x00\x02a", "\x01\x00\x00\x41" + letters(64), "\x01\x00\xff\xff" + letters(65534)} {
		wantTake(t, s, Patch{}, api.ErrTorn)
	}
	for _, s := range []string{
		"\x01\x00\x00\x00", "\x01\x00\x00\x00a", "\x01\x00\x00\x41" + letters(65), "\x01\x00\x01\x00" + letters(256), "\x01\x00\xff\xff" + letters(65535), "\x01\x40\x00\x01a", "\x01\x3f\x00\x02ab", "\x01\xff\x00\x01a", "\x01\x02\x00\x02xyz",
		"\x02\x40", "\x02\xff", "\x02\x00\x00", "\x02\x40\x00", "\x02\x03" + letters(100000),
	} {
		wantTake(t, s, Patch{}, api.ErrForm)
	}
}

// P8.2: texts that are spoilt, at each place.
func TestTakeOfSpoiltTexts(t *testing.T) {
	for _, p := range []Patch{cut(0), cut(3), cut(63), splice(0, "a"), splice(2, "xy"), splice(63, "\x00"), splice(0, letters(64)), splice(1, noughts(63)), splice(32, letters(32))} {
		spoil(textOf(p), func(s string) { wantTaken(t, s) })
	}
}

// P8.3: values of all edges, by patches at all edges, such that may be and such that may not.
func TestApply(t *testing.T) {
	for _, v := range manyValues() {
		for _, p := range rightPatches() {
			wantApply(t, v, p, applied(v, p))
		}
	}
	wrong := []Patch{}
	for i, p := range manyPatches() {
		if i%7 == 0 && !patchIsRight(p) {
			wrong = append(wrong, p)
		}
	}
	for _, v := range []string{"", "\x00", "ab", "a\x00b\x00", letters(64), letters(65), letters(63) + "\x00z", noughts(64) + "z"} {
		for _, p := range wrong {
			wantApply(t, v, p, applied(v, p))
		}
	}
}

// P8.3: splices, written out.
func TestApplyOfSplices(t *testing.T) {
	full := letters(64)
	for _, c := range []struct {
		v, s string
		at   int
		want string
	}{
		{"", "a", 0, "a"}, {"", "a", 3, noughts(3) + "a"}, {"", "\x00", 0, ""}, {"", noughts(64), 0, ""}, {"", "a\x00", 1, "\x00a"},
		{"ab", "xy", 5, "ab" + noughts(3) + "xy"}, {"ab", "xy", 2, "abxy"}, {"ab", "xy", 1, "axy"}, {"abcd", "xy", 1, "axyd"}, {"abcd", "xy", 2, "abxy"}, {"abcd", "wxyz", 0, "wxyz"}, {"abcd", letters(64), 0, letters(64)},
		{"abcd", "\x00", 1, "a\x00cd"}, {"abcd", noughts(2), 2, "ab"}, {"abcd", noughts(4), 0, ""}, {"abcd", noughts(9), 1, "a"}, {"a\x00cd", noughts(2), 2, "a"}, {"abcd", "x\x00", 3, "abcx"},
		{full, "Z", 63, full[:63] + "Z"}, {full, "Z", 0, "Z" + full[1:]}, {full, "\x00", 63, full[:63]}, {full, noughts(63), 1, "a"}, {full, noughts(64), 0, ""},
		{"ab\x00\x00", "x", 3, "ab\x00x"}, {"ab" + noughts(62), "x", 0, "xb"},
		{letters(200), "Z", 0, "Z" + full[1:]}, {letters(65), "Z", 63, full[:63] + "Z"}, {letters(65), "\x00", 63, full[:63]}, {"ab" + noughts(62) + "z", "x", 2, "abx"},
	} {
		wantApply(t, c.v, splice(c.at, c.s), c.want)
	}
}

// P8.3: cuts, written out.
func TestApplyOfCuts(t *testing.T) {
	full := letters(64)
	for _, c := range []struct {
		v    string
		n    int
		want string
	}{
		{"", 0, ""}, {"", 63, ""}, {"abc", 0, ""}, {"abc", 1, "a"}, {"abc", 2, "ab"}, {"abc", 3, "abc"}, {"abc", 4, "abc"}, {"abc", 63, "abc"},
		{"a\x00\x00d", 3, "a"}, {"a\x00\x00d", 4, "a\x00\x00d"}, {"\x00\x00c", 2, ""}, {"ab\x00\x00", 3, "ab"}, {"ab\x00\x00", 63, "ab"},
		{full, 63, full[:63]}, {full, 0, ""}, {letters(65), 63, full[:63]}, {letters(65536), 2, "ab"}, {noughts(64) + "z", 63, ""},
	} {
		wantApply(t, c.v, cut(c.n), c.want)
	}
}

// P8.3: by a patch that may not be, a value is its first 64 bytes, trimmed.
func TestApplyOfWrongPatches(t *testing.T) {
	for _, p := range []Patch{{}, cut(-1), cut(64), {Cut: true, At: 1}, {Cut: true, S: "a"}, {S: "a", N: 1}, splice(-1, "a"), splice(63, "ab"), splice(64, "a"), splice(math.MaxInt, "a"), splice(math.MinInt, "a"), splice(0, letters(65)), splice(5, "")} {
		for _, c := range [][2]string{{"", ""}, {"ab", "ab"}, {"ab\x00\x00", "ab"}, {noughts(64), ""}, {letters(64), letters(64)}, {letters(65), letters(64)}, {letters(65536), letters(64)}, {"ab" + noughts(62) + "z", "ab"}} {
			wantApply(t, c[0], p, c[1])
		}
	}
}

// P8.4: what was told is what is taken, no two patches have the same text, and a beginning of one is torn.
func TestTakeOfPut(t *testing.T) {
	patches := map[string]Patch{}
	for _, p := range append(rightPatches(), manyPatches()...) {
		s, e := Put(p)
		if e != api.OK {
			continue
		}
		wantTake(t, s, p, api.OK)
		for n := range len(s) {
			wantTake(t, s[:n], Patch{}, api.ErrTorn)
		}
		if other, ok := patches[s]; ok && other != p {
			t.Errorf("%s and %s have one text", shown(p), shown(other))
		}
		patches[s] = p
	}
}

// P8.4: a text that is taken, put anew, is that text: so each has one form.
func TestPutOfTake(t *testing.T) {
	again := func(s string) {
		wantTaken(t, s)
		if p, e := Take(s); e == api.OK {
			wantPut(t, p, s, api.OK)
		}
	}
	for _, p := range []Patch{cut(0), cut(63), splice(0, "a"), splice(2, "xy"), splice(0, noughts(64)), splice(20, letters(44))} {
		spoil(textOf(p), again)
	}
	r := rand.New(rand.NewSource(8))
	for range 50000 {
		b := make([]byte, r.Intn(12))
		for i := range b {
			b[i] = byte(r.Intn(256) >> (r.Intn(2) * 6))
		}
		again(string(b))
	}
}

// P8.5: what Apply makes is a block's value, or nothing, whatever it is made of.
func TestApplyMakesValues(t *testing.T) {
	patches := append(rightPatches(), Patch{}, cut(-1), cut(64), splice(64, "\x00"), splice(0, letters(65)))
	for _, v := range manyValues() {
		for _, p := range patches {
			if made := Apply(v, p); len(made) > 64 || strings.HasSuffix(made, "\x00") || made != "" && Check(made) != api.OK {
				t.Errorf("Apply(%.80q, %s): %.80q", v, shown(p), made)
			}
		}
	}
}

// P8.5: what At tells behind a patch, held against what it told ahead of it.
func TestAtBehindPatches(t *testing.T) {
	for _, v := range manyValues() {
		if len(v) > 64 {
			continue
		}
		was := At(v, 0, 64)
		for _, p := range rightPatches() {
			made := Apply(v, p)
			parts := []struct {
				at   int
				want string
			}{{0, was[:p.N]}, {p.N, noughts(64 - p.N)}}
			if !p.Cut {
				end := p.At + len(p.S)
				parts[0].want = was[:p.At]
				parts[1].at, parts[1].want = p.At, p.S+was[end:]
			}
			for _, part := range parts {
				wantAt(t, made, part.at, len(part.want), part.want)
			}
		}
	}
}

// P8.5: done twice as done once.
func TestPatchesDoneTwice(t *testing.T) {
	for _, v := range manyValues() {
		for _, p := range append(rightPatches(), Patch{}, cut(64), splice(63, "ab")) {
			once := Apply(v, p)
			wantApply(t, once, p, once)
		}
	}
}

// P8.5: many patches, one behind the other, held against a block of bytes.
func TestManyPatches(t *testing.T) {
	r := rand.New(rand.NewSource(9))
	patches := append(rightPatches(), Patch{}, cut(64), splice(-1, "a"))
	for range 50 {
		v, want := "", ""
		for range 200 {
			p := patches[r.Intn(len(patches))]
			v, want = Apply(v, p), applied(want, p)
			if v != want {
				t.Fatalf("%s: %q, not %q", shown(p), v, want)
			}
		}
	}
}

// P8.6: a panic anywhere here would end the test.
func TestNothingPanics(t *testing.T) {
	texts := append(manyValues(), "\x01", "\x02", "\x01\x00\xff\xff", "\x01\xff\x00\x01a", "\x02\xff")
	for _, s := range texts {
		Check(s)
		Trim(s)
		Take(s)
		for _, n := range []int{math.MinInt, -1, 0, 1, 64, 65, math.MaxInt} {
			At(s, n, n)
			At(s, -n, n)
			At(s, n, -n)
			Apply(s, cut(n))
			Apply(s, Patch{Cut: true, At: n, N: n, S: s})
			Apply(s, splice(n, s))
			Apply("ab", Patch{At: n, N: n, S: s})
			Put(cut(n))
			Put(splice(n, s))
			Put(Patch{Cut: true, At: n, N: n, S: s})
		}
	}
}

// The chapter's examples.
func TestExamples(t *testing.T) {
	wantCheck(t, "a", api.OK)
	wantCheck(t, "", api.ErrForm)
	wantCheck(t, "a\x00", api.ErrForm)
	wantTrim(t, "a\x00b\x00\x00", "a\x00b")
	wantAt(t, "abc", 1, 4, "bc\x00\x00")

	wantPut(t, splice(2, "xy"), "\x01\x02\x00\x02\x78\x79", api.OK)
	wantPut(t, cut(3), "\x02\x03", api.OK)
	wantApply(t, "ab", splice(2, "xy"), "abxy")
	wantApply(t, "abcdef", cut(3), "abc")
	wantApply(t, "a\x00\x00d", cut(3), "a")

	for _, p := range []Patch{splice(63, "xy"), splice(0, ""), cut(64)} {
		wantPut(t, p, "", api.ErrForm)
	}

	wantTake(t, "", Patch{}, api.ErrTorn)
	wantTake(t, "\x03", Patch{}, api.ErrForm)
	wantTake(t, "\x02", Patch{}, api.ErrTorn)
	wantTake(t, "\x02\x40", Patch{}, api.ErrForm)
	wantTake(t, "\x02\x03\x00", Patch{}, api.ErrForm)
}
