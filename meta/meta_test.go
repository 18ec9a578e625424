package meta

import (
	"encoding/binary"
	"math"
	"math/rand"
	"strings"
	"testing"

	"rillbed/api"
	"rillbed/number"
)

const (
	quietNaN    = uint64(0x7ff8000000000001)
	minusNought = uint64(1 << 63)
	inf         = uint64(0x7ff0000000000000)
	minusInf    = uint64(0xfff0000000000000)
)

// loudNaNs are NaNs that are not quiet: those next to the quiet one, and those at the ends of both signs.
var loudNaNs = []uint64{
	0x7ff0000000000001, 0x7ff7ffffffffffff, 0x7ff8000000000000, 0x7ff8000000000002, 0x7fffffffffffffff,
	0xfff0000000000001, 0xfff7ffffffffffff, 0xfff8000000000000, 0xfff8000000000001, 0xffffffffffffffff,
}

// quietMarks are quiet, at the edges of what says a NaN too.
var quietMarks = []uint64{
	0, minusNought, 1, 0x8000000000000001, bitsOf(1.5), bitsOf(-2), 0x7fefffffffffffff, inf, 0xffefffffffffffff, minusInf, quietNaN,
}

var stamps = []uint64{0, 1, 258, math.MaxUint32, 1 << 32, 0x0102030405060708, math.MaxUint64}

func bitsOf(f float64) uint64 { return math.Float64bits(f) }

func file(size uint32) api.Meta { return api.Meta{Kind: 1, Size: size} }

func dir() api.Meta { return api.Meta{Kind: 2} }

func grow(n uint64) Change { return Change{What: 1, N: n} }

func cut(n uint64) Change { return Change{What: 2, N: n} }

func mark(op uint8, by uint64) Change {
	return Change{What: 3, Step: number.Step{Op: op, By: by}}
}

func stamp(n uint64) Change { return Change{What: 4, N: n} }

// metaIsRight is how the chapter's words say which metas may be.
func metaIsRight(m api.Meta) bool {
	saysNaN := m.Mark>>52&0x7ff == 0x7ff && m.Mark&(1<<52-1) != 0
	return (m.Kind == 1 && m.Size <= 2048 || m.Kind == 2 && m.Size == 0) && (!saysNaN || m.Mark == quietNaN)
}

// changeIsRight is how the chapter's words say which changes may be.
func changeIsRight(c Change) bool {
	op, by := c.Step.Op, c.Step.By
	switch c.What {
	case 1, 2:
		return c.N <= 2048 && op == 0 && by == 0
	case 3:
		return c.N == 0 && 1 <= op && op <= 5
	case 4:
		return op == 0 && by == 0
	}
	return false
}

func bytesOf(n uint64, width int) string {
	return string(binary.BigEndian.AppendUint64(nil, n)[8-width:])
}

func numberOf(s string) uint64 {
	return binary.BigEndian.Uint64([]byte(strings.Repeat("\x00", 8-len(s)) + s))
}

// textOfMeta is how the chapter's words say what a meta's text is.
func textOfMeta(m api.Meta) string {
	return string([]byte{m.Kind}) + bytesOf(uint64(m.Size), 4) + bytesOf(m.Mark, 8) + bytesOf(m.Stamp, 8)
}

// textOfChange is how the chapter's words say what a change's text is.
func textOfChange(c Change) string {
	what := string([]byte{c.What})
	switch c.What {
	case 1, 2:
		return what + bytesOf(c.N, 4)
	case 3:
		return what + string([]byte{c.Step.Op}) + bytesOf(c.Step.By, 8)
	}
	return what + bytesOf(c.N, 8)
}

// metaTold is how the chapter's words say what Take answers.
func metaTold(s string) (api.Meta, api.Errno) {
	if len(s) < 21 {
		return api.Meta{}, api.ErrTorn
	}
	m := api.Meta{Kind: s[0], Size: uint32(numberOf(s[1:5])), Mark: numberOf(s[5:13]), Stamp: numberOf(s[13:21])}
	if len(s) > 21 || !metaIsRight(m) {
		return api.Meta{}, api.ErrForm
	}
	return m, api.OK
}

// changeTold is how the chapter's words say what TakeChange answers.
func changeTold(s string) (Change, api.Errno) {
	if s == "" {
		return Change{}, api.ErrTorn
	}
	if s[0] < 1 || s[0] > 4 {
		return Change{}, api.ErrForm
	}
	size := []int{5, 5, 10, 9}[s[0]-1]
	if len(s) < size {
		return Change{}, api.ErrTorn
	}
	c := Change{What: s[0]}
	if s[0] == 3 {
		c.Step = number.Step{Op: s[1], By: numberOf(s[2:10])}
	} else {
		c.N = numberOf(s[1:size])
	}
	if len(s) > size || !changeIsRight(c) {
		return Change{}, api.ErrForm
	}
	return c, api.OK
}

// applied is how the chapter's words say what Apply answers.
func applied(t *testing.T, m api.Meta, c Change) api.Meta {
	t.Helper()
	if !metaIsRight(m) || !changeIsRight(c) {
		return m
	}
	switch {
	case c.What == 1 && m.Kind == 1 && c.N > uint64(m.Size), c.What == 2 && m.Kind == 1:
		m.Size = uint32(c.N)
	case c.What == 3:
		made, e := number.Apply(m.Mark, c.Step)
		if e != api.OK {
			t.Fatalf("number.Apply(%#x, %v): error %d", m.Mark, c.Step, e)
		}
		m.Mark = made
	case c.What == 4:
		m.Stamp = c.N
	}
	return m
}

// manyMetas are metas at all edges, such that may be and such that may not.
func manyMetas() []api.Meta {
	var out []api.Meta
	for _, kind := range []uint8{0, 1, 2, 3, 128, 255} {
		for _, size := range []uint32{0, 1, 5, 255, 256, 258, 2047, 2048, 2049, 4096, 65536, 1 << 31, math.MaxUint32} {
			for _, m := range append(append([]uint64{}, quietMarks...), loudNaNs...) {
				for _, s := range stamps {
					out = append(out, api.Meta{Kind: kind, Size: size, Mark: m, Stamp: s})
				}
			}
		}
	}
	return out
}

// fewMetas are some of the metas, for tests that hold each against much else.
func fewMetas() []api.Meta {
	out := []api.Meta{{}, {Kind: 3}, {Kind: 0, Size: 7}, file(2049), file(math.MaxUint32), {Kind: 2, Size: 1}, {Kind: 2, Size: 2048}}
	for _, m := range []api.Meta{file(0), file(1), file(5), file(2047), file(2048), dir()} {
		for _, bits := range append([]uint64{loudNaNs[0], loudNaNs[7]}, quietMarks...) {
			for _, s := range []uint64{0, 7, math.MaxUint64} {
				m.Mark, m.Stamp = bits, s
				out = append(out, m)
			}
		}
	}
	return out
}

// manyChanges are changes at all edges, such that may be and such that may not.
func manyChanges() []Change {
	var out []Change
	ns := []uint64{0, 1, 3, 5, 9, 255, 256, 2047, 2048, 2049, 65536, math.MaxUint32, 1 << 32, 1<<32 + 5, 1<<32 + 2048, 5 << 32, 1 << 63, math.MaxUint64}
	bys := append([]uint64{0, bitsOf(1), bitsOf(1.5), bitsOf(-2), minusNought, inf, minusInf, quietNaN, math.MaxInt64}, loudNaNs...)
	for _, what := range []uint8{0, 1, 2, 3, 4, 5, 129, 255} {
		for _, n := range ns {
			for _, op := range []uint8{0, 1, 2, 3, 4, 5, 6, 129, 255} {
				for _, by := range bys {
					out = append(out, Change{What: what, N: n, Step: number.Step{Op: op, By: by}})
				}
			}
		}
	}
	return out
}

func rightChanges() []Change {
	var out []Change
	for _, c := range manyChanges() {
		if changeIsRight(c) {
			out = append(out, c)
		}
	}
	return out
}

func wantPut(t *testing.T, m api.Meta, want string, wantE api.Errno) {
	t.Helper()
	if e := Check(m); e != wantE {
		t.Errorf("Check(%#v): %d, not %d", m, e, wantE)
	}
	if s, e := Put(m); s != want || e != wantE {
		t.Errorf("Put(%#v): %x, %d; not %x, %d", m, s, e, want, wantE)
	}
}

func wantTake(t *testing.T, s string, want api.Meta, wantE api.Errno) {
	t.Helper()
	if m, e := Take(s); m != want || e != wantE {
		t.Errorf("Take(%.60x): %#v, %d; not %#v, %d", s, m, e, want, wantE)
	}
}

func wantPutChange(t *testing.T, c Change, want string, wantE api.Errno) {
	t.Helper()
	if s, e := PutChange(c); s != want || e != wantE {
		t.Errorf("PutChange(%#v): %x, %d; not %x, %d", c, s, e, want, wantE)
	}
}

func wantTakeChange(t *testing.T, s string, want Change, wantE api.Errno) {
	t.Helper()
	if c, e := TakeChange(s); c != want || e != wantE {
		t.Errorf("TakeChange(%.60x): %#v, %d; not %#v, %d", s, c, e, want, wantE)
	}
}

func wantTaken(t *testing.T, s string) {
	t.Helper()
	m, e := metaTold(s)
	wantTake(t, s, m, e)
}

func wantChangeTaken(t *testing.T, s string) {
	t.Helper()
	c, e := changeTold(s)
	wantTakeChange(t, s, c, e)
}

func wantApply(t *testing.T, m api.Meta, c Change, want api.Meta) {
	t.Helper()
	if got := Apply(m, c); got != want {
		t.Errorf("Apply(%#v, %#v): %#v, not %#v", m, c, got, want)
	}
}

// spoil hands over each text that has one byte less than s, one more, or another one, and each beginning of s.
func spoil(s string, each func(string)) {
	for at := range len(s) {
		each(s[:at])
		each(s[:at] + s[at+1:])
		for b := range 256 {
			other := string([]byte{byte(b)})
			each(s[:at] + other + s[at:])
			each(s[:at] + other + s[at+1:])
		}
	}
	for b := range 256 {
		each(s + string([]byte{byte(b)}))
	}
}

func TestKindsOfChanges(t *testing.T) {
	if Grow != 1 || Cut != 2 || Mark != 3 || Stamp != 4 {
		t.Error(Grow, Cut, Mark, Stamp)
	}
}

// P7.1: Check and Put of all edges.
func TestPut(t *testing.T) {
	for _, m := range manyMetas() {
		if metaIsRight(m) {
			wantPut(t, m, textOfMeta(m), api.OK)
		} else {
			wantPut(t, m, "", api.ErrForm)
		}
	}
}

// P7.1: all Kinds, and all Sizes about those that may be.
func TestCheckOfKindsAndSizes(t *testing.T) {
	for kind := range 256 {
		for size := range 2100 {
			want := api.ErrForm
			if kind == 1 && size <= 2048 || kind == 2 && size == 0 {
				want = api.OK
			}
			m := api.Meta{Kind: uint8(kind), Size: uint32(size)}
			if e := Check(m); e != want {
				t.Errorf("Check(%#v): %d, not %d", m, e, want)
			}
		}
	}
}

// P7.1: which Marks may be, of files and of directories.
func TestCheckOfMarks(t *testing.T) {
	for _, m := range []api.Meta{file(0), file(2048), dir()} {
		for _, x := range quietMarks {
			m.Mark = x
			wantPut(t, m, textOfMeta(m), api.OK)
		}
		for _, x := range loudNaNs {
			m.Mark = x
			wantPut(t, m, "", api.ErrForm)
		}
	}
}

// P7.1: Take of the texts of metas that may be, and of what would be those of metas that may not.
func TestTake(t *testing.T) {
	for _, m := range manyMetas() {
		if metaIsRight(m) {
			wantTake(t, textOfMeta(m), m, api.OK)
		} else {
			wantTake(t, textOfMeta(m), api.Meta{}, api.ErrForm)
		}
	}
}

// P7.1: how many bytes a text has is asked ahead of what they say.
func TestTakeOfLengths(t *testing.T) {
	good := textOfMeta(api.Meta{Kind: 1, Size: 258, Mark: bitsOf(1.5), Stamp: 7})
	bad := strings.Repeat("\xff", 21)
	for n := range 21 {
		wantTake(t, good[:n], api.Meta{}, api.ErrTorn)
		wantTake(t, bad[:n], api.Meta{}, api.ErrTorn)
	}
	wantTake(t, good, api.Meta{Kind: 1, Size: 258, Mark: bitsOf(1.5), Stamp: 7}, api.OK)
	wantTake(t, bad, api.Meta{}, api.ErrForm)
	for _, behind := range []string{"\x00", "\x01", "ab", good, strings.Repeat("\x00", 100000)} {
		wantTake(t, good+behind, api.Meta{}, api.ErrForm)
		wantTake(t, bad+behind, api.Meta{}, api.ErrForm)
	}
}

// P7.1: texts that are spoilt, at each place.
func TestTakeOfSpoiltTexts(t *testing.T) {
	for _, m := range []api.Meta{
		file(0), file(258), file(2048), dir(),
		{Kind: 1, Size: 5, Mark: quietNaN, Stamp: 1}, {Kind: 2, Mark: inf, Stamp: math.MaxUint64}, {Kind: 2, Mark: minusInf}, {Kind: 1, Size: 2047, Mark: bitsOf(1.5), Stamp: 1 << 32},
	} {
		spoil(textOfMeta(m), func(s string) { wantTaken(t, s) })
	}
}

// P7.2: PutChange of all edges.
func TestPutChange(t *testing.T) {
	for _, c := range manyChanges() {
		if changeIsRight(c) {
			wantPutChange(t, c, textOfChange(c), api.OK)
		} else {
			wantPutChange(t, c, "", api.ErrForm)
		}
	}
}

// P7.2: all kinds, each with nothing else; a Mark's step must be one.
func TestPutChangeOfKinds(t *testing.T) {
	texts := map[uint8]string{1: "\x01\x00\x00\x00\x00", 2: "\x02\x00\x00\x00\x00", 4: "\x04\x00\x00\x00\x00\x00\x00\x00\x00"}
	for what := range 256 {
		c := Change{What: uint8(what)}
		if text, ok := texts[c.What]; ok {
			wantPutChange(t, c, text, api.OK)
		} else {
			wantPutChange(t, c, "", api.ErrForm)
		}
	}
	for op := range 256 {
		c := mark(uint8(op), 0)
		if 1 <= op && op <= 5 {
			wantPutChange(t, c, "\x03"+string([]byte{c.Step.Op})+"\x00\x00\x00\x00\x00\x00\x00\x00", api.OK)
		} else {
			wantPutChange(t, c, "", api.ErrForm)
		}
	}
}

// P7.2: how great N may be.
func TestPutChangeOfNumbers(t *testing.T) {
	for _, c := range []Change{grow(2048), cut(2048)} {
		wantPutChange(t, c, string([]byte{c.What})+"\x00\x00\x08\x00", api.OK)
		for _, n := range []uint64{2049, 4096, math.MaxUint32, 1 << 32, 1<<32 + 1, 1<<32 + 2048, 1 << 63, math.MaxUint64} {
			c.N = n
			wantPutChange(t, c, "", api.ErrForm)
		}
	}
	wantPutChange(t, stamp(2049), "\x04\x00\x00\x00\x00\x00\x00\x08\x01", api.OK)
	wantPutChange(t, stamp(math.MaxUint64), "\x04\xff\xff\xff\xff\xff\xff\xff\xff", api.OK)
}

// P7.2: what a kind does not have is 0.
func TestPutChangeOfTooManyParts(t *testing.T) {
	for _, c := range []Change{
		{What: 1, N: 5, Step: number.Step{Op: 1}}, {What: 1, Step: number.Step{By: 1}}, {What: 1, Step: number.Step{Op: 255, By: math.MaxUint64}},
		{What: 2, N: 5, Step: number.Step{Op: 1}}, {What: 2, Step: number.Step{By: 1}}, {What: 2, Step: number.Step{By: minusNought}},
		{What: 3, N: 1, Step: number.Step{Op: 1}}, {What: 3, N: 1 << 63, Step: number.Step{Op: 5, By: 1}},
		{What: 4, N: 5, Step: number.Step{Op: 1}}, {What: 4, Step: number.Step{By: 1}}, {What: 4, N: 7, Step: number.Step{Op: 5, By: quietNaN}},
	} {
		wantPutChange(t, c, "", api.ErrForm)
	}
}

// P7.2: a By may say any NaN, and stays as it is.
func TestChangesByNaNs(t *testing.T) {
	for op := uint8(1); op <= 5; op++ {
		for _, by := range append([]uint64{quietNaN}, loudNaNs...) {
			s := "\x03" + string([]byte{op}) + bytesOf(by, 8)
			wantPutChange(t, mark(op, by), s, api.OK)
			wantTakeChange(t, s, mark(op, by), api.OK)
		}
	}
}

// P7.2: TakeChange of what would be the texts of all changes.
func TestTakeChange(t *testing.T) {
	for _, c := range manyChanges() {
		wantChangeTaken(t, textOfChange(c))
		if changeIsRight(c) {
			wantTakeChange(t, textOfChange(c), c, api.OK)
		}
	}
}

// P7.2: each first byte, with each number of bytes behind it.
func TestTakeChangeOfLengths(t *testing.T) {
	wantTakeChange(t, "", Change{}, api.ErrTorn)
	sizes := map[int]int{1: 5, 2: 5, 3: 10, 4: 9}
	for what := range 256 {
		for n := 1; n <= 24; n++ {
			s := string([]byte{byte(what)}) + strings.Repeat("\x00", n-1)
			bad := string([]byte{byte(what)}) + strings.Repeat("\xff", n-1)
			switch size, ok := sizes[what]; {
			case !ok || n > size:
				wantTakeChange(t, s, Change{}, api.ErrForm)
				wantTakeChange(t, bad, Change{}, api.ErrForm)
			case n < size:
				wantTakeChange(t, s, Change{}, api.ErrTorn)
				wantTakeChange(t, bad, Change{}, api.ErrTorn)
			default:
				wantChangeTaken(t, s)
				wantChangeTaken(t, bad)
			}
		}
	}
	wantTakeChange(t, "\x04"+strings.Repeat("\x00", 100000), Change{}, api.ErrForm)
}

// P7.2: texts, of the right length, of no change that may be.
func TestTakeChangeOfWrongTexts(t *testing.T) {
	for _, s := range []string{
		"\x01\x00\x00\x08\x01", "\x01\x00\x01\x00\x00", "\x01\x80\x00\x00\x00", "\x01\xff\xff\xff\xff",
		"\x02\x00\x00\x08\x01", "\x02\x00\x01\x00\x00", "\x02\x80\x00\x00\x00", "\x02\xff\xff\xff\xff",
		"\x03\x00" + bytesOf(0, 8), "\x03\x06" + bytesOf(0, 8), "\x03\xff" + bytesOf(1, 8), "\x03\x81" + bytesOf(1, 8),
	} {
		wantTakeChange(t, s, Change{}, api.ErrForm)
	}
}

// P7.2: texts that are spoilt, at each place.
func TestTakeChangeOfSpoiltTexts(t *testing.T) {
	for _, c := range []Change{
		grow(0), grow(5), grow(2048), cut(0), cut(258), cut(2048), stamp(0), stamp(7), stamp(math.MaxUint64),
		mark(1, 0), mark(2, bitsOf(1.5)), mark(3, minusInf), mark(4, quietNaN), mark(5, loudNaNs[0]),
	} {
		spoil(textOfChange(c), func(s string) { wantChangeTaken(t, s) })
	}
}

// P7.3: each change of each meta, all of them at edges.
func TestApply(t *testing.T) {
	for _, m := range fewMetas() {
		for _, c := range rightChanges() {
			wantApply(t, m, c, applied(t, m, c))
		}
	}
}

// P7.3: a meta that may not be stays, and so does one whose change may not be.
func TestApplyOfWhatMayNotBe(t *testing.T) {
	for _, m := range manyMetas() {
		if metaIsRight(m) {
			continue
		}
		for _, c := range []Change{grow(9), grow(2048), cut(0), cut(3), mark(1, bitsOf(1.5)), mark(2, bitsOf(1)), mark(5, inf), stamp(1), stamp(77)} {
			wantApply(t, m, c, m)
		}
	}
	for _, c := range manyChanges() {
		if changeIsRight(c) {
			continue
		}
		for _, m := range []api.Meta{file(0), file(5), file(2048), {Kind: 2, Mark: bitsOf(1.5), Stamp: 3}, {Kind: 1, Size: 7, Mark: quietNaN, Stamp: 9}} {
			wantApply(t, m, c, m)
		}
	}
}

// P7.3: Grow below, at and above the Size, and Cut; all else stays.
func TestApplyOfSizes(t *testing.T) {
	for _, size := range []uint32{0, 1, 5, 64, 2047, 2048} {
		m := api.Meta{Kind: 1, Size: size, Mark: bitsOf(1.5), Stamp: 7}
		for n := range uint32(2049) {
			was, grown := m, m
			was.Size, grown.Size = n, max(n, size)
			wantApply(t, m, grow(uint64(n)), grown)
			wantApply(t, m, cut(uint64(n)), was)
		}
		for _, n := range []uint64{2049, 1<<32 + 1, math.MaxUint64} {
			wantApply(t, m, grow(n), m)
			wantApply(t, m, cut(n), m)
		}
	}
}

// P7.3: sizes are a file's alone; marks and stamps a directory's too.
func TestApplyToDirectories(t *testing.T) {
	m := api.Meta{Kind: 2, Mark: bitsOf(1.5), Stamp: 7}
	for _, n := range []uint64{0, 1, 64, 2048, 2049, 1 << 32} {
		wantApply(t, m, grow(n), m)
		wantApply(t, m, cut(n), m)
	}
	wantApply(t, m, mark(2, bitsOf(2.25)), api.Meta{Kind: 2, Mark: bitsOf(3.75), Stamp: 7})
	wantApply(t, m, stamp(9), api.Meta{Kind: 2, Mark: bitsOf(1.5), Stamp: 9})
}

// P7.3: each Op of Mark, with outcomes that are NaNs too.
func TestApplyOfMarks(t *testing.T) {
	for _, c := range []struct {
		mark uint64
		op   uint8
		by   uint64
		want uint64
	}{
		{bitsOf(1.5), 1, bitsOf(-2), bitsOf(-2)}, {bitsOf(1.5), 1, loudNaNs[0], quietNaN}, {quietNaN, 1, 0, 0},
		{bitsOf(1.5), 2, bitsOf(2.25), bitsOf(3.75)}, {inf, 2, minusInf, quietNaN}, {0, 2, minusNought, 0},
		{bitsOf(1.5), 3, bitsOf(-1), bitsOf(1.5)}, {bitsOf(1.5), 3, bitsOf(2), bitsOf(2)}, {0, 3, minusNought, 0}, {0, 3, loudNaNs[6], quietNaN},
		{bitsOf(1.5), 4, bitsOf(-1), bitsOf(-1)}, {bitsOf(1.5), 4, bitsOf(2), bitsOf(1.5)}, {bitsOf(1.5), 4, quietNaN, bitsOf(1.5)},
		{bitsOf(1.5), 5, bitsOf(-2), bitsOf(-3)}, {inf, 5, 0, quietNaN}, {0, 5, bitsOf(-1), minusNought},
	} {
		m := api.Meta{Kind: 1, Size: 9, Mark: c.mark, Stamp: 7}
		wantApply(t, m, mark(c.op, c.by), api.Meta{Kind: 1, Size: 9, Mark: c.want, Stamp: 7})
	}
}

// P7.3
func TestApplyOfStamps(t *testing.T) {
	m := api.Meta{Kind: 1, Size: 9, Mark: quietNaN, Stamp: 7}
	for _, n := range []uint64{0, 6, 7, 8, 2049, 1 << 32, math.MaxUint64} {
		wantApply(t, m, stamp(n), api.Meta{Kind: 1, Size: 9, Mark: quietNaN, Stamp: n})
	}
}

// P7.4: what may be may be behind any change, also behind many of them, and keeps its Kind.
func TestMetasStayRight(t *testing.T) {
	r := rand.New(rand.NewSource(7))
	changes := manyChanges()
	for _, m := range fewMetas() {
		if !metaIsRight(m) {
			continue
		}
		for _, c := range changes {
			got := Apply(m, c)
			if !metaIsRight(got) || Check(got) != api.OK || got.Kind != m.Kind {
				t.Errorf("Apply(%#v, %#v): %#v", m, c, got)
			}
		}
		got := m
		for range 300 {
			got = Apply(got, changes[r.Intn(len(changes))])
		}
		if !metaIsRight(got) || got.Kind != m.Kind {
			t.Errorf("many changes of %#v: %#v", m, got)
		}
	}
}

// P7.4: what was told is what is taken, and no two have the same text.
func TestTakeOfPut(t *testing.T) {
	metas := map[string]api.Meta{}
	for _, m := range manyMetas() {
		s, e := Put(m)
		if e != api.OK {
			continue
		}
		wantTake(t, s, m, api.OK)
		if other, ok := metas[s]; ok && other != m {
			t.Errorf("%#v and %#v have one text", m, other)
		}
		metas[s] = m
	}
	changes := map[string]Change{}
	for _, c := range manyChanges() {
		s, e := PutChange(c)
		if e != api.OK {
			continue
		}
		wantTakeChange(t, s, c, api.OK)
		if other, ok := changes[s]; ok && other != c {
			t.Errorf("%#v and %#v have one text", c, other)
		}
		changes[s] = c
	}
}

// P7.4: a text that is taken, put anew, is that text: so each has one form.
func TestPutOfTake(t *testing.T) {
	again := func(s string) {
		if m, e := Take(s); e == api.OK {
			wantPut(t, m, s, api.OK)
		}
		if c, e := TakeChange(s); e == api.OK {
			wantPutChange(t, c, s, api.OK)
		}
	}
	for _, m := range []api.Meta{file(0), file(2048), dir(), {Kind: 1, Size: 258, Mark: quietNaN, Stamp: 7}} {
		spoil(textOfMeta(m), again)
	}
	for _, c := range []Change{grow(5), cut(2048), mark(1, quietNaN), mark(5, loudNaNs[3]), stamp(7)} {
		spoil(textOfChange(c), again)
	}
	r := rand.New(rand.NewSource(8))
	for range 20000 {
		b := make([]byte, r.Intn(24))
		for i := range b {
			b[i] = byte(r.Intn(256) >> (r.Intn(2) * 6))
		}
		wantTaken(t, string(b))
		wantChangeTaken(t, string(b))
		again(string(b))
	}
}

// P7.5: done twice as done once.
func TestChangesDoneTwice(t *testing.T) {
	for _, m := range fewMetas() {
		for _, c := range rightChanges() {
			if c.What != Mark {
				wantApply(t, Apply(m, c), c, Apply(m, c))
			}
		}
	}
}

// inOrder wants that a and b, done with m, ask for no order.
func inOrder(t *testing.T, m api.Meta, a, b Change) {
	t.Helper()
	if one, other := Apply(Apply(m, a), b), Apply(Apply(m, b), a); one != other {
		t.Errorf("%#v: by %#v, then %#v: %#v; the other way round: %#v", m, a, b, one, other)
	}
}

// P7.5: Grows ask for no order, nor do changes of unlike parts.
func TestChangesInAnyOrder(t *testing.T) {
	part := map[uint8]int{Grow: 1, Cut: 1, Mark: 2, Stamp: 3}
	some := []Change{grow(0), grow(3), grow(9), grow(2048), cut(0), cut(5), cut(2048), stamp(0), stamp(7), stamp(math.MaxUint64)}
	for op := uint8(1); op <= 5; op++ {
		for _, by := range []uint64{0, bitsOf(1.5), minusInf, quietNaN, loudNaNs[0]} {
			some = append(some, mark(op, by))
		}
	}
	for _, m := range fewMetas() {
		for _, a := range some {
			for _, b := range some {
				if part[a.What] != part[b.What] || a.What == Grow && b.What == Grow {
					inOrder(t, m, a, b)
				}
			}
		}
	}
}

// The chapter's examples.
func TestExamples(t *testing.T) {
	wantPut(t, api.Meta{Kind: 1, Size: 258, Mark: 0, Stamp: 1}, "\x01\x00\x00\x01\x02"+strings.Repeat("\x00", 8)+strings.Repeat("\x00", 7)+"\x01", api.OK)
	for _, m := range []api.Meta{{Kind: 3}, {Kind: 1, Size: 2049}, {Kind: 2, Size: 1}, {Kind: 1, Mark: 0x7ff0000000000001}} {
		wantPut(t, m, "", api.ErrForm)
	}

	wantPutChange(t, Change{What: Grow, N: 5}, "\x01\x00\x00\x00\x05", api.OK)
	wantPutChange(t, Change{What: Mark, Step: number.Step{Op: number.Add, By: bitsOf(1.5)}}, "\x03\x02\x3f\xf8"+strings.Repeat("\x00", 6), api.OK)
	wantPutChange(t, Change{What: Stamp, N: 7}, "\x04"+strings.Repeat("\x00", 7)+"\x07", api.OK)

	wantTakeChange(t, "", Change{}, api.ErrTorn)
	wantTakeChange(t, "\x05", Change{}, api.ErrForm)
	wantTakeChange(t, "\x01\x00", Change{}, api.ErrTorn)
	wantTakeChange(t, "\x01\x00\x00\x08\x01", Change{}, api.ErrForm)
	wantTakeChange(t, "\x04"+strings.Repeat("\x00", 9), Change{}, api.ErrForm)

	wantApply(t, file(5), Change{What: Grow, N: 3}, file(5))
	wantApply(t, file(5), Change{What: Grow, N: 9}, file(9))
	wantApply(t, file(5), Change{What: Cut, N: 3}, file(3))
	wantApply(t, file(5), Change{What: Cut, N: 9}, file(9))
}
