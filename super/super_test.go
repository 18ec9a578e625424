package super

import (
	"encoding/binary"
	"fmt"
	"math"
	"math/rand"
	"slices"
	"strings"
	"testing"

	"rillbed/api"
	"rillbed/device"
	"rillbed/fuse"
)

// x is the superblock of the chapter's examples.
var x = Super{Gen: 1, Calls: 2, Root: 66, Table: 70, Sectors: 512}

func noughts(n int) string { return strings.Repeat("\x00", n) }

// stamped is how the chapter of the stamps says that a text stands stamped, in n bytes.
func stamped(gen uint64, index uint32, own string, n int) string {
	b := binary.BigEndian.AppendUint64(nil, gen)
	b = binary.BigEndian.AppendUint32(b, index)
	b = binary.BigEndian.AppendUint16(b, uint16(len(own)))
	b = append(b, own...)
	b = append(b, make([]byte, n-26-len(own))...)
	b = binary.BigEndian.AppendUint32(b, index)
	return string(binary.BigEndian.AppendUint64(b, gen))
}

// ownText is what stands within the stamps: each number by its last 16 bits.
func ownText(s Super) string {
	b := binary.BigEndian.AppendUint64(nil, s.Calls)
	for _, n := range []int{s.Root, s.Table, s.Sectors} {
		b = binary.BigEndian.AppendUint16(b, uint16(n))
	}
	return string(b)
}

// textOf is how the chapter's words say that a superblock stands, may it be or not.
func textOf(s Super) string { return stamped(s.Gen, 0, ownText(s), 128) }

// isRight is how the chapter's words say whether a superblock may be.
func isRight(s Super) bool {
	if s.Gen == 0 || s.Sectors < 512 || s.Sectors > 4096 {
		return false
	}
	for _, place := range []int{s.Root, s.Table} {
		if place <= 65 || place > s.Sectors-1 {
			return false
		}
	}
	return true
}

// slotOf is the sector in which a generation's superblock stands.
func slotOf(gen uint64) int {
	if gen&1 == 1 {
		return 1
	}
	return 0
}

// taken is what Take ought to tell of a text of at least 26 bytes: a superblock that may be, if the text is its own.
func taken(text string) (Super, api.Errno) {
	if len(text) != 128 {
		return Super{}, api.ErrForm
	}
	number := func(at int) int { return int(text[at])<<8 | int(text[at+1]) }
	s := Super{
		Gen:   binary.BigEndian.Uint64([]byte(text[:8])),
		Calls: binary.BigEndian.Uint64([]byte(text[14:22])),
		Root:  number(22), Table: number(24), Sectors: number(26),
	}
	if !isRight(s) || textOf(s) != text {
		return Super{}, api.ErrForm
	}
	return s, api.OK
}

// chosen is what Choose ought to tell of a device of n sectors, of which the first two show that.
func chosen(zero, one string, n int) (Super, api.Errno) {
	a, ea := taken(zero)
	b, eb := taken(one)
	countsA := ea == api.OK && a.Gen%2 == 0 && a.Sectors == n
	countsB := eb == api.OK && b.Gen%2 != 0 && b.Sectors == n
	switch {
	case countsA && countsB && a.Gen > b.Gen, countsA && !countsB:
		return a, api.OK
	case countsB:
		return b, api.OK
	}
	return Super{}, api.ErrNone
}

// manyGens are generations above 0 whose bytes are unlike, those at which bytes are carried, and those at the edges.
func manyGens() []uint64 {
	return []uint64{1, 2, 3, 4, 7, 8, 254, 255, 256, 257, 65535, 65536, 1<<32 - 1, 1 << 32, 1<<32 + 1, 0x0102030405060708, 1 << 63, math.MaxUint64 - 2, math.MaxUint64 - 1, math.MaxUint64}
}

func manyCalls() []uint64 {
	return []uint64{0, 1, 255, 256, 1 << 32, 0x1112131415161718, 1 << 63, math.MaxUint64}
}

func manySizes() []int { return []int{512, 513, 767, 768, 1000, 4095, 4096} }

// manyRight are superblocks that may be.
func manyRight() []Super {
	var out []Super
	for i, gen := range manyGens() {
		for j, n := range manySizes() {
			calls := manyCalls()[(i+j)%len(manyCalls())]
			out = append(out, Super{gen, calls, 66, n - 1, n}, Super{gen, calls, n - 1, 66, n}, Super{gen, calls, 255, 256, n}, Super{gen, calls, 300, 300, n})
		}
	}
	for _, calls := range manyCalls() {
		out = append(out, Super{1, calls, 66, 70, 512}, Super{2, calls, 67, 511, 4096})
	}
	return out
}

// placesOff are numbers of no root and no table, of n sectors: some of them like right ones by their last bits.
func placesOff(n int) []int {
	return []int{65, 64, 3, 2, 1, 0, -1, -2, -66, -n, n, n + 1, 4096, 4097, 65535, 65536, 65536 + 66, 65536 + 100, 1<<32 + 66, math.MaxInt, math.MaxInt - 1, math.MinInt, math.MinInt + 66, 66 - 65536}
}

// sizesOff are numbers of sectors that no disk has.
func sizesOff() []int {
	return []int{511, 510, 128, 71, 1, 0, -1, -512, -4096, 4097, 4098, 8192, 65535, 65536, 65536 + 512, 65536 + 4096, 1<<32 + 512, math.MaxInt, math.MaxInt - 1, math.MinInt, math.MinInt + 1, 512 - 65536}
}

// manyWrong are superblocks of which one number alone is not right, and some of which several are not.
func manyWrong() []Super {
	var out []Super
	for _, good := range []Super{x, {2, 0, 66, 66, 4096}, {math.MaxUint64, math.MaxUint64, 999, 66, 1000}, {256, 9, 511, 511, 512}} {
		bad := good
		bad.Gen = 0
		out = append(out, bad)
		for _, place := range placesOff(good.Sectors) {
			if place >= 66 && place < good.Sectors {
				continue
			}
			bad = good
			bad.Root = place
			out = append(out, bad)
			bad.Table = place
			out = append(out, bad)
			bad.Root = good.Root
			out = append(out, bad)
		}
		for _, n := range sizesOff() {
			bad = good
			bad.Sectors = n
			out = append(out, bad)
			bad.Root, bad.Table = 66, 66
			out = append(out, bad)
		}
	}
	return append(out, Super{}, Super{Gen: 1}, Super{0, 0, 66, 66, 511})
}

func wantText(t *testing.T, what string, got string, e api.Errno, want string, wantErr api.Errno) {
	t.Helper()
	if got != want || e != wantErr {
		t.Errorf("%s: % x, %d; not % x, %d", what, got, e, want, wantErr)
	}
}

func wantTake(t *testing.T, text string, want Super, wantErr api.Errno) {
	t.Helper()
	if got, e := Take(text); got != want || e != wantErr {
		t.Errorf("Take of % x: %v, %d; not %v, %d", text, got, e, want, wantErr)
	}
}

func wantErr(t *testing.T, what string, got, want api.Errno) {
	t.Helper()
	if got != want {
		t.Errorf("%s: %d, not %d", what, got, want)
	}
}

func wantChoose(t *testing.T, what string, f *fuse.Fuse, want Super, wantErr api.Errno) {
	t.Helper()
	if got, e := Choose(f); got != want || e != wantErr {
		t.Errorf("Choose %s: %v, %d; not %v, %d", what, got, e, want, wantErr)
	}
}

// disk is all that can be seen of a device, and of a line to it.
type disk struct {
	shown, sure []string
	waiting     int
	acts        int
	down        bool
}

func look(f *fuse.Fuse) disk {
	d := f.Device()
	out := disk{waiting: d.Waiting(), acts: f.Count(), down: f.Down()}
	for at := range d.Sectors() {
		s, _ := d.Read(at)
		out.shown, out.sure = append(out.shown, s), append(out.sure, d.Sure(at))
	}
	return out
}

func (a disk) same(b disk) bool {
	return slices.Equal(a.shown, b.shown) && slices.Equal(a.sure, b.sure) && a.waiting == b.waiting && a.acts == b.acts && a.down == b.down
}

func wantSame(t *testing.T, what string, f *fuse.Fuse, before disk) {
	t.Helper()
	if !look(f).same(before) {
		t.Errorf("%s changed the device, or its line", what)
	}
}

// lineTo is a line that is never cut, to a new device that shows these, and on which they are sure.
func lineTo(n int, zero, one string) *fuse.Fuse {
	d := device.New(n)
	d.Write(0, zero)
	d.Write(1, one)
	d.Barrier()
	return fuse.New(d, -1, nil)
}

// P14.1, P14.4: the text of superblocks that may be, and Take of it.
func TestPutAndTake(t *testing.T) {
	for _, s := range manyRight() {
		if !isRight(s) {
			t.Fatalf("the test's own: %v", s)
		}
		got, e := Put(s)
		wantText(t, fmt.Sprint("Put of ", s), got, e, textOf(s), api.OK)
		wantTake(t, got, s, api.OK)
	}
}

// P14.1, P14.4: superblocks of any right numbers.
func TestPutOfAnyRightNumbers(t *testing.T) {
	r := rand.New(rand.NewSource(1))
	for range 20000 {
		n := 512 + r.Intn(4096-512+1)
		s := Super{r.Uint64()>>r.Intn(64) | 1<<r.Intn(64), r.Uint64() >> r.Intn(65), 66 + r.Intn(n-66), 66 + r.Intn(n-66), n}
		got, e := Put(s)
		wantText(t, fmt.Sprint("Put of ", s), got, e, textOf(s), api.OK)
		wantTake(t, got, s, api.OK)
	}
}

// P14.1: each place that there is, and each number of sectors, of a great disk and of a small one.
func TestPutAtTheEdges(t *testing.T) {
	want := func(s Super) {
		t.Helper()
		text, wantE := textOf(s), api.OK
		if !isRight(s) {
			text, wantE = "", api.ErrForm
		}
		got, e := Put(s)
		wantText(t, fmt.Sprint("Put of ", s), got, e, text, wantE)
	}
	for n := -2; n < 5000; n++ {
		want(Super{1, 2, 66, 70, n})
		for _, sectors := range []int{512, 4096} {
			want(Super{1, 2, n, 70, sectors})
			want(Super{2, 2, 66, n, sectors})
		}
	}
}

// P14.1: one number alone is not right, or several are not.
func TestPutOfWrongNumbers(t *testing.T) {
	for _, s := range manyWrong() {
		if isRight(s) {
			t.Fatalf("the test's own: %v", s)
		}
		got, e := Put(s)
		wantText(t, fmt.Sprint("Put of ", s), got, e, "", api.ErrForm)
	}
}

// P14.1: too few bytes for two stamps are torn, whatever they are; with more it is the form that is wrong.
func TestTakeOfOtherLengths(t *testing.T) {
	for _, s := range manyRight()[:40] {
		text := textOf(s)
		for n := range 128 {
			want := api.ErrForm
			if n < 26 {
				want = api.ErrTorn
			}
			wantTake(t, text[:n], Super{}, want)
			wantTake(t, text[128-n:], Super{}, want)
			wantTake(t, noughts(n), Super{}, want)
			wantTake(t, text+text[:n+1], Super{}, api.ErrForm)
			wantTake(t, text+noughts(n+1), Super{}, api.ErrForm)
		}
	}
}

// P14.1: stamped in other than 128 bytes, though all else is right.
func TestTakeOfStampedInOtherLengths(t *testing.T) {
	for _, n := range []int{40, 41, 64, 126, 127, 129, 130, 255, 256, 4096, 65535, 65536, 65537} {
		wantTake(t, stamped(x.Gen, 0, ownText(x), n), Super{}, api.ErrForm)
	}
	wantTake(t, stamped(x.Gen, 0, ownText(x), 128), x, api.OK)
}

// P14.1: one bit is turned, at each place: but within what stands between the stamps that is another superblock, or none.
func TestTakeOfTurnedBits(t *testing.T) {
	for _, s := range manyRight() {
		text := textOf(s)
		for bit := range 8 * 128 {
			b := []byte(text)
			b[bit/8] ^= 1 << (bit % 8)
			want, e := taken(string(b))
			if at := bit / 8; (at < 14 || at >= 28) && e != api.ErrForm || at >= 14 && at < 22 && e != api.OK {
				t.Fatalf("the test's own: bit %d of %v: %v, %d", bit, s, want, e)
			}
			wantTake(t, string(b), want, e)
		}
	}
}

// P14.1
func TestTakeOfOtherIndex(t *testing.T) {
	for _, s := range manyRight()[:60] {
		for _, index := range []uint32{1, 2, 255, 256, 1 << 16, 1 << 31, math.MaxUint32} {
			wantTake(t, stamped(s.Gen, index, ownText(s), 128), Super{}, api.ErrForm)
		}
		wantTake(t, stamped(s.Gen, 0, ownText(s), 128), s, api.OK)
	}
}

// P14.1: what stands between the stamps has not 14 bytes, though its first or its last ones are right.
func TestTakeOfOtherOwnTexts(t *testing.T) {
	for _, s := range manyRight()[:60] {
		own := ownText(s)
		for n := range 103 {
			if n == 14 {
				continue
			}
			long := strings.Repeat(own, 8)
			for _, u := range []string{long[:n], long[len(long)-n:], (own + noughts(102))[:n], noughts(n)} {
				wantTake(t, stamped(s.Gen, 0, u, 128), Super{}, api.ErrForm)
			}
		}
	}
	wantTake(t, stamped(1, 0, "", 128), Super{}, api.ErrForm)
}

// P14.1: what is told may not be, though it is stamped as it ought to be.
func TestTakeOfWhatMayNotBe(t *testing.T) {
	for _, s := range manyWrong() {
		want, e := taken(textOf(s))
		wantTake(t, textOf(s), want, e)
	}
	for _, s := range []Super{
		{0, 2, 66, 70, 512}, {1, 2, 65, 70, 512}, {1, 2, 512, 70, 512}, {1, 2, 66, 65, 512}, {1, 2, 66, 512, 512}, {1, 2, 0, 70, 512}, {1, 2, 66, 0, 512},
		{1, 2, 66, 70, 511}, {1, 2, 66, 70, 4097}, {1, 2, 66, 70, 0}, {1, 2, 66, 70, 65535}, {1, 2, 65535, 70, 4096}, {1, 2, 66, 65535, 4096}, {0, 0, 0, 0, 0},
	} {
		wantTake(t, textOf(s), Super{}, api.ErrForm)
	}
	wantTake(t, noughts(128), Super{}, api.ErrForm)
	wantTake(t, stamped(1, 0, noughts(14), 128), Super{}, api.ErrForm)
	wantTake(t, strings.Repeat("\xff", 128), Super{}, api.ErrForm)
}

// P14.1, P14.4: of any numbers that are stamped, what is told is put just so, and the others are refused.
func TestTakeOfAnyNumbers(t *testing.T) {
	r := rand.New(rand.NewSource(2))
	told := 0
	for range 50000 {
		s := Super{r.Uint64() >> r.Intn(65), r.Uint64() >> r.Intn(65), r.Intn(1 << (5 + r.Intn(12))), r.Intn(1 << (5 + r.Intn(12))), r.Intn(1 << (9 + r.Intn(8)))}
		text := textOf(s)
		want, e := taken(text)
		wantTake(t, text, want, e)
		if got, e := Take(text); e == api.OK {
			told++
			again, e := Put(got)
			wantText(t, fmt.Sprint("Put of ", got), again, e, text, api.OK)
		}
	}
	if told < 1000 || told > 45000 {
		t.Errorf("%d of the texts were told", told)
	}
}

// P14.1, P14.4: with any byte changed a text is refused, or told and put as it is then.
func TestTakeOfChangedBytes(t *testing.T) {
	for _, s := range []Super{x, {2, math.MaxUint64, 4095, 66, 4096}} {
		for at := range 128 {
			for b := range 256 {
				text := textOf(s)
				text = text[:at] + string([]byte{byte(b)}) + text[at+1:]
				got, e := Take(text)
				if e == api.ErrForm && got == (Super{}) {
					continue
				}
				again, putE := Put(got)
				if e != api.OK || putE != api.OK || again != text {
					t.Errorf("byte %d as %d: %v, %d; put % x, %d", at, b, got, e, again, putE)
				}
			}
		}
	}
}

// P14.1
func TestSlot(t *testing.T) {
	for gen, want := range map[uint64]int{0: 0, 1: 1, 2: 0, 3: 1, 254: 0, 255: 1, 256: 0, 257: 1, 1 << 32: 0, 1<<32 + 1: 1, 1 << 63: 0, 1<<63 + 1: 1, math.MaxInt64: 1, math.MaxUint64 - 1: 0, math.MaxUint64: 1} {
		if got := Slot(gen); got != want {
			t.Errorf("Slot(%d): %d, not %d", gen, got, want)
		}
	}
	for _, gen := range manyGens() {
		if got := Slot(gen); got != slotOf(gen) {
			t.Errorf("Slot(%d): %d, not %d", gen, got, slotOf(gen))
		}
	}
}

// P14.2: one act: its slot shows the text, and waits; all else stays.
func TestWrite(t *testing.T) {
	for _, s := range manyRight() {
		f := lineTo(s.Sectors, "zero", "one")
		f.Device().Write(2, "two")
		want := look(f)
		want.shown[slotOf(s.Gen)] = textOf(s)
		want.waiting, want.acts = 2, 1
		wantErr(t, fmt.Sprint("Write of ", s), Write(f, s), api.OK)
		wantSame(t, fmt.Sprint("more than its slot: Write of ", s), f, want)
	}
}

// P14.2: the device need not have just so many sectors.
func TestWriteToOtherSizes(t *testing.T) {
	for _, n := range manySizes() {
		for _, s := range []Super{x, {2, 0, 66, 66, 4096}, {3, 0, 4095, 4095, 4096}, {4, 9, 66, 600, 768}} {
			f := lineTo(n, "zero", "one")
			want := look(f)
			want.shown[slotOf(s.Gen)] = textOf(s)
			want.waiting, want.acts = 1, 1
			wantErr(t, fmt.Sprintf("Write of %v to %d sectors", s, n), Write(f, s), api.OK)
			wantSame(t, fmt.Sprintf("more than its slot: Write of %v to %d sectors", s, n), f, want)
		}
	}
}

// P14.2: what may not be is refused ahead of what the line would answer, and is no act: a line that the next act cuts still holds.
func TestWriteOfWrongNumbers(t *testing.T) {
	blown := lineTo(512, "zero", "one")
	blown.Blow()
	lines := map[string]*fuse.Fuse{
		"a line": lineTo(512, "zero", "one"), "one that is cut next": fuse.New(device.New(512), 0, []int{1}), "a blown one": blown,
		"nil": nil, "none": {}, "one to no device": fuse.New(&device.Device{}, 0, nil),
	}
	for what, f := range lines {
		before := look(f)
		for _, s := range manyWrong() {
			wantErr(t, fmt.Sprintf("Write of %v to %s", s, what), Write(f, s), api.ErrForm)
		}
		wantSame(t, "a Write that was refused by "+what, f, before)
	}
}

// P14.2, P14.3: nil, and what New of either did not make; too small devices are not made.
func TestLinesNotMade(t *testing.T) {
	lines := map[string]*fuse.Fuse{"nil": nil, "none": {}, "to nil": fuse.New(nil, -1, nil), "to no device": fuse.New(&device.Device{}, -1, nil)}
	for _, n := range []int{2, 1, 0, -1, 511, 4097} {
		lines[fmt.Sprintf("to %d sectors", n)] = fuse.New(device.New(n), -1, nil)
	}
	for what, f := range lines {
		for _, s := range manyRight() {
			wantErr(t, fmt.Sprintf("Write of %v, the line %s", s, what), Write(f, s), api.ErrNil)
		}
		wantChoose(t, "the line "+what, f, Super{}, api.ErrNil)
	}
}

// P14.2, P14.3: a line that was blown ahead of the calls.
func TestBlownLine(t *testing.T) {
	for _, s := range manyRight()[:60] {
		f := lineTo(s.Sectors, textOf(Super{2, 0, 66, 66, s.Sectors}), "")
		f.Blow()
		before := look(f)
		wantErr(t, "Write to a blown line", Write(f, s), api.ErrDown)
		wantChoose(t, "of a blown line", f, Super{}, api.ErrDown)
		wantSame(t, "a call by a blown line", f, before)
	}
}

// P14.2: a line that is cut by the Write: its first choice says whether it was done, and how many of its bytes are kept.
func TestLineCutByWrite(t *testing.T) {
	for choice := range 130 {
		for _, s := range []Super{x, {2, 5, 100, 101, 512}} {
			f := fuse.New(lineTo(512, "zero", "one").Device(), 0, []int{choice})
			old, _ := f.Device().Read(slotOf(s.Gen))
			other, _ := f.Device().Read(1 - slotOf(s.Gen))
			want := old
			if choice%2 == 1 {
				kept := min(choice, 128)
				want = textOf(s)[:kept] + old[kept:]
			}
			wantErr(t, "a Write that cuts", Write(f, s), api.ErrDown)
			got, e := f.Device().Read(slotOf(s.Gen))
			wantText(t, fmt.Sprintf("the slot behind choice %d", choice), got, e, want, api.OK)
			got, e = f.Device().Read(1 - slotOf(s.Gen))
			wantText(t, fmt.Sprintf("the other slot behind choice %d", choice), got, e, other, api.OK)
			wantChoose(t, "of a line that is cut", f, Super{}, api.ErrDown)
		}
	}
}

// P14.3: to choose is no act: a line that the next act cuts tells it, as often as it is asked, and nothing is changed.
func TestChooseIsNoAct(t *testing.T) {
	d := lineTo(512, textOf(Super{2, 9, 80, 81, 512}), textOf(x)).Device()
	d.Write(9, "waits")
	f := fuse.New(d, 0, []int{1})
	before := look(f)
	for range 3 {
		wantChoose(t, "of a line that is cut next", f, Super{2, 9, 80, 81, 512}, api.OK)
		wantSame(t, "Choose", f, before)
	}
}

// P14.3: what is shown is chosen of, be it sure or not.
func TestChooseOfWhatWaits(t *testing.T) {
	f := lineTo(512, "", textOf(x))
	two := Super{2, 3, 70, 66, 512}
	wantErr(t, "Write", Write(f, two), api.OK)
	wantChoose(t, "of what waits", f, two, api.OK)
	f.Device().Crash(nil)
	wantChoose(t, "behind a crash", f, x, api.OK)
}

// P14.3: neither slot tells one, one does, both do, with the greater generation in either, by one or by many.
func TestChoose(t *testing.T) {
	for _, n := range manySizes() {
		empty := lineTo(n, "", "")
		wantChoose(t, "of an empty disk", empty, Super{}, api.ErrNone)
		for _, junk := range []string{"junk", noughts(128), strings.Repeat("\xff", 128)} {
			wantChoose(t, "of a spoilt disk", lineTo(n, junk, junk), Super{}, api.ErrNone)
		}
		for _, a := range manyGens() {
			s := Super{a, a + 1, 66, n - 1, n}
			texts := [2]string{}
			texts[slotOf(a)] = textOf(s)
			wantChoose(t, fmt.Sprint("of one: ", a), lineTo(n, texts[0], texts[1]), s, api.OK)
			texts[1-slotOf(a)] = "junk"
			wantChoose(t, fmt.Sprint("of one, the other spoilt: ", a), lineTo(n, texts[0], texts[1]), s, api.OK)
		}
	}
}

// P14.3: both slots tell one: that of the greater generation is told, whichever slot it stands in.
func TestChooseOfBoth(t *testing.T) {
	for _, even := range manyGens() {
		for _, odd := range manyGens() {
			if even%2 == 1 || odd%2 == 0 {
				continue
			}
			a, b := Super{even, 1, 66, 70, 512}, Super{odd, 2, 71, 67, 512}
			want := a
			if odd > even {
				want = b
			}
			wantChoose(t, fmt.Sprintf("of %d and %d", even, odd), lineTo(512, textOf(a), textOf(b)), want, api.OK)
		}
	}
}

// P14.3: what stands in the other one's slot does not count, be it the greater one or the only one.
func TestChooseOfTheOtherSlot(t *testing.T) {
	for _, gen := range manyGens() {
		s := Super{gen, 1, 66, 70, 512}
		texts := [2]string{textOf(s), textOf(s)}
		wantChoose(t, fmt.Sprint("of both: ", gen), lineTo(512, texts[0], texts[1]), s, api.OK)
		texts[slotOf(gen)] = ""
		wantChoose(t, fmt.Sprint("of the wrong slot: ", gen), lineTo(512, texts[0], texts[1]), Super{}, api.ErrNone)
		for _, less := range manyGens() {
			own := Super{less, 2, 67, 71, 512}
			if slotOf(less) == slotOf(gen) {
				texts[slotOf(gen)], texts[1-slotOf(gen)] = textOf(own), textOf(s)
				wantChoose(t, fmt.Sprintf("of %d, and %d in the wrong slot", less, gen), lineTo(512, texts[0], texts[1]), own, api.OK)
			}
		}
	}
	wrong := lineTo(512, textOf(Super{3, 1, 66, 70, 512}), textOf(Super{2, 1, 66, 70, 512}))
	wantChoose(t, "of two in the wrong slots", wrong, Super{}, api.ErrNone)
}

// P14.3: what tells another number of sectors does not count, be it the greater one or the only one.
func TestChooseOfOtherSectors(t *testing.T) {
	for _, n := range manySizes() {
		for _, told := range manySizes() {
			if told == n {
				continue
			}
			one, two, three := Super{1, 2, 66, 70, n}, Super{2, 3, 66, 70, told}, Super{3, 4, 66, 70, told}
			wantChoose(t, "where the greater one is of another disk", lineTo(n, textOf(two), textOf(one)), one, api.OK)
			wantChoose(t, "where the only one is", lineTo(n, "", textOf(three)), Super{}, api.ErrNone)
			wantChoose(t, "where the only one is", lineTo(n, textOf(two), ""), Super{}, api.ErrNone)
			wantChoose(t, "where both are", lineTo(n, textOf(two), textOf(three)), Super{}, api.ErrNone)
			two.Sectors = n
			wantChoose(t, "where the greater one is of another disk", lineTo(n, textOf(two), textOf(three)), two, api.OK)
		}
	}
}

// P14.3: a slot that is torn does not count; the other one does.
func TestChooseOfTornSlot(t *testing.T) {
	elder, two, newer := x, Super{2, 3, 71, 66, 512}, Super{3, 4, 300, 301, 512}
	// The first bytes of both are noughts, so torn there it is the elder one, whole.
	for k := 8; k < 128; k++ {
		torn := textOf(newer)[:k] + textOf(elder)[k:]
		wantChoose(t, fmt.Sprintf("of one, and a slot torn at %d", k), lineTo(512, textOf(two), torn), two, api.OK)
		wantChoose(t, fmt.Sprintf("of a slot torn at %d", k), lineTo(512, "", torn), Super{}, api.ErrNone)
		fresh := textOf(newer)[:k]
		wantChoose(t, fmt.Sprintf("of one, and a fresh slot torn at %d", k), lineTo(512, textOf(two), fresh), two, api.OK)
		wantChoose(t, fmt.Sprintf("of a fresh slot torn at %d", k), lineTo(512, "", fresh), Super{}, api.ErrNone)
	}
}

// P14.3: the first error of both Reads is told, and nothing else. No line answers the second one alone with an error, so that is asked of what Choose goes by.
func TestErrorsOfReads(t *testing.T) {
	two := Super{2, 3, 71, 66, 512}
	for _, c := range []struct{ zero, one, want api.Errno }{
		{api.ErrDown, api.OK, api.ErrDown}, {api.OK, api.ErrDown, api.ErrDown}, {api.ErrDown, api.ErrArg, api.ErrDown}, {api.ErrArg, api.ErrDown, api.ErrArg}, {api.OK, api.OK, api.OK},
	} {
		asked := 0
		read := func(at int) (string, api.Errno) {
			asked++
			return [2]string{textOf(two), textOf(x)}[at], [2]api.Errno{c.zero, c.one}[at]
		}
		want := [2]Super{}
		if c.want == api.OK {
			want = [2]Super{two, x}
		}
		if got, e := tellSlots(read, 512); got != want || e != c.want || asked > 2 {
			t.Errorf("with errors %d, %d: %v, %d", c.zero, c.one, got, e)
		}
	}
}

// P14.3: of any two texts, in either slot: whole ones, torn ones, and such as tell what may not be, or is of another disk.
func TestManyDisks(t *testing.T) {
	r := rand.New(rand.NewSource(3))
	sizes := []int{512, 513}
	text := func() string {
		n := sizes[r.Intn(2)]
		s := Super{uint64(r.Intn(6)), uint64(r.Intn(3)), 65 + r.Intn(20), 66 + r.Intn(20), n}
		u := textOf(s)
		switch r.Intn(8) {
		case 0:
			k := r.Intn(129)
			u = u[:k] + textOf(Super{s.Gen + 2, 1, 70, 71, n})[k:]
		case 1:
			u = u[:r.Intn(129)]
		case 2:
			u = stamped(s.Gen, uint32(r.Intn(2)), ownText(s)[:13+r.Intn(2)], 128)
		}
		return u + noughts(128-len(u))
	}
	answers := map[api.Errno]int{}
	for range 20000 {
		zero, one, n := text(), text(), sizes[r.Intn(2)]
		want, e := chosen(zero, one, n)
		wantChoose(t, fmt.Sprintf("of % x and % x, %d sectors", zero, one, n), lineTo(n, zero, one), want, e)
		answers[e]++
	}
	if answers[api.OK] < 2000 || answers[api.ErrNone] < 2000 {
		t.Errorf("the test's own: %v", answers)
	}
}

// left is what a crash leaves of a slot: a pick is counted round to 0 up to 129, and 128 bytes are all.
func left(sure, shown string, pick int) string {
	kept := min(((pick%130)+130)%130, 128)
	return shown[:kept] + sure[kept:]
}

// somePicks are all that a crash may keep of a sector, and some that are counted round to these.
func somePicks() []int {
	out := []int{-1, -2, -3, -7, -130, -131, 130, 137, 138, 257, 258, 259, math.MaxInt, math.MinInt}
	for pick := range 130 {
		out = append(out, pick)
	}
	return out
}

// P14.5: whatever a crash leaves of a Write of the next generation, the elder one is told, or the next one, whole: which one, hangs on whether its text is there.
func TestCrash(t *testing.T) {
	for _, gen := range manyGens() {
		if gen == math.MaxUint64 {
			continue
		}
		elder, next := Super{gen, 7, 66, 70, 512}, Super{gen + 1, 8, 101, 66, 512}
		before := []string{"", strings.Repeat("\xff", 128), textOf(Super{gen - 1, 6, 80, 81, 512})}
		for _, pick := range somePicks() {
			for _, slot := range before {
				f := lineTo(512, slot, slot)
				wantErr(t, "Write", Write(f, elder), api.OK)
				wantErr(t, "Barrier", f.Barrier(), api.OK)
				sure := f.Device().Sure(slotOf(next.Gen))
				wantErr(t, "Write", Write(f, next), api.OK)
				wantChoose(t, "ahead of the crash", f, next, api.OK)
				f.Device().Write(300, "waits too")
				f.Device().Crash([]int{pick, 64})
				want := elder
				if left(sure, textOf(next), pick) == textOf(next) {
					want = next
				}
				wantChoose(t, fmt.Sprintf("of %d, behind a crash that picks %d", gen, pick), f, want, api.OK)
			}
		}
	}
}

// P14.5: many times, one behind the other, each of the generation behind the one that was chosen last; some of them are sure, and a crash takes nothing of them.
func TestManyCrashes(t *testing.T) {
	r := rand.New(rand.NewSource(4))
	for _, first := range []uint64{1, 2, 200, 65400, 1<<32 - 300, 0x01fffffffffffff0, math.MaxUint64 - 2000} {
		f := lineTo(600, "", "")
		last := Super{first, 0, 66, 66, 600}
		wantErr(t, "Write", Write(f, last), api.OK)
		wantErr(t, "Barrier", f.Barrier(), api.OK)
		news := 0
		for range 1500 {
			next := Super{last.Gen + 1, r.Uint64() >> r.Intn(65), 66 + r.Intn(534), 66 + r.Intn(534), 600}
			sure := f.Device().Sure(slotOf(next.Gen))
			wantErr(t, "Write", Write(f, next), api.OK)
			if r.Intn(8) == 0 {
				wantErr(t, "Barrier", f.Barrier(), api.OK)
				sure = textOf(next)
			}
			pick := r.Intn(260) - 130
			if r.Intn(4) == 0 {
				pick = 110 + r.Intn(20)
			}
			f.Device().Crash([]int{pick})
			if left(sure, textOf(next), pick) == textOf(next) {
				last = next
				news++
			}
			wantChoose(t, fmt.Sprintf("behind a crash that picks %d", pick), f, last, api.OK)
		}
		if news < 200 || news > 1300 {
			t.Errorf("the test's own: %d of the next ones", news)
		}
	}
}

// P14.5: every pick behind every other one: what one crash left torn does not spoil what the next one leaves.
func TestTwoCrashes(t *testing.T) {
	elder := Super{255, 1, 66, 70, 512}
	a, b := Super{256, 2, 71, 72, 512}, Super{256, 3, 73, 511, 512}
	for _, first := range somePicks() {
		slot := left(textOf(Super{254, 1, 90, 91, 512}), textOf(a), first)
		if slot == textOf(a) {
			continue
		}
		for _, second := range somePicks() {
			f := lineTo(512, slot, textOf(elder))
			wantChoose(t, fmt.Sprintf("behind a crash that picks %d", first), f, elder, api.OK)
			wantErr(t, "Write", Write(f, b), api.OK)
			f.Device().Crash([]int{second})
			want := elder
			if left(slot, textOf(b), second) == textOf(b) {
				want = b
			}
			wantChoose(t, fmt.Sprintf("behind crashes that pick %d, %d", first, second), f, want, api.OK)
		}
	}
}

// P14.5: the line is cut at the Write, or at the Barrier behind it; what is found by a new line is the one or the other.
func TestCutLine(t *testing.T) {
	elder, next := x, Super{2, 3, 71, 66, 512}
	for cut := range 4 {
		for pick := range 130 {
			f := fuse.New(lineTo(512, "", textOf(elder)).Device(), cut, []int{pick})
			done := Write(f, next) == api.OK && f.Barrier() == api.OK
			f.Blow()
			found := fuse.New(f.Device(), -1, nil)
			want := elder
			asked := cut > 0 || pick%2 == 1
			sure := cut > 1 || cut == 1 && pick%2 == 1
			if sure || asked && left(noughts(128), textOf(next), pick) == textOf(next) {
				want = next
			}
			if done != (cut > 1) {
				t.Errorf("cut at %d: %v", cut, done)
			}
			wantChoose(t, fmt.Sprintf("of a disk whose line was cut at %d, with pick %d", cut, pick), found, want, api.OK)
		}
	}
}

// P14.6
func TestNothingPanics(t *testing.T) {
	numbers := []int{0, 1, -1, 2, 65, 66, 70, 511, 512, 4095, 4096, 4097, 65535, 65536, math.MaxInt, math.MinInt}
	gens := []uint64{0, 1, 2, math.MaxUint64}
	blown := lineTo(512, "", "")
	blown.Blow()
	values := *lineTo(512, "", "")
	lines := []*fuse.Fuse{nil, {}, fuse.New(&device.Device{}, 0, nil), blown, lineTo(512, "", ""), lineTo(4096, "", ""), fuse.New(device.New(512), 2, []int{math.MinInt}), &values}
	for _, gen := range gens {
		Slot(gen)
		for _, root := range numbers {
			for _, table := range numbers {
				for _, sectors := range numbers {
					s := Super{gen, math.MaxUint64, root, table, sectors}
					text, e := Put(s)
					if (e == api.OK) != isRight(s) {
						t.Errorf("Put of %v: %d", s, e)
					}
					Take(text)
					for _, f := range lines {
						Write(f, s)
					}
				}
			}
		}
	}
	r := rand.New(rand.NewSource(5))
	for range 20000 {
		b := make([]byte, r.Intn(260))
		r.Read(b)
		if got, e := Take(string(b)); e == api.OK || got != (Super{}) {
			t.Errorf("Take of % x: %v, %d", b, got, e)
		}
	}
	for _, f := range lines {
		Choose(f)
	}
}

func TestExamples(t *testing.T) {
	own := "\x00\x0e\x00\x00\x00\x00\x00\x00\x00\x02\x00\x42\x00\x46\x02\x00"
	whole := noughts(7) + "\x01" + noughts(4) + own + noughts(88) + noughts(4) + noughts(7) + "\x01"
	text, e := Put(x)
	wantText(t, "Put of X", text, e, whole, api.OK)
	wantTake(t, text, x, api.OK)
	wantTake(t, noughts(128), Super{}, api.ErrForm)
	wantTake(t, text[:127], Super{}, api.ErrForm)

	for _, s := range []Super{{0, 2, 66, 70, 512}, {1, 2, 65, 70, 512}, {1, 2, 66, 512, 512}, {1, 2, 66, 70, 511}} {
		text, e := Put(s)
		wantText(t, fmt.Sprint("Put of ", s), text, e, "", api.ErrForm)
	}

	f := fuse.New(device.New(512), -1, nil)
	wantChoose(t, "of a new device", f, Super{}, api.ErrNone)
	wantErr(t, "Write of X", Write(f, x), api.OK)
	wantChoose(t, "behind Write of X", f, x, api.OK)
	two := x
	two.Gen = 2
	wantErr(t, "Write of X with Gen 2", Write(f, two), api.OK)
	wantChoose(t, "behind Write of X with Gen 2", f, two, api.OK)

	if a, b := Slot(7), Slot(8); a != 1 || b != 0 {
		t.Errorf("Slot(7), Slot(8): %d, %d", a, b)
	}
}
