package device

import (
	"fmt"
	"math"
	"math/big"
	"math/rand"
	"slices"
	"strings"
	"testing"

	"rillbed/api"
)

func noughts(n int) string { return strings.Repeat("\x00", n) }

// full is a text, and bytes 0 behind it, up to the bytes of a sector.
func full(s string) string { return s + noughts(128-len(s)) }

// letters are n bytes of which no two neighbours are alike, and none is 0.
func letters(n int) string {
	b := make([]byte, n)
	for i := range b {
		b[i] = byte('a' + i%26)
	}
	return string(b)
}

// others are n bytes that differ from those of letters at each place, and are not 0.
func others(n int) string { return strings.ToUpper(letters(n)) }

// manyPlaces are places at all edges of a device of so many sectors, there and not there.
func manyPlaces(sectors int) []int {
	return []int{math.MinInt, math.MinInt + 1, -4096, -2, -1, 0, 1, 2, 63, 64, sectors / 2, sectors - 2, sectors - 1, sectors, sectors + 1, 2 * sectors, 4096, 1 << 32, 1<<32 + 1, math.MaxInt - 1, math.MaxInt}
}

// manyChoices are lists of numbers of all kinds.
func manyChoices() [][]int {
	out := [][]int{nil, {}, {0, 1}, {1, 0}, {128, 0}, {0, 129}, {-1, 1}, {3, 127, 64}, {0, 0, 129}, {5, 4, 3, 2, 1}, {math.MinInt, math.MaxInt}, {130, 131, 132, 133}, {1, 2, 3, 4, 5, 6, 7, 8, 9, 10, 11, 12}}
	for _, n := range []int{math.MinInt, math.MinInt + 1, -261, -260, -259, -131, -130, -129, -128, -127, -2, -1, 0, 1, 2, 64, 126, 127, 128, 129, 130, 131, 257, 258, 259, 260, math.MaxInt - 1, math.MaxInt} {
		out = append(out, []int{n})
	}
	return out
}

// disk is how the chapter's words say what a device is: each sector's sure bytes, those that it shows, and does it wait.
type disk struct {
	sure, shown []string
	waits       []bool
}

func newDisk(sectors int) *disk {
	m := &disk{make([]string, sectors), make([]string, sectors), make([]bool, sectors)}
	for at := range m.sure {
		m.sure[at], m.shown[at] = noughts(128), noughts(128)
	}
	return m
}

func (m *disk) write(at int, s string) api.Errno {
	if at < 0 || at >= len(m.sure) {
		return api.ErrArg
	}
	if len(s) > 128 {
		return api.ErrLong
	}
	m.shown[at], m.waits[at] = full(s), true
	return api.OK
}

func (m *disk) barrier() {
	for at := range m.sure {
		m.sure[at], m.waits[at] = m.shown[at], false
	}
}

// keptOf is how the chapter's words say how many bytes the number at i keeps.
func keptOf(choice []int, i int) int {
	if len(choice) == 0 {
		return 0
	}
	number := new(big.Int).Mod(big.NewInt(int64(choice[i%len(choice)])), big.NewInt(130)).Int64()
	if number == 129 {
		return 128
	}
	return int(number)
}

func (m *disk) crash(choice []int) {
	i := 0
	for at := range m.sure {
		if m.waits[at] {
			n := keptOf(choice, i)
			m.sure[at] = m.shown[at][:n] + m.sure[at][n:]
			m.shown[at], m.waits[at] = m.sure[at], false
			i++
		}
	}
}

func (m *disk) waiting() int {
	n := 0
	for _, w := range m.waits {
		if w {
			n++
		}
	}
	return n
}

func (m *disk) copied() *disk {
	return &disk{slices.Clone(m.sure), slices.Clone(m.shown), slices.Clone(m.waits)}
}

func made(t *testing.T, sectors int) *Device {
	t.Helper()
	d := New(sectors)
	if d == nil {
		t.Fatalf("New(%d): nil", sectors)
	}
	return d
}

func wantWrite(t *testing.T, d *Device, at int, s string, want api.Errno) {
	t.Helper()
	if e := d.Write(at, s); e != want {
		t.Errorf("Write(%d, %d bytes): %d, not %d", at, len(s), e, want)
	}
}

func wantRead(t *testing.T, d *Device, at int, want string, wantE api.Errno) {
	t.Helper()
	if s, e := d.Read(at); s != want || e != wantE {
		t.Errorf("Read(%d): %.140q, %d, not %.140q, %d", at, s, e, want, wantE)
	}
}

func wantSure(t *testing.T, d *Device, at int, want string) {
	t.Helper()
	if s := d.Sure(at); s != want {
		t.Errorf("Sure(%d): %.140q, not %.140q", at, s, want)
	}
}

func wantWaiting(t *testing.T, d *Device, want int) {
	t.Helper()
	if n := d.Waiting(); n != want {
		t.Errorf("Waiting: %d, not %d", n, want)
	}
}

// wantSame holds all that a device shows against what the chapter's words say.
func wantSame(t *testing.T, name string, d *Device, m *disk) {
	t.Helper()
	if d.Sectors() != len(m.sure) || d.Waiting() != m.waiting() {
		t.Fatalf("%s: %d sectors, of which %d wait, not %d, %d", name, d.Sectors(), d.Waiting(), len(m.sure), m.waiting())
	}
	for at := range m.sure {
		if s, e := d.Read(at); s != m.shown[at] || e != api.OK {
			t.Fatalf("%s: Read(%d): %.140q, %d, not %.140q", name, at, s, e, m.shown[at])
		}
		if s := d.Sure(at); s != m.sure[at] {
			t.Fatalf("%s: Sure(%d): %.140q, not %.140q", name, at, s, m.sure[at])
		}
	}
}

// both does the same with a device and with what the chapter's words say of it.
type both struct {
	d *Device
	m *disk
}

func newBoth(t *testing.T, sectors int) both {
	t.Helper()
	return both{made(t, sectors), newDisk(sectors)}
}

func (b both) write(t *testing.T, at int, s string) {
	t.Helper()
	wantWrite(t, b.d, at, s, b.m.write(at, s))
}

func (b both) barrier() {
	b.d.Barrier()
	b.m.barrier()
}

func (b both) crash(choice []int) {
	b.d.Crash(choice)
	b.m.crash(choice)
}

func (b both) copied() both { return both{b.d.Copy(), b.m.copied()} }

// P10.1: of which numbers there are devices, and what stands on them.
func TestNew(t *testing.T) {
	for n := -600; n <= 5000; n++ {
		d := New(n)
		if n < 512 || n > 4096 {
			if d != nil {
				t.Errorf("New(%d): a device", n)
			}
			continue
		}
		if d == nil || d.Sectors() != n || d.Waiting() != 0 {
			t.Fatalf("New(%d): %d sectors, of which %d wait", n, d.Sectors(), d.Waiting())
		}
		for _, at := range []int{0, 1, n / 2, n - 1} {
			wantRead(t, d, at, noughts(128), api.OK)
			wantSure(t, d, at, noughts(128))
		}
		wantRead(t, d, n, "", api.ErrArg)
	}
	for _, n := range []int{math.MinInt, math.MinInt + 512, -1 << 32, 1 << 16, 1 << 32, 1<<32 + 512, math.MaxInt} {
		if New(n) != nil {
			t.Errorf("New(%d): a device", n)
		}
	}
	for _, n := range []int{512, 4096} {
		wantSame(t, "new", made(t, n), newDisk(n))
	}
}

// P10.1: two devices have nothing in common.
func TestNewOnesAreApart(t *testing.T) {
	a, b := newBoth(t, 512), newBoth(t, 512)
	a.write(t, 3, "ab")
	a.barrier()
	a.write(t, 4, "cd")
	b.write(t, 3, "x")
	wantSame(t, "a", a.d, a.m)
	wantSame(t, "b", b.d, b.m)
}

// P10.1: of nil, and of what neither New nor Copy made.
func TestNotMade(t *testing.T) {
	var value Device
	for i, d := range []*Device{nil, {}, new(Device), &value, New(511), New(4097), (*Device)(nil).Copy(), new(Device).Copy()} {
		for range 2 {
			for _, at := range manyPlaces(512) {
				for _, s := range []string{"", "x", letters(128), letters(129)} {
					wantWrite(t, d, at, s, api.ErrNil)
				}
				wantRead(t, d, at, "", api.ErrNil)
				wantSure(t, d, at, "")
			}
			for _, choice := range manyChoices() {
				d.Crash(choice)
			}
			d.Barrier()
			if d.Sectors() != 0 || d.Waiting() != 0 || d.Copy() != nil {
				t.Errorf("%d: %d sectors, of which %d wait", i, d.Sectors(), d.Waiting())
			}
		}
	}
}

// P10.2: at which places sectors are, ahead of barriers, and behind them.
func TestPlaces(t *testing.T) {
	for _, sectors := range []int{512, 513, 1000, 4095, 4096} {
		b := newBoth(t, sectors)
		for range 2 {
			for _, at := range manyPlaces(sectors) {
				there := at >= 0 && at < sectors
				want := api.ErrArg
				if there {
					want = api.OK
				}
				text := fmt.Sprint("at ", at)
				b.write(t, at, text)
				wantWrite(t, b.d, at, text, want)
				if there {
					wantRead(t, b.d, at, full(text), api.OK)
				} else {
					wantRead(t, b.d, at, "", api.ErrArg)
					wantSure(t, b.d, at, "")
				}
			}
			wantSame(t, "places", b.d, b.m)
			b.barrier()
		}
		wantSame(t, "places", b.d, b.m)
	}
}

// P10.2: texts of all lengths, on sectors that hold other ones.
func TestLengths(t *testing.T) {
	b := newBoth(t, 512)
	for _, ahead := range []string{"", letters(128)} {
		for n := range 300 {
			for _, at := range []int{0, 200, 511} {
				b.write(t, at, ahead)
				b.barrier()
				want := api.OK
				if n > 128 {
					want = api.ErrLong
				}
				wantWrite(t, b.d, at, others(n), want)
				b.write(t, at, others(n))
				if n <= 128 {
					wantRead(t, b.d, at, full(others(n)), api.OK)
					wantWaiting(t, b.d, 1)
				} else {
					wantRead(t, b.d, at, full(ahead), api.OK)
					wantWaiting(t, b.d, 0)
				}
				wantSure(t, b.d, at, full(ahead))
			}
		}
	}
	wantSame(t, "lengths", b.d, b.m)
	wantWrite(t, b.d, 0, letters(1<<16), api.ErrLong)
	wantWrite(t, b.d, 0, noughts(129), api.ErrLong)
	wantSame(t, "too long", b.d, b.m)
}

// P10.2: of several errors the one named first is told, and a sector that waits stays as it is.
func TestErrorsInOrder(t *testing.T) {
	b := newBoth(t, 512)
	b.write(t, 0, "old")
	b.barrier()
	b.write(t, 0, "new")
	b.write(t, 511, "other")
	for _, at := range []int{math.MinInt, -1, 512, math.MaxInt} {
		for _, n := range []int{0, 1, 128, 129, 1000} {
			wantWrite(t, b.d, at, letters(n), api.ErrArg)
		}
	}
	wantWrite(t, b.d, 0, letters(129), api.ErrLong)
	wantWrite(t, b.d, 511, letters(129), api.ErrLong)
	wantWrite(t, b.d, 1, letters(129), api.ErrLong)
	wantSame(t, "errors", b.d, b.m)
}

// P10.2: texts of all bytes, of 0 in front, within and behind, too.
func TestBytes(t *testing.T) {
	b := newBoth(t, 512)
	for i := range 256 {
		b.write(t, i, string([]byte{byte(i)})+letters(3)+string([]byte{byte(i), 0, 0xff, byte(i)}))
		b.write(t, 256+i, strings.Repeat(string([]byte{byte(i)}), 128))
	}
	wantSame(t, "waiting", b.d, b.m)
	b.barrier()
	wantSame(t, "sure", b.d, b.m)
}

// P10.2, P10.3: a sector is written again: with a shorter text, with the sure bytes, with bytes 0.
func TestWrittenAgain(t *testing.T) {
	texts := []string{"", "x", "old", "ol", "older", "\x00", "old\x00", letters(127), letters(128), noughts(128)}
	for _, sure := range texts {
		for _, first := range texts {
			for _, second := range texts {
				b := newBoth(t, 512)
				b.write(t, 7, sure)
				b.barrier()
				b.write(t, 7, first)
				wantWaiting(t, b.d, 1)
				wantRead(t, b.d, 7, full(first), api.OK)
				b.write(t, 7, second)
				wantWaiting(t, b.d, 1)
				wantRead(t, b.d, 7, full(second), api.OK)
				wantSure(t, b.d, 7, full(sure))

				lost := b.copied()
				lost.crash(nil)
				wantRead(t, lost.d, 7, full(sure), api.OK)
				b.barrier()
				wantWaiting(t, b.d, 0)
				wantRead(t, b.d, 7, full(second), api.OK)
				wantSure(t, b.d, 7, full(second))
			}
		}
	}
}

// P10.3: sectors that are made sure as bytes 0 again, one after the other.
func TestNoughtsAgain(t *testing.T) {
	b := newBoth(t, 512)
	for at := range 512 {
		b.write(t, at, letters(1+at%128))
	}
	b.barrier()
	for at := 0; at < 512; at += 3 {
		b.write(t, at, noughts(at%128))
	}
	wantSame(t, "waiting", b.d, b.m)
	b.crash([]int{128, 0, 5})
	wantSame(t, "torn", b.d, b.m)
	for at := range 512 {
		b.write(t, at, "")
	}
	b.barrier()
	wantSame(t, "sure", b.d, b.m)
	wantSame(t, "sure", b.d, newDisk(512))
}

// P10.3: how many wait, behind writes to one sector and to several, barriers and crashes.
func TestWaiting(t *testing.T) {
	d := made(t, 512)
	wantWaiting(t, d, 0)
	for i, at := range []int{9, 9, 3, 9, 511, 0, 3} {
		d.Write(at, "ab")
		wantWaiting(t, d, []int{1, 1, 2, 2, 3, 4, 4}[i])
	}
	d.Write(512, "ab")
	d.Write(4, letters(129))
	d.Read(4)
	d.Sure(5)
	wantWaiting(t, d, 4)
	d.Barrier()
	wantWaiting(t, d, 0)
	d.Write(9, "ab")
	wantWaiting(t, d, 1)
	d.Crash([]int{3})
	wantWaiting(t, d, 0)
	for at := range 512 {
		d.Write(at, "")
		wantWaiting(t, d, at+1)
	}
	d.Crash(nil)
	wantWaiting(t, d, 0)
	if d.Sectors() != 512 {
		t.Errorf("%d sectors", d.Sectors())
	}
}

// P10.3: what is sure, of sectors that wait, that do not, and that are none.
func TestSure(t *testing.T) {
	d := made(t, 512)
	d.Write(3, "old")
	wantSure(t, d, 3, noughts(128))
	d.Barrier()
	wantSure(t, d, 3, full("old"))
	d.Write(3, "new")
	d.Write(4, "x")
	wantSure(t, d, 3, full("old"))
	wantSure(t, d, 4, noughts(128))
	wantSure(t, d, 5, noughts(128))
	for _, at := range []int{math.MinInt, -1, 512, 4096, math.MaxInt} {
		wantSure(t, d, at, "")
	}
}

// P10.3: a barrier makes sure all that waits, and where nothing waits it does nothing.
func TestBarrier(t *testing.T) {
	b := newBoth(t, 512)
	b.barrier()
	wantSame(t, "new", b.d, b.m)
	for _, at := range []int{3, 511, 0, 3} {
		b.write(t, at, fmt.Sprint("sector ", at))
	}
	for range 3 {
		b.barrier()
		wantSame(t, "behind a barrier", b.d, b.m)
	}
	b.crash([]int{1})
	wantSame(t, "behind a crash of what does not wait", b.d, b.m)
	wantRead(t, b.d, 3, full("sector 3"), api.OK)
}

// P10.3, P10.4: a crash with each number, of a sector that held other bytes, and of one that held none.
func TestNumbers(t *testing.T) {
	for n := -400; n <= 400; n++ {
		kept := keptOf([]int{n}, 0)
		d := made(t, 512)
		d.Write(3, letters(128))
		d.Barrier()
		d.Write(3, others(128))
		d.Write(5, others(100))
		d.Crash([]int{n})
		want := others(kept) + letters(128)[kept:]
		wantRead(t, d, 3, want, api.OK)
		wantSure(t, d, 3, want)
		wantRead(t, d, 5, full(full(others(100))[:kept]), api.OK)
		wantWaiting(t, d, 0)
	}
}

// P10.3: the numbers at the edges, written out.
func TestNumbersWrittenOut(t *testing.T) {
	for _, x := range []struct{ n, kept int }{
		{0, 0}, {1, 1}, {2, 2}, {64, 64}, {127, 127}, {128, 128}, {129, 128}, {130, 0}, {131, 1}, {257, 127}, {258, 128}, {259, 128}, {260, 0},
		{-1, 128}, {-2, 128}, {-3, 127}, {-129, 1}, {-130, 0}, {-131, 128}, {-260, 0},
		{math.MaxInt32, 127}, {math.MinInt32, 2}, {math.MaxInt64, 7}, {math.MinInt64, 122},
	} {
		d := made(t, 512)
		d.Write(3, letters(128))
		d.Barrier()
		d.Write(3, others(128))
		d.Crash([]int{x.n})
		wantRead(t, d, 3, others(x.kept)+letters(128)[x.kept:], api.OK)
	}
}

// P10.3: which sector has which number, whatever the order in which they were written.
func TestOrderOfSectors(t *testing.T) {
	places := []int{2, 7, 64, 300, 511}
	for _, choice := range append(manyChoices(), []int{1, 2, 3, 4, 5}, []int{1, 2, 3, 4, 5, 6, 7}, []int{10, 20}, []int{-1, 0, 3}) {
		for _, order := range [][]int{{0, 1, 2, 3, 4}, {4, 3, 2, 1, 0}, {2, 0, 4, 1, 3}, {3, 3, 0, 4, 2, 1, 0}} {
			b := newBoth(t, 512)
			for _, at := range places {
				b.write(t, at, letters(128))
			}
			b.barrier()
			for _, i := range order {
				b.write(t, places[i], others(128-i))
			}
			b.crash(choice)
			for i, at := range places {
				n := keptOf(choice, i)
				wantRead(t, b.d, at, full(others(128 - i))[:n]+letters(128)[n:], api.OK)
			}
			wantSame(t, fmt.Sprint(choice, order), b.d, b.m)
		}
	}
}

// P10.3: sectors' numbers are counted among those that wait alone.
func TestNumbersOfThoseThatWait(t *testing.T) {
	d := made(t, 512)
	for at := range 10 {
		d.Write(at, letters(9))
	}
	d.Barrier()
	for _, at := range []int{8, 1, 4} {
		d.Write(at, others(9))
	}
	d.Crash([]int{1, 2, 3})
	for at, want := range []string{"abcdefghi", "Abcdefghi", "abcdefghi", "abcdefghi", "ABcdefghi", "abcdefghi", "abcdefghi", "abcdefghi", "ABCdefghi", "abcdefghi", ""} {
		wantRead(t, d, at, full(want), api.OK)
	}
}

// P10.3: a crash with all sectors waiting, and numbers that come again and again.
func TestAllWait(t *testing.T) {
	b := newBoth(t, 4096)
	for at := 4095; at >= 0; at-- {
		b.write(t, at, letters(at%129))
	}
	wantWaiting(t, b.d, 4096)
	b.crash([]int{0, 128, 3, -7, 129, 64, 131})
	wantSame(t, "all", b.d, b.m)
}

// P10.4: behind a crash each sector has its sure bytes, or the first ones of what it showed, and the others of these; sectors that did not wait stay.
func TestWhatACrashLeaves(t *testing.T) {
	for _, choice := range manyChoices() {
		d := made(t, 512)
		for at := range 40 {
			d.Write(at, fmt.Sprint("sure ", at))
		}
		d.Barrier()
		for at := 10; at < 60; at += 2 {
			d.Write(at, others(128))
		}
		ahead := d.Copy()
		d.Crash(choice)
		for at := range 512 {
			s, e := d.Read(at)
			sure := ahead.Sure(at)
			shown, _ := ahead.Read(at)
			is := false
			for n := range 129 {
				is = is || s == shown[:n]+sure[n:]
			}
			if waits := at >= 10 && at < 60 && at%2 == 0; e != api.OK || !is || !waits && s != sure {
				t.Errorf("%v: sector %d: %.140q, %d", choice, at, s, e)
			}
			wantSure(t, d, at, s)
		}
	}
}

// P10.4: a second crash does nothing.
func TestSecondCrash(t *testing.T) {
	for _, first := range manyChoices() {
		b := newBoth(t, 512)
		for _, at := range []int{300, 4, 9, 511} {
			b.write(t, at, letters(120))
		}
		b.crash(first)
		for _, second := range [][]int{nil, {128}, {3, 9}, first} {
			b.d.Crash(second)
			wantSame(t, fmt.Sprint(first, second), b.d, b.m)
		}
		b.write(t, 4, others(5))
		b.crash([]int{2})
		wantSame(t, fmt.Sprint(first, "and a write"), b.d, b.m)
	}
}

// P10.5: what is done with one sector makes no difference to another one.
func TestOneSectorAlone(t *testing.T) {
	for _, one := range []int{0, 1, 255, 510, 511} {
		b := newBoth(t, 512)
		for at := range 512 {
			b.write(t, at, fmt.Sprint("sector ", at))
		}
		b.barrier()
		for at := 1; at < 512; at += 5 {
			b.write(t, at, fmt.Sprint("again ", at))
		}
		wantSame(t, "ahead", b.d, b.m)
		b.write(t, one, others(128))
		wantSame(t, "written", b.d, b.m)
		b.write(t, one, "")
		wantSame(t, "written again", b.d, b.m)
		b.d.Read(one)
		b.d.Sure(one)
		wantSame(t, "read", b.d, b.m)
	}
}

// P10.3, P10.5: a copy is the same, and what is done with either makes no difference to the other.
func TestCopy(t *testing.T) {
	start := newBoth(t, 600)
	for _, at := range []int{5, 6, 7, 599} {
		start.write(t, at, letters(100))
	}
	start.barrier()
	start.write(t, 6, others(50))
	start.write(t, 8, others(60))
	wantSame(t, "the copy", start.d.Copy(), start.m)

	deeds := []func(b both){
		func(b both) { b.write(t, 6, "again"); b.write(t, 9, "new"); b.write(t, 5, "") },
		func(b both) { b.barrier() },
		func(b both) { b.crash([]int{3, 128}) },
		func(b both) { b.crash(nil); b.write(t, 6, "x"); b.barrier(); b.write(t, 6, "y") },
		func(b both) { b.write(t, 7, "z"); b.crash([]int{-1}); b.write(t, 8, "") },
	}
	for i, one := range deeds {
		for j, other := range deeds {
			a := start.copied()
			b := a.copied()
			one(a)
			wantSame(t, fmt.Sprint("copied from, behind ", i), a.d, a.m)
			wantSame(t, fmt.Sprint("copy, behind the other's ", i), b.d, b.m)
			other(b)
			wantSame(t, fmt.Sprint("copied from, behind the other's ", j), a.d, a.m)
			wantSame(t, fmt.Sprint("copy, behind ", j), b.d, b.m)
		}
	}
	wantSame(t, "at last", start.d, start.m)
}

// P10.3: a copy of a device on which nothing was done.
func TestCopyOfANewOne(t *testing.T) {
	a := newBoth(t, 512)
	b := a.copied()
	b.write(t, 0, "x")
	b.barrier()
	b.write(t, 1, "y")
	wantSame(t, "copied from", a.d, a.m)
	wantSame(t, "copy", b.d, b.m)
}

// P10.6: a list that is handed to Crash is as it was, and makes no difference any more.
func TestListsStay(t *testing.T) {
	for _, list := range manyChoices() {
		whole := append(slices.Clone(list), 11, 12, 13)
		was := slices.Clone(whole)
		choice := whole[:len(list)]
		b := newBoth(t, 512)
		for at := range 20 {
			b.write(t, at*25, letters(128))
		}
		b.crash(choice)
		if !slices.Equal(whole, was) || len(choice) != len(list) {
			t.Errorf("%v: %v", was, whole)
		}
		for i := range whole {
			whole[i] = 77
		}
		wantSame(t, fmt.Sprint(was), b.d, b.m)
		b.write(t, 3, others(9))
		b.crash([]int{4})
		wantSame(t, fmt.Sprint(was, "and a crash"), b.d, b.m)
	}
}

// randomChoice is a list of some numbers, most of them from 0 to 129.
func randomChoice(r *rand.Rand) []int {
	list := make([]int, r.Intn(6))
	for i := range list {
		list[i] = r.Intn(130)
		if r.Intn(4) == 0 {
			list[i] = int(r.Uint64())
		}
	}
	return list
}

// P10.5: many calls, on devices and copies of them, held against what the chapter's words say.
func TestManyCalls(t *testing.T) {
	for seed := range int64(40) {
		r := rand.New(rand.NewSource(seed))
		all := []both{newBoth(t, 512+r.Intn(200))}
		for step := range 600 {
			b := all[r.Intn(len(all))]
			at := r.Intn(len(b.m.sure)+2) - 1
			if r.Intn(2) == 0 {
				at = r.Intn(12)
			}
			switch n := r.Intn(40); {
			case n == 0:
				b.barrier()
			case n == 1:
				b.crash(randomChoice(r))
			case n == 2 && len(all) < 4:
				all = append(all, b.copied())
			case n < 6:
				b.write(t, at, noughts(r.Intn(130)))
			case n < 9 && at >= 0 && at < len(b.m.sure):
				b.write(t, at, b.m.sure[at])
			default:
				b.write(t, at, letters(200)[r.Intn(20):][:r.Intn(131)])
			}
			if step%50 == 49 {
				for i, one := range all {
					wantSame(t, fmt.Sprint("run ", seed, ", step ", step, ", device ", i), one.d, one.m)
				}
			}
		}
	}
}

// P10.6: a panic anywhere here would end the test.
func TestNothingPanics(t *testing.T) {
	edges := append(manyPlaces(512), 511, 4097)
	for _, n := range edges {
		d := New(n)
		for _, at := range edges {
			for _, size := range []int{0, 1, 128, 129, 1 << 16} {
				d.Write(at, letters(size))
			}
			d.Read(at)
			d.Sure(at)
			c := d.Copy()
			for _, choice := range append(manyChoices(), []int{n, at}) {
				c.Crash(choice)
				c.Write(at, "x")
			}
			c.Barrier()
			c.Waiting()
			c.Sectors()
		}
	}
}

// The chapter's examples.
func TestExamples(t *testing.T) {
	d := made(t, 512)
	wantWrite(t, d, 3, "ab", api.OK)
	wantRead(t, d, 3, full("ab"), api.OK)
	wantSure(t, d, 3, noughts(128))
	wantWaiting(t, d, 1)

	for _, x := range []struct {
		choice []int
		want   string
	}{{[]int{1}, "a"}, {[]int{-1}, "ab"}, {nil, ""}} {
		c := d.Copy()
		c.Crash(x.choice)
		wantRead(t, c, 3, full(x.want), api.OK)
	}

	wantWrite(t, d, 512, "x", api.ErrArg)
	wantWrite(t, d, -1, "x", api.ErrArg)
	wantWrite(t, d, 0, letters(129), api.ErrLong)
	wantRead(t, d, 512, "", api.ErrArg)
	if New(511) != nil || New(4097) != nil {
		t.Errorf("New(511), New(4097): devices")
	}
}
