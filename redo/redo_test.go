package redo

import (
	"encoding/binary"
	"fmt"
	"math"
	"math/rand"
	"slices"
	"strings"
	"testing"

	"rillbed/api"
	"rillbed/device"
	"rillbed/fuse"
)

func noughts(n int) string { return strings.Repeat("\x00", n) }

// stamped is how the chapter of the stamps says that a text stands stamped, in 128 bytes.
func stamped(gen uint64, index uint32, own string) string {
	b := binary.BigEndian.AppendUint64(nil, gen)
	b = binary.BigEndian.AppendUint32(b, index)
	b = binary.BigEndian.AppendUint16(b, uint16(len(own)))
	b = append(b, own...)
	b = append(b, make([]byte, 128-26-len(own))...)
	b = binary.BigEndian.AppendUint32(b, index)
	return string(binary.BigEndian.AppendUint64(b, gen))
}

// unstamped is what a sector of 128 bytes tells, if it is stamped.
func unstamped(sector string) (gen uint64, index uint32, own string, is bool) {
	n := int(sector[12])<<8 | int(sector[13])
	if n > 102 {
		return 0, 0, "", false
	}
	gen, index, own = binary.BigEndian.Uint64([]byte(sector[:8])), binary.BigEndian.Uint32([]byte(sector[8:12])), sector[14:14+n]
	if stamped(gen, index, own) != sector {
		return 0, 0, "", false
	}
	return gen, index, own, true
}

// cut is a record's pieces' texts: all but the last one have 101 bytes, and that one has what is left.
func cut(record string) []string {
	var out []string
	for at := 0; at+101 < len(record); at += 101 {
		out = append(out, "\x00"+record[at:at+101])
	}
	return append(out, "\x01"+record[101*len(out):])
}

// says is what the chapter's words say of 64 sectors: the records of a generation, and whether its log is fresh.
func says(sectors []string, gen uint64) (records []string, fresh bool) {
	fresh = true
	var own []string
	for number, sector := range sectors {
		g, index, text, is := unstamped(sector)
		if !is || g != gen {
			continue
		}
		fresh = false
		last := text != "" && text[0] == 1 && len(text) <= 102
		other := text != "" && text[0] == 0 && len(text) == 102
		if len(own) == number && int64(index) == int64(number) && (last || other) {
			own = append(own, text)
		}
	}
	from := 0
	for i, text := range own {
		if text[0] != 1 {
			continue
		}
		record := ""
		for _, piece := range own[from : i+1] {
			record += piece[1:]
		}
		records, from = append(records, record), i+1
	}
	return records, fresh
}

// text is a record of n bytes that are unlike, and hang on a seed.
func text(n, seed int) string {
	b := make([]byte, n)
	for i := range b {
		b[i] = byte(i*7 + i/101 + seed*31)
	}
	return string(b)
}

// gens are generations whose bytes are unlike, those at which bytes are carried, and those at the edges.
func gens() []uint64 {
	return []uint64{1, 2, 3, 254, 255, 256, 257, 65535, 65536, 1<<32 - 1, 1 << 32, 0x0102030405060708, 1 << 63, math.MaxUint64 - 1, math.MaxUint64}
}

// disk is what can be seen of a device, about where its log stands, and of a line to it.
type disk struct {
	shown, sure []string
	waiting     int
	acts        int
	down        bool
}

func look(f *fuse.Fuse) disk {
	d := f.Device()
	out := disk{waiting: d.Waiting(), acts: f.Count(), down: f.Down()}
	for at := range 70 {
		s, _ := d.Read(at)
		out.shown, out.sure = append(out.shown, s), append(out.sure, d.Sure(at))
	}
	return out
}

func (a disk) same(b disk) bool {
	return slices.Equal(a.shown, b.shown) && slices.Equal(a.sure, b.sure) && a.waiting == b.waiting && a.acts == b.acts && a.down == b.down
}

func wantSame(t *testing.T, what string, f *fuse.Fuse, want disk) {
	t.Helper()
	if !look(f).same(want) {
		t.Errorf("%s: the device, or its line, is another one than it ought to be", what)
	}
}

func wantErr(t *testing.T, what string, got, want api.Errno) {
	t.Helper()
	if got != want {
		t.Errorf("%s: %d, not %d", what, got, want)
	}
}

func wantUsed(t *testing.T, what string, l *Log, used int, fresh bool) {
	t.Helper()
	if l.Used() != used || l.Fresh() != fresh {
		t.Errorf("%s: %d used, fresh %v; not %d, %v", what, l.Used(), l.Fresh(), used, fresh)
	}
}

// wantNone: with an error there is neither a log nor a record.
func wantNone(t *testing.T, what string, f *fuse.Fuse, gen uint64, want api.Errno) {
	t.Helper()
	if l, records, e := Open(f, gen); l != nil || len(records) != 0 || e != want {
		t.Errorf("Open(%d) %s: %v, %q, %d; not %d", gen, what, l, records, e, want)
	}
}

// wantOpen: the log, the records and freshness that are wanted; nothing is done to the device, nor asked of it but to tell.
func wantOpen(t *testing.T, what string, f *fuse.Fuse, gen uint64, records []string, fresh bool) *Log {
	t.Helper()
	before := look(f)
	l, got, e := Open(f, gen)
	if l == nil || e != api.OK || !slices.Equal(got, records) {
		t.Fatalf("Open(%d) %s: %q, %d; not %q", gen, what, got, e, records)
	}
	used := 64
	if fresh {
		used = 0
	}
	wantUsed(t, fmt.Sprintf("Open(%d) %s", gen, what), l, used, fresh)
	wantSame(t, fmt.Sprintf("Open(%d) %s", gen, what), f, before)
	return l
}

// wantSays: Open tells what the model says of the sectors that the device shows.
func wantSays(t *testing.T, what string, f *fuse.Fuse, gen uint64) (*Log, []string) {
	t.Helper()
	records, fresh := says(logOf(f.Device()), gen)
	return wantOpen(t, what, f, gen, records, fresh), records
}

func logOf(d *device.Device) []string {
	var out []string
	for at := 2; at < 66; at++ {
		s, _ := d.Read(at)
		out = append(out, s)
	}
	return out
}

// lineTo is a line that is never cut, to a new device with these as its log's first sectors, and what is like a log's on both sides of it; all is sure.
func lineTo(sectors ...string) *fuse.Fuse {
	d := device.New(512)
	for number, s := range sectors {
		d.Write(2+number, s)
	}
	for _, at := range []int{0, 1, 66, 67} {
		d.Write(at, stamped(1, uint32(at-2), "\x01beside"))
	}
	d.Barrier()
	return fuse.New(d, -1, nil)
}

// written is the sectors of records, as they ought to stand.
func written(gen uint64, records ...string) []string {
	var out []string
	for _, record := range records {
		for _, own := range cut(record) {
			out = append(out, stamped(gen, uint32(len(out)), own))
		}
	}
	return out
}

// P15.1
func TestOpenOfGenerations(t *testing.T) {
	records := []string{"ab", "", text(101, 1), text(102, 2), text(300, 3)}
	for _, gen := range gens() {
		wantOpen(t, "of a new device", lineTo(), gen, nil, true)
		f := lineTo(written(gen, records...)...)
		wantOpen(t, "of what was written", f, gen, records, false)
		for _, other := range gens() {
			if other != gen {
				wantOpen(t, "of another one", f, other, nil, true)
			}
		}
		wantNone(t, "of what was written", f, 0, api.ErrArg)
	}
}

// P15.1: that there is no generation 0 is told ahead of the line's errors, though all noughts bear it.
func TestOpenOfGenerationNought(t *testing.T) {
	blown := lineTo()
	blown.Blow()
	for _, f := range []*fuse.Fuse{lineTo(), lineTo(written(0, "a", "b")...), nil, {}, fuse.New(&device.Device{}, -1, nil), blown} {
		wantNone(t, "of any line", f, 0, api.ErrArg)
	}
}

// P15.1, P15.5: lines that are none, or to no device, or cut.
func TestLinesThatAreNone(t *testing.T) {
	blown := lineTo(written(1, "ab")...)
	blown.Blow()
	for _, c := range []struct {
		f    *fuse.Fuse
		want api.Errno
	}{
		{nil, api.ErrNil}, {&fuse.Fuse{}, api.ErrNil}, {fuse.New(nil, -1, nil), api.ErrNil}, {fuse.New(&device.Device{}, -1, nil), api.ErrNil}, {blown, api.ErrDown},
	} {
		for _, gen := range gens() {
			wantNone(t, "of such a line", c.f, gen, c.want)
		}
		wantErr(t, "Wipe", Wipe(c.f), c.want)
	}
}

// P15.1, P15.5: all the log's sectors are told, in order, up to the first error of telling or of hearing.
func TestEachSector(t *testing.T) {
	const none = 1000
	for failing := range 130 {
		var asked, heard []int
		read := func(at int) (string, api.Errno) {
			asked = append(asked, at)
			if len(asked) == failing+1 {
				return "", api.ErrDown
			}
			return fmt.Sprint("sector ", at), api.OK
		}
		refuse := none
		if failing > 64 {
			refuse = failing - 65
		}
		hear := func(number int, sector string) api.Errno {
			heard = append(heard, number)
			if sector != fmt.Sprint("sector ", number+2) {
				t.Errorf("sector %d: %s", number, sector)
			}
			if number == refuse {
				return api.ErrSum
			}
			return api.OK
		}
		want, asks, hears := api.OK, 64, 64
		switch {
		case failing < 64:
			want, asks, hears = api.ErrDown, failing+1, failing
		case refuse < 64:
			want, asks, hears = api.ErrSum, refuse+1, refuse+1
		}
		wantErr(t, fmt.Sprint("failing at ", failing), eachSector(read, hear), want)
		if len(asked) != asks || len(heard) != hears {
			t.Errorf("failing at %d: %d asked, %d heard; not %d, %d", failing, len(asked), len(heard), asks, hears)
		}
		for i, at := range asked {
			if at != 2+i || i < len(heard) && heard[i] != i {
				t.Errorf("failing at %d: asked %v, heard %v", failing, asked, heard)
			}
		}
	}
}

// P15.1: one sector alone bears the generation, at each place: only the first one can say something, but none of them leaves the log fresh.
func TestOpenOfOneSector(t *testing.T) {
	for at := range 64 {
		for _, index := range []uint32{0, 1, uint32(at), uint32(at) + 1, 63, 64, uint32(at) + 256, uint32(at) | 1<<31, math.MaxUint32} {
			sectors := make([]string, 64)
			sectors[at] = stamped(7, index, "\x01x")
			var want []string
			if at == 0 && index == 0 {
				want = []string{"x"}
			}
			wantOpen(t, fmt.Sprintf("of sector %d with index %d", at, index), lineTo(sectors...), 7, want, false)
		}
	}
}

// P15.1: what begins a sector's own text, and how much stands behind it: as the first sector, and in the midst of records.
func TestOpenOfOwnTexts(t *testing.T) {
	for n := range 103 {
		for mark := range 256 {
			own := ""
			if n > 0 {
				own = string([]byte{byte(mark)}) + text(n-1, mark)
			}
			last, other := n > 0 && mark == 1, n == 102 && mark == 0
			for ahead := range 3 {
				sectors := append(written(9, []string{"one", "two"}[:min(ahead, 2)]...), stamped(9, uint32(ahead), own), stamped(9, uint32(ahead)+1, "\x01more"), stamped(9, uint32(ahead)+2, "\x01yet"))
				want := []string{"one", "two"}[:ahead:ahead]
				switch {
				case last:
					want = append(want, own[1:], "more", "yet")
				case other:
					want = append(want, own[1:]+"more", "yet")
				}
				if mark < 4 || mark > 253 || n > 100 {
					wantOpen(t, fmt.Sprintf("of a text of %d bytes, that begins with %d, behind %d", n, mark, ahead), lineTo(sectors...), 9, want, false)
				}
			}
		}
	}
}

// P15.1: a length that no sector has room for is of nothing that is stamped: it bears no generation, so such a log is fresh, and what stands behind it says nothing.
func TestOpenOfTooLongTexts(t *testing.T) {
	for _, mark := range []string{"\x00", "\x01", "\x02"} {
		for _, length := range []string{"\x00\x67", "\x00\x68", "\x01\x00", "\xff\xff"} {
			whole := stamped(3, 0, mark+text(101, 1))
			bad := whole[:12] + length + whole[14:]
			wantOpen(t, "of a length that is too great", lineTo(bad), 3, nil, true)
			wantOpen(t, "of a length that is too great, and more", lineTo(bad, stamped(3, 1, "\x01x")), 3, nil, false)
		}
	}
}

// P15.1: a sector of another generation, another index, or torn, at each place in the midst of records: what stands ahead of it is said, if its last piece is there.
func TestOpenOfGaps(t *testing.T) {
	records := []string{"a", text(250, 1), "", text(101, 2), text(202, 3), text(5000, 4), "b", text(102, 5)}
	whole := written(5, records...)
	first := map[int]int{0: 0}
	for i, record := range records {
		first[i+1] = first[i] + len(cut(record))
	}
	if len(whole) != first[len(records)] || len(whole) != 61 {
		t.Fatalf("the test's own: %d sectors", len(whole))
	}
	for at := range whole {
		_, index, own, _ := unstamped(whole[at])
		for _, bad := range []string{stamped(4, index, own), stamped(6, index, own), stamped(5, index+1, own), stamped(5, index+64, own), stamped(0, 0, ""), whole[at][:127] + "\x01", whole[at][:60], noughts(128)} {
			sectors := slices.Clone(whole)
			sectors[at] = bad
			n := 0
			for n < len(records) && first[n+1] <= at {
				n++
			}
			_, fresh := says(slices.Concat(sectors[:at], []string{noughts(128)}, sectors[at+1:]), 5)
			wantOpen(t, fmt.Sprintf("of a log that lacks sector %d", at), lineTo(sectors...), 5, records[:n], fresh)
		}
		n := 0
		for n < len(records) && first[n+1] <= at {
			n++
		}
		wantOpen(t, fmt.Sprintf("of a log's first %d sectors", at), lineTo(whole[:at]...), 5, records[:n], at == 0)
	}
	wantOpen(t, "of the whole log", lineTo(whole...), 5, records, false)
}

// P15.1: all 64 sectors say something, and those on both sides of them nothing.
func TestOpenOfFullLogs(t *testing.T) {
	beside := func(f *fuse.Fuse) *fuse.Fuse {
		d := f.Device()
		for i, at := range []int{0, 1, 66, 67} {
			d.Write(at, stamped(8, []uint32{math.MaxUint32 - 1, math.MaxUint32, 64, 65}[i], "\x01no"))
		}
		d.Barrier()
		return f
	}
	long := text(6464, 1)
	wantOpen(t, "of a long record", beside(lineTo(written(8, long)...)), 8, []string{long}, false)
	many := make([]string, 64)
	for i := range many {
		many[i] = text(i, i)
	}
	wantOpen(t, "of 64 records", beside(lineTo(written(8, many...)...)), 8, many, false)
	wantOpen(t, "of records and a piece", beside(lineTo(append(written(8, many[:63]...), stamped(8, 63, "\x00"+text(101, 1)))...)), 8, many[:63], false)
	wantOpen(t, "of none", beside(lineTo()), 8, nil, true)
}

// P15.1: a piece that is a last one, and has no bytes, ends a record that others began.
func TestOpenOfEmptyLastPieces(t *testing.T) {
	f := lineTo(stamped(2, 0, "\x00"+text(101, 1)), stamped(2, 1, "\x01"), stamped(2, 2, "\x01"), stamped(2, 3, "\x01z"))
	wantOpen(t, "of an empty last piece", f, 2, []string{text(101, 1), "", "z"}, false)
}

// P15.1: of any sectors Open tells what the chapter's words say.
func TestOpenOfAnySectors(t *testing.T) {
	r := rand.New(rand.NewSource(1))
	gaps, many, fresh := 0, 0, 0
	for range 1500 {
		n, spoilt := r.Intn(65), r.Intn(4)
		sectors := make([]string, n)
		for i := range sectors {
			own := []string{"\x01" + text(r.Intn(102), i), "\x00" + text(101, i)}[r.Intn(2)]
			gen, index := uint64(3), uint32(i)
			if r.Intn(12) < spoilt {
				switch r.Intn(5) {
				case 0:
					gen = uint64(r.Intn(6))
				case 1:
					index = uint32(r.Intn(66))
				case 2:
					own = own[:r.Intn(len(own)+1)]
				case 3:
					own = string([]byte{byte(r.Intn(4))}) + own[1:]
				}
			}
			sectors[i] = stamped(gen, index, own)
			if r.Intn(40) < spoilt {
				k := r.Intn(129)
				sectors[i] = sectors[i][:k] + stamped(4, index, own)[k:]
			}
		}
		f := lineTo(sectors...)
		for _, gen := range []uint64{3, 4, 1} {
			l, records := wantSays(t, "of any sectors", f, gen)
			if l.Fresh() {
				fresh++
			} else if len(records) == 0 {
				gaps++
			} else {
				many++
			}
		}
	}
	if gaps < 100 || many < 100 || fresh < 100 {
		t.Errorf("the test's own: %d, %d, %d", gaps, many, fresh)
	}
}

// twin is a log as the chapter's words tell it, on a device of its own, and beside it the one that is held against it.
type twin struct {
	log     *Log
	f, own  *fuse.Fuse
	gen     uint64
	used    int
	fresh   bool
	failed  bool
	records []string // that were appended, OK
	synced  int      // how many of them were so ahead of the last Sync that was OK
	cutOff  []string // at most one, that was told an error of the line
}

// newTwin has the log of a generation of two devices that are alike.
func newTwin(t *testing.T, d *device.Device, gen uint64, at int, choice []int) *twin {
	t.Helper()
	w := &twin{f: fuse.New(d, at, choice), own: fuse.New(d.Copy(), at, choice), gen: gen}
	w.log, _ = wantSays(t, "ahead of a run", w.f, gen)
	_, w.fresh = says(logOf(w.own.Device()), gen)
	if !w.fresh {
		w.used = 64
	}
	return w
}

func (w *twin) check(t *testing.T, what string) {
	t.Helper()
	wantUsed(t, what, w.log, w.used, w.fresh)
	wantSame(t, what, w.f, look(w.own))
}

func (w *twin) append(t *testing.T, record string) api.Errno {
	t.Helper()
	want := w.appendOwn(record)
	what := fmt.Sprintf("Append of %d bytes", len(record))
	wantErr(t, what, w.log.Append(record), want)
	w.check(t, what)
	return want
}

func (w *twin) appendOwn(record string) api.Errno {
	own := cut(record)
	switch {
	case !w.fresh || w.failed:
		return api.ErrState
	case w.used+len(own) > 64:
		return api.ErrFull
	}
	for i, piece := range own {
		number := w.used + i
		if e := w.own.Write(2+number, stamped(w.gen, uint32(number), piece)); e != api.OK {
			w.failed, w.cutOff = true, []string{record}
			return e
		}
	}
	w.used += len(own)
	w.records = append(w.records, record)
	return api.OK
}

func (w *twin) sync(t *testing.T) api.Errno {
	t.Helper()
	want := api.ErrState
	if w.fresh && !w.failed {
		want = w.own.Barrier()
		w.failed = want != api.OK
	}
	if want == api.OK {
		w.synced = len(w.records)
	}
	wantErr(t, "Sync", w.log.Sync(), want)
	w.check(t, "Sync")
	return want
}

func (w *twin) fits(t *testing.T, n int) {
	t.Helper()
	want := w.fresh && !w.failed && n <= 101*(64-w.used) && w.used < 64
	if got := w.log.Fits(n); got != want {
		t.Errorf("Fits(%d) with %d used: %v", n, w.used, got)
	}
	w.check(t, "Fits")
}

// mayBe: are those the first ones of the records, as many as were synced at least, and at most one more than all, which was told an error?
func (w *twin) mayBe(records []string) bool {
	all := append(slices.Clone(w.records), w.cutOff...)
	return len(records) >= w.synced && len(records) <= len(all) && slices.Equal(records, all[:len(records)])
}

// sizes are numbers of bytes at whose edges a piece more is needed, and such as no log has room for.
func sizes() []int {
	return []int{0, 1, 2, 50, 99, 100, 101, 102, 103, 200, 201, 202, 203, 204, 302, 303, 304, 404, 1000, 3232, 6362, 6363, 6364, 6463, 6464, 6465, 6466, 6565, 7000, 13000}
}

// P15.2
func TestAppend(t *testing.T) {
	for _, gen := range gens() {
		for _, n := range sizes() {
			w := newTwin(t, device.New(512), gen, -1, nil)
			w.append(t, text(n, 1))
			w.append(t, "behind")
			w.sync(t)
			w.append(t, "")
			l, records := wantSays(t, "behind Appends", w.f, gen)
			if l.Fresh() || !slices.Equal(records, w.records) || !w.mayBe(records) {
				t.Errorf("Append of %d bytes: %d records", n, len(records))
			}
		}
	}
}

// P15.2: with each number of sectors used: as many bytes as fit, one more, and less.
func TestAppendOfAllThatFits(t *testing.T) {
	for used := range 65 {
		for _, off := range []int{-102, -101, -100, -1, 0, 1, 100, 101, 102} {
			n := 101*(64-used) + off
			if n < 0 {
				continue
			}
			w := newTwin(t, device.New(512), 3, -1, nil)
			for i := range used {
				w.append(t, text(i, i))
			}
			w.fits(t, n)
			full := off > 0 || used == 64
			want := api.OK
			if full {
				want = api.ErrFull
			}
			wantErr(t, fmt.Sprintf("%d bytes, %d used", n, used), w.append(t, text(n, 9)), want)
			if full && used < 64 {
				w.fits(t, n-off)
				wantErr(t, "less, behind what is refused", w.append(t, text(n-off, 9)), api.OK)
			}
			w.append(t, "")
			wantErr(t, "Sync", w.sync(t), api.OK)
			if _, records := wantSays(t, "behind Appends", w.f, 3); !slices.Equal(records, w.records) {
				t.Errorf("%d bytes, %d used: %d records", n, used, len(records))
			}
		}
	}
}

// P15.2: a record's bytes are of any kind, those of the marks too.
func TestAppendOfAnyBytes(t *testing.T) {
	w := newTwin(t, device.New(4096), 3, -1, nil)
	for b := range 32 {
		w.append(t, strings.Repeat(string([]byte{byte(b * 8)}), b))
	}
	for _, record := range []string{"\x00", "\x01", noughts(101), noughts(102), strings.Repeat("\x01", 102), strings.Repeat("\xff", 203), stamped(3, 39, "\x01x"), "\xc3\x28"} {
		w.append(t, record)
	}
	if _, records := wantSays(t, "behind Appends", w.f, 3); len(records) != 40 || !slices.Equal(records, w.records) {
		t.Errorf("%d records", len(records))
	}
}

// numbers are such as may be asked whether they fit.
func numbers() []int {
	out := []int{math.MinInt, math.MinInt + 1, -1000, -102, -101, -100, -2, -1, 1 << 31, 1 << 32, 1<<32 + 1, math.MaxInt - 101, math.MaxInt - 100, math.MaxInt - 1, math.MaxInt}
	return append(out, sizes()...)
}

// P15.2: with each number of sectors used.
func TestFits(t *testing.T) {
	w := newTwin(t, device.New(512), 3, -1, nil)
	for used := range 65 {
		for _, n := range numbers() {
			w.fits(t, n)
		}
		for n := 101*(64-used) - 102; n <= 101*(64-used)+102; n++ {
			w.fits(t, n)
		}
		w.append(t, "x")
	}
	wantUsed(t, "a full log", w.log, 64, true)
	wantErr(t, "Sync of a full log", w.sync(t), api.OK)
	w.append(t, "")
}

// P15.2: all of a log that is not fresh, in all sizes: nothing is done.
func TestNotFresh(t *testing.T) {
	for _, sectors := range [][]string{written(3, "ab"), {noughts(128), stamped(3, 1, "\x01x")}, {stamped(3, 9, "")}, written(3, text(6464, 1))} {
		w := newTwin(t, lineTo(sectors...).Device(), 3, -1, nil)
		if w.fresh {
			t.Fatal("the test's own")
		}
		for _, n := range numbers() {
			w.fits(t, n)
		}
		for _, n := range sizes() {
			wantErr(t, "Append to what is not fresh", w.append(t, text(n, 1)), api.ErrState)
			wantErr(t, "Sync of what is not fresh", w.sync(t), api.ErrState)
		}
		blown := newTwin(t, lineTo(sectors...).Device(), 3, -1, nil)
		blown.f.Blow()
		blown.own.Blow()
		wantErr(t, "Append to what is not fresh, with a blown line", blown.append(t, "a"), api.ErrState)
		wantErr(t, "Sync of what is not fresh, with a blown line", blown.sync(t), api.ErrState)
	}
}

// P15.2: a line that is cut ahead of a call, or at each of its acts; behind that all is ErrState, and what is used stays.
func TestFailed(t *testing.T) {
	for at := range 70 {
		for _, choice := range [][]int{nil, {0}, {1}, {128}, {129}, {127, 0, 128}} {
			w := newTwin(t, device.New(512), 3, at, choice)
			for _, n := range []int{5, 203, 0, 101} {
				w.append(t, text(n, at))
			}
			w.sync(t)
			w.append(t, text(5000, at))
			w.sync(t)
			w.fits(t, 1)
			w.sync(t)
			w.append(t, "more")
			w.fits(t, 0)
			wantErr(t, "too much, behind all", w.append(t, text(6464, 1)), map[bool]api.Errno{true: api.ErrState, false: api.ErrFull}[w.failed])
			if w.failed == (at > 59) {
				t.Fatalf("the test's own: cut at %d: %v", at, w.failed)
			}
		}
	}
}

// P15.2: a line that is blown between calls: what can be told without it is told ahead of that.
func TestBlown(t *testing.T) {
	for _, appends := range []bool{true, false} {
		w := newTwin(t, device.New(512), 3, -1, nil)
		w.append(t, "ab")
		w.f.Blow()
		w.own.Blow()
		for _, n := range numbers() {
			w.fits(t, n)
		}
		wantErr(t, "Append of too much", w.append(t, text(6364, 1)), api.ErrFull)
		w.fits(t, 6363)
		if appends {
			wantErr(t, "Append", w.append(t, "cd"), api.ErrDown)
		} else {
			wantErr(t, "Sync", w.sync(t), api.ErrDown)
		}
		for range 2 {
			wantErr(t, "Append again", w.append(t, "cd"), api.ErrState)
			wantErr(t, "Append of too much", w.append(t, text(6364, 1)), api.ErrState)
			wantErr(t, "Sync again", w.sync(t), api.ErrState)
			w.fits(t, 0)
		}
		wantUsed(t, "behind errors", w.log, 1, true)
	}
}

// P15.2
func TestNotMade(t *testing.T) {
	for _, l := range []*Log{nil, {}} {
		for _, n := range sizes() {
			wantErr(t, "Append", l.Append(text(n, 1)), api.ErrNil)
		}
		wantErr(t, "Sync", l.Sync(), api.ErrNil)
		for _, n := range numbers() {
			if l.Fits(n) {
				t.Errorf("Fits(%d)", n)
			}
		}
		wantUsed(t, "no log", l, 0, false)
	}
}

// P15.2: two logs of one line, of one generation or of two: each knows its own.
func TestTwoLogs(t *testing.T) {
	f := lineTo()
	a := wantOpen(t, "first", f, 3, nil, true)
	b := wantOpen(t, "second", f, 3, nil, true)
	c := wantOpen(t, "another one's", f, 4, nil, true)
	wantErr(t, "Append", a.Append("a"), api.OK)
	wantErr(t, "Append", a.Append("b"), api.OK)
	wantUsed(t, "one", a, 2, true)
	wantUsed(t, "the other", b, 0, true)
	wantErr(t, "Append", b.Append("c"), api.OK)
	wantOpen(t, "of both", f, 3, []string{"c", "b"}, false)
	wantErr(t, "Append", c.Append("d"), api.OK)
	wantOpen(t, "of the second", f, 3, nil, false)
	wantOpen(t, "of another one's", f, 4, []string{"d"}, false)
	f.Blow()
	wantErr(t, "Append", a.Append("e"), api.ErrDown)
	wantErr(t, "Append", a.Append("e"), api.ErrState)
	wantErr(t, "Sync", b.Sync(), api.ErrDown)
	wantErr(t, "Sync", b.Sync(), api.ErrState)
	wantUsed(t, "one", a, 2, true)
}

// anyRecord has mostly few bytes, but may need many pieces.
func anyRecord(r *rand.Rand) string {
	n := r.Intn(40)
	switch r.Intn(4) {
	case 0:
		n = sizes()[r.Intn(len(sizes())-12)]
	case 1:
		n = r.Intn(700)
	}
	b := make([]byte, n)
	r.Read(b)
	return string(b)
}

// anyChoice keeps all now and then: only then may a record come whole that was told an error.
func anyChoice(r *rand.Rand) []int {
	if r.Intn(3) == 0 {
		return []int{129 - r.Intn(2)}
	}
	out := make([]int, r.Intn(5))
	for i := range out {
		out[i] = []int{0, 128, 127, 126, 1, r.Intn(130), r.Intn(130), -r.Intn(300)}[r.Intn(8)]
	}
	return out
}

// run does with a log what a file system may do, until it is full or fails.
func (w *twin) run(t *testing.T, r *rand.Rand) {
	t.Helper()
	for range 5 + r.Intn(40) {
		switch r.Intn(6) {
		case 0:
			w.sync(t)
		case 1:
			w.fits(t, numbers()[r.Intn(len(numbers()))])
		default:
			w.append(t, anyRecord(r))
		}
	}
}

// wantKept: behind the line's end Open tells, by a new line, the first ones of what was appended.
func (w *twin) wantKept(t *testing.T) []string {
	t.Helper()
	w.f.Blow()
	w.own.Blow()
	l, records := wantSays(t, "behind a crash", fuse.New(w.f.Device(), -1, nil), w.gen)
	if !w.mayBe(records) || l.Fresh() && len(records) > 0 {
		t.Errorf("behind a crash: %d records, of %d, %d synced, %d cut off", len(records), len(w.records), w.synced, len(w.cutOff))
	}
	return records
}

// P15.2, P15.3: records of any bytes and lengths; lines that are cut at any act, and lose and tear anything.
func TestManyRuns(t *testing.T) {
	r := rand.New(rand.NewSource(2))
	fewer, all, more := 0, 0, 0
	for i := range 800 {
		w := newTwin(t, device.New(512), gens()[i%len(gens())], r.Intn(90)-10, anyChoice(r))
		w.run(t, r)
		switch n := len(w.wantKept(t)); {
		case n < len(w.records):
			fewer++
		case n == len(w.records):
			all++
		default:
			more++
		}
	}
	if fewer < 50 || all < 50 || more < 5 {
		t.Errorf("the test's own: %d, %d, %d", fewer, all, more)
	}
}

// P15.3: one history, cut at each act, of which each number of bytes is kept of each sector that waits.
func TestCutAnywhere(t *testing.T) {
	records := []string{"ab", text(150, 1), "", text(202, 2), text(101, 3), text(250, 4)}
	for at := range 16 {
		for first := range 130 {
			for _, choice := range [][]int{{first, 128}, {128 + first%2, first}} {
				w := newTwin(t, device.New(512), 258, at, choice)
				for i, record := range records {
					if e := w.append(t, record); e != api.OK {
						break
					}
					if i%2 == 1 {
						w.sync(t)
					}
				}
				records := w.wantKept(t)
				if at == 15 && len(records) != 6 {
					t.Errorf("not cut, but %d records", len(records))
				}
			}
		}
	}
}

// P15.4: generations one behind the other, each cut off anywhere, and a Wipe between: the log of the next one is fresh, and says what was written by it alone.
func TestManyGenerations(t *testing.T) {
	r := rand.New(rand.NewSource(3))
	for _, first := range []uint64{1, 200, 65500, 1<<32 - 40, 1<<56 - 1, 0x0100fffffffffff0, math.MaxUint64 - 100} {
		d := device.New(512)
		torn, again := 0, 0
		for gen := first; gen < first+90; gen++ {
			w := newTwin(t, d, gen, r.Intn(70)-4, anyChoice(r))
			if !w.fresh {
				t.Fatalf("generation %d is not fresh", gen)
			}
			w.run(t, r)
			records := w.wantKept(t)
			if torn += tornOf(d); tornOf(d) > 0 && r.Intn(2) == 0 {
				again++
				wipeHalf(t, r, d)
			}
			f := fuse.New(d, -1, nil)
			wantErr(t, "Wipe", Wipe(f), api.OK)
			if n := tornOf(d); n > 0 {
				t.Errorf("%d sectors are torn yet", n)
			}
			if _, got := wantSays(t, "behind Wipe", f, gen); !w.mayBe(got) || len(got) < len(records) {
				t.Errorf("behind Wipe: %d records, not %d", len(got), len(records))
			}
			if gen < math.MaxUint64 {
				wantOpen(t, "the next one", f, gen+1, nil, true)
			}
		}
		if torn < 20 || again < 5 {
			t.Errorf("the test's own: %d torn, %d again", torn, again)
		}
	}
}

// tornOf is how many of the log's sectors bear nothing.
func tornOf(d *device.Device) int {
	n := 0
	for _, sector := range logOf(d) {
		if _, _, _, is := unstamped(sector); !is {
			n++
		}
	}
	return n
}

// wipeHalf does a Wipe that is cut in its midst: it is not OK.
func wipeHalf(t *testing.T, r *rand.Rand, d *device.Device) {
	t.Helper()
	f := fuse.New(d, r.Intn(tornOf(d)+1), anyChoice(r))
	wantErr(t, "Wipe with a line that is cut", Wipe(f), api.ErrDown)
}

// P15.4: if a sector of what was written came to the device, whichever, the log is not fresh.
func TestNotFreshAgain(t *testing.T) {
	for keeps := range 10 {
		for pick := range 130 {
			w := newTwin(t, device.New(512), 7, -1, nil)
			for i := range 10 {
				w.append(t, text(i*10, i))
			}
			choice := make([]int, 10)
			choice[keeps] = pick
			w.f.Device().Crash(choice)
			l, records, e := Open(fuse.New(w.f.Device(), -1, nil), 7)
			if e != api.OK || l.Fresh() != (pick < 128) {
				t.Errorf("%d bytes of sector %d kept: fresh %v, %d", pick, keeps, l.Fresh(), e)
			}
			if want := keeps == 0 && pick >= 128; want != (len(records) == 1) {
				t.Errorf("%d bytes of sector %d kept: %q", pick, keeps, records)
			}
		}
	}
}

// P15.5: sectors of noughts, stamped ones, torn ones; on both sides of the log torn ones stay.
func TestWipe(t *testing.T) {
	whole := stamped(3, 1, "\x01x")
	kinds := []string{noughts(128), whole, stamped(0, 0, ""), stamped(9, 63, text(102, 1)), stamped(0, 5, "abc"), "xy", whole[:127], whole[:64] + stamped(4, 1, "\x01x")[64:], noughts(127) + "\x01", "\x01" + noughts(127), strings.Repeat("\xff", 128), noughts(13) + "\x67" + noughts(114), whole[:100] + "\x01" + whole[101:]}
	torn := func(i int) bool { return i > 4 }
	for at := range 64 {
		for i, kind := range kinds {
			sectors := slices.Repeat([]string{whole}, 64)
			sectors[at] = kind
			f := besideTorn(lineTo(sectors...))
			want := look(f)
			want.acts, want.waiting = 1, 0
			if torn(i) {
				want.shown[2+at], want.sure[2+at], want.acts = noughts(128), noughts(128), 2
			}
			wantErr(t, "Wipe", Wipe(f), api.OK)
			wantSame(t, fmt.Sprintf("Wipe of sector %d, kind %d", at, i), f, want)
			want.acts++
			wantErr(t, "Wipe again", Wipe(f), api.OK)
			wantSame(t, "Wipe again", f, want)
		}
	}
}

func besideTorn(f *fuse.Fuse) *fuse.Fuse {
	for _, at := range []int{0, 1, 66, 67} {
		f.Device().Write(at, "torn")
	}
	f.Device().Barrier()
	return f
}

// P15.5: what waits is made sure, on all of the device.
func TestWipeIsABarrier(t *testing.T) {
	f := lineTo(written(3, "ab")...)
	for _, at := range []int{0, 2, 3, 65, 66, 69} {
		f.Device().Write(at, "waits")
	}
	want := look(f)
	for _, at := range []int{2, 3, 65} {
		want.shown[at] = noughts(128)
	}
	want.sure, want.waiting, want.acts = want.shown, 0, 4
	wantErr(t, "Wipe", Wipe(f), api.OK)
	wantSame(t, "Wipe", f, want)
}

// P15.5: of any sectors, with a line that is cut at any of its acts: what ought to be done, up to that.
func TestWipeOfAnySectors(t *testing.T) {
	r := rand.New(rand.NewSource(4))
	for range 3000 {
		d := device.New(512)
		for at := range 70 {
			switch r.Intn(4) {
			case 0:
				d.Write(at, stamped(uint64(r.Intn(4)), uint32(at-2), text(r.Intn(103), at)))
			case 1:
				d.Write(at, text(1+r.Intn(128), at)+"\x01")
			}
			if r.Intn(30) == 0 {
				d.Barrier()
			}
		}
		at, choice := r.Intn(45)-2, anyChoice(r)
		f, own := fuse.New(d, at, choice), fuse.New(d.Copy(), at, choice)
		wantErr(t, fmt.Sprint("Wipe, cut at ", at), Wipe(f), wipeOwn(own))
		wantSame(t, fmt.Sprint("Wipe, cut at ", at), f, look(own))
	}
}

// wipeOwn does what the chapter's words say of Wipe.
func wipeOwn(own *fuse.Fuse) api.Errno {
	for number, sector := range logOf(own.Device()) {
		if _, _, _, is := unstamped(sector); is {
			continue
		}
		if e := own.Write(2+number, noughts(128)); e != api.OK {
			return e
		}
	}
	return own.Barrier()
}

// No call panics, nor does one of a log or a line that was copied by hand.
func TestNothingPanics(t *testing.T) {
	blown := lineTo()
	blown.Blow()
	byHand := *lineTo(written(2, "ab")...)
	lines := []*fuse.Fuse{nil, {}, fuse.New(&device.Device{}, 0, nil), blown, lineTo("torn"), fuse.New(device.New(4096), 5, []int{math.MinInt, math.MaxInt}), &byHand}
	for _, f := range lines {
		for _, gen := range []uint64{0, 1, 2, math.MaxUint64} {
			l, _, _ := Open(f, gen)
			logs := []*Log{l, {}}
			if l != nil {
				copied := *l
				logs = append(logs, &copied)
			}
			for _, l := range logs {
				for _, n := range numbers() {
					l.Fits(n)
				}
				for _, n := range sizes() {
					l.Append(text(n, 1))
					l.Sync()
				}
				l.Used()
				l.Fresh()
			}
		}
		Wipe(f)
	}
}

// What was told stays, whatever is done with it or with the log behind it.
func TestAnswersAreNew(t *testing.T) {
	f := lineTo(written(3, "ab", text(300, 1))...)
	_, a, _ := Open(f, 3)
	_, b, _ := Open(f, 3)
	a[0], a = "changed", append(a[:1], "changed too")
	f.Write(2, "")
	if !slices.Equal(b, []string{"ab", text(300, 1)}) {
		t.Errorf("told before: %q", b)
	}
}

func TestExamples(t *testing.T) {
	f := fuse.New(device.New(512), -1, nil)
	l := wantOpen(t, "of a new device", f, 1, nil, true)
	for _, record := range []string{"ab", "", text(102, 1)} {
		wantErr(t, "Append", l.Append(record), api.OK)
	}
	wantUsed(t, "behind Appends", l, 4, true)
	wantErr(t, "Sync", l.Sync(), api.OK)

	again := wantOpen(t, "again", f, 1, []string{"ab", "", text(102, 1)}, false)
	wantErr(t, "Append", again.Append("x"), api.ErrState)
	two := wantOpen(t, "of the next generation", f, 2, nil, true)
	if two.Fits(6465) || !two.Fits(6464) {
		t.Errorf("Fits: %v, %v", two.Fits(6464), two.Fits(6465))
	}
	wantErr(t, "Append of 6465 bytes", two.Append(text(6465, 1)), api.ErrFull)
	wantErr(t, "Append of 6464 bytes", two.Append(text(6464, 1)), api.OK)
	wantErr(t, "Append of nothing", two.Append(""), api.ErrFull)

	f.Device().Write(3, "xy")
	wantErr(t, "Wipe", Wipe(f), api.OK)
	if s, e := f.Read(3); s != noughts(128) || e != api.OK {
		t.Errorf("Read: % x, %d", s, e)
	}
	wantNone(t, "of any line", f, 0, api.ErrArg)
	f.Blow()
	wantNone(t, "of a line that is cut", f, 1, api.ErrDown)
}
