package fuse

import (
	"fmt"
	"math"
	"math/rand"
	"slices"
	"strings"
	"testing"

	"rillbed/api"
	"rillbed/device"
)

func noughts(n int) string { return strings.Repeat("\x00", n) }

// full is a text, and bytes 0 behind it, up to the bytes of a sector.
func full(s string) string { return s + noughts(128-len(s)) }

// letters are n bytes of which no two neighbours are alike, and none is 0.
func letters(n int) string {
	b := make([]byte, n)
	for i := range b {
		b[i] = byte('a' + i%26)
	}
	return string(b)
}

// others are n bytes that differ from those of letters at each place, and are not 0.
func others(n int) string { return strings.ToUpper(letters(n)) }

// choiceCase is a list of choices, and does it say that the act that cuts is done?
type choiceCase struct {
	choice []int
	done   bool
}

// manyChoices are none, even ones, odd ones, below 0 too, and several, of which the first one alone says it.
func manyChoices() []choiceCase {
	return []choiceCase{
		{nil, false}, {[]int{}, false},
		{[]int{0}, false}, {[]int{2}, false}, {[]int{-2}, false}, {[]int{128}, false}, {[]int{-130}, false}, {[]int{math.MinInt}, false}, {[]int{math.MaxInt - 1}, false},
		{[]int{1}, true}, {[]int{3}, true}, {[]int{-1}, true}, {[]int{-3}, true}, {[]int{127}, true}, {[]int{129}, true}, {[]int{-129}, true}, {[]int{math.MinInt + 1}, true}, {[]int{math.MaxInt}, true},
		{[]int{0, 1}, false}, {[]int{1, 0}, true}, {[]int{128, 3, 5}, false}, {[]int{129, 2, 4}, true}, {[]int{-2, -1, -1}, false}, {[]int{-1, -2, -2}, true}, {[]int{4, 4, 4, 5}, false}, {[]int{5, 5, 5, 4}, true},
	}
}

// The kinds of what is asked of a line.
const (
	write = iota
	barrier
	read
	blow
	kinds
)

// call is something that is asked of a line.
type call struct {
	kind, at int
	s        string
}

func (c call) isAct() bool { return c.kind == write || c.kind == barrier }

// answer is what is told of a call.
type answer struct {
	s string
	e api.Errno
}

// askDevice does with a device what a call asks.
func askDevice(d *device.Device, c call) answer {
	switch c.kind {
	case write:
		return answer{"", d.Write(c.at, c.s)}
	case barrier:
		d.Barrier()
	case read:
		s, e := d.Read(c.at)
		return answer{s, e}
	}
	return answer{}
}

// askLine asks it of a line.
func askLine(f *Fuse, c call) answer {
	switch c.kind {
	case write:
		return answer{"", f.Write(c.at, c.s)}
	case barrier:
		return answer{"", f.Barrier()}
	case read:
		s, e := f.Read(c.at)
		return answer{s, e}
	}
	f.Blow()
	return answer{}
}

// wire is how the chapter's words say what a line is, with a device of its own.
type wire struct {
	d     *device.Device
	fuse  int
	list  choiceCase
	acts  int
	isCut bool
}

func (w *wire) cut() {
	w.d.Crash(w.list.choice)
	w.isCut = true
}

func (w *wire) ask(c call) answer {
	down := answer{"", api.ErrDown}
	switch {
	case c.kind == blow && w.isCut:
		return answer{}
	case c.kind == blow:
		w.cut()
		return answer{}
	case w.isCut:
		return down
	case c.kind == read:
		return askDevice(w.d, c)
	}
	w.acts++
	if w.fuse < 0 || w.acts <= w.fuse {
		return askDevice(w.d, c)
	}
	if w.list.done {
		askDevice(w.d, c)
	}
	w.cut()
	return down
}

// someCalls are acts of all kinds: Barriers, Writes, among them such that the device refuses, and one sector's again; with Reads between.
func someCalls() []call {
	return []call{
		{read, 5, ""},
		{write, 5, letters(128)}, {write, 7, letters(40)}, {read, 5, ""}, {barrier, 0, ""}, {read, 7, ""},
		{write, 6, others(128)}, {write, 5, others(20)}, {write, 512, "x"}, {read, 512, ""}, {write, 5, letters(129)}, {write, -1, "x"},
		{write, 5, others(128)}, {barrier, 0, ""}, {barrier, 0, ""}, {write, 0, "ab"}, {read, 0, ""}, {write, 511, others(3)}, {write, 0, ""}, {write, 7, noughts(128)},
		{read, -1, ""}, {barrier, 0, ""}, {write, 3, letters(100)}, {read, 3, ""},
	}
}

// actsOf are those of the calls that are acts.
func actsOf(calls []call) []call {
	var out []call
	for _, c := range calls {
		if c.isAct() {
			out = append(out, c)
		}
	}
	return out
}

// newDevice has sure sectors and such that wait, so that crashes leave something to be seen.
func newDevice(t *testing.T) *device.Device {
	t.Helper()
	d := device.New(512)
	if d == nil {
		t.Fatal("no device")
	}
	for at := range 20 {
		d.Write(at, fmt.Sprint("sector ", at, letters(50)))
	}
	d.Barrier()
	for at := 3; at < 20; at += 4 {
		d.Write(at, others(90))
	}
	return d
}

func newLine(t *testing.T, d *device.Device, fuse int, choice []int) *Fuse {
	t.Helper()
	f := New(d, fuse, choice)
	if f == nil {
		t.Fatalf("New(d, %d, %v): nil", fuse, choice)
	}
	return f
}

// differ tells where two devices differ, of the sectors that the tests use; nothing, if they are the same there.
func differ(a, b *device.Device) string {
	if a.Sectors() != b.Sectors() || a.Waiting() != b.Waiting() {
		return fmt.Sprint("sectors, waiting: ", a.Sectors(), ", ", a.Waiting(), "; ", b.Sectors(), ", ", b.Waiting())
	}
	for at := range a.Sectors() {
		s, _ := a.Read(at)
		u, _ := b.Read(at)
		if s != u || a.Sure(at) != b.Sure(at) {
			return fmt.Sprintf("sector %d: %.20q, sure %.20q; %.20q, sure %.20q", at, s, a.Sure(at), u, b.Sure(at))
		}
	}
	return ""
}

func wantSameDevice(t *testing.T, name string, got, want *device.Device) {
	t.Helper()
	if s := differ(got, want); s != "" {
		t.Fatalf("%s: %s", name, s)
	}
}

func wantState(t *testing.T, name string, f *Fuse, down bool, count int, d *device.Device) {
	t.Helper()
	if f.Down() != down || f.Count() != count || f.Device() != d {
		t.Fatalf("%s: Down %v, Count %d, its device %v, not %v, %d", name, f.Down(), f.Count(), f.Device() == d, down, count)
	}
}

// wantAsk asks the same of a line and of what the chapter's words say of it, and holds all that is shown against each other.
func wantAsk(t *testing.T, name string, f *Fuse, w *wire, d *device.Device, c call) {
	t.Helper()
	if got, want := askLine(f, c), w.ask(c); got != want {
		t.Fatalf("%s: %v: %.20q, %d, not %.20q, %d", name, c, got.s, got.e, want.s, want.e)
	}
	wantState(t, fmt.Sprint(name, ", behind ", c), f, w.isCut, w.acts, d)
}

// manyFuses are fuses at all edges of so many acts.
func manyFuses(acts int) []int {
	out := []int{math.MinInt, math.MinInt + 1, -1 << 32, -2, -1, acts + 1, 1000, 1 << 32, math.MaxInt - 1, math.MaxInt}
	for n := range acts + 1 {
		out = append(out, n)
	}
	return out
}

// P11.1: of nil there is no line; of a device there is one that holds.
func TestNew(t *testing.T) {
	for _, fuse := range manyFuses(3) {
		for _, x := range manyChoices() {
			if New(nil, fuse, x.choice) != nil {
				t.Errorf("New(nil, %d, %v): a line", fuse, x.choice)
			}
			d := newDevice(t)
			ahead := d.Copy()
			f := newLine(t, d, fuse, x.choice)
			wantState(t, "new", f, false, 0, d)
			s, e := f.Read(3)
			if e != api.OK || s != full(others(90)) {
				t.Errorf("Read: %.20q, %d", s, e)
			}
			wantSameDevice(t, "new", d, ahead)
		}
	}
}

// P11.1: of nil, and of what New did not make.
func TestNotMade(t *testing.T) {
	var value Fuse
	for i, f := range []*Fuse{nil, {}, new(Fuse), &value, New(nil, -1, nil), New(nil, 0, []int{1})} {
		for range 3 {
			for _, at := range []int{math.MinInt, -1, 0, 5, 511, 512, math.MaxInt} {
				for _, c := range []call{{write, at, "ab"}, {write, at, ""}, {write, at, letters(129)}, {barrier, at, ""}, {read, at, ""}} {
					if got := askLine(f, c); got != (answer{"", api.ErrNil}) {
						t.Errorf("%d: %v: %q, %d", i, c, got.s, got.e)
					}
					wantState(t, fmt.Sprint(i), f, true, 0, nil)
				}
			}
			f.Blow()
			wantState(t, fmt.Sprint(i), f, true, 0, nil)
		}
	}
}

// P11.1: a line to a device that is none answers as that does.
func TestDeviceNotMade(t *testing.T) {
	d := &device.Device{}
	f := newLine(t, d, 2, []int{1})
	for i, want := range []api.Errno{api.ErrNil, api.ErrNil, api.ErrDown, api.ErrDown} {
		if e := f.Write(3, "ab"); e != want {
			t.Errorf("Write %d: %d, not %d", i, e, want)
		}
		s, e := f.Read(3)
		if s != "" || e != want {
			t.Errorf("Read %d: %q, %d", i, s, e)
		}
	}
	wantState(t, "cut", f, true, 3, d)
}

// P11.1: a list of choices that is changed behind New makes no difference, and stays as it is.
func TestChoicesAreCopied(t *testing.T) {
	for _, x := range manyChoices() {
		for _, fuse := range []int{-1, 0, 4} {
			whole := append(slices.Clone(x.choice), 11, 12, 13)
			list := whole[:len(x.choice)]
			d := newDevice(t)
			w := &wire{d: d.Copy(), fuse: fuse, list: x}
			f := newLine(t, d, fuse, list)
			for i := range list {
				list[i]++
			}
			changed := slices.Clone(whole)
			for _, c := range append(someCalls(), call{blow, 0, ""}) {
				wantAsk(t, fmt.Sprint(x, ", fuse ", fuse), f, w, d, c)
			}
			wantSameDevice(t, fmt.Sprint(x, ", fuse ", fuse), d, w.d)
			if !slices.Equal(whole, changed) {
				t.Errorf("%v: %v, not %v", x.choice, whole, changed)
			}
		}
	}
}

// P11.2, P11.4: a device behind a line that its n-th act cuts is as one on which n acts were done, one more if the first choice is odd, and which crashed then.
func TestCut(t *testing.T) {
	acts := actsOf(someCalls())
	for n := range acts {
		for _, x := range manyChoices() {
			name := fmt.Sprint("fuse ", n, ", choices ", x.choice)
			d := newDevice(t)
			want := d.Copy()
			f := newLine(t, d, n, x.choice)
			for i, c := range acts[:n] {
				if got, want := askLine(f, c), askDevice(want, c); got != want {
					t.Fatalf("%s: act %d: %v, not %v", name, i, got, want)
				}
				wantState(t, name, f, false, i+1, d)
			}
			wantSameDevice(t, name+", ahead of the cut", d, want)
			if got := askLine(f, acts[n]); got != (answer{"", api.ErrDown}) {
				t.Fatalf("%s: the act that cuts: %v", name, got)
			}
			wantState(t, name, f, true, n+1, d)
			if x.done {
				askDevice(want, acts[n])
			}
			want.Crash(x.choice)
			wantSameDevice(t, name+", behind the cut", d, want)
		}
	}
}

// P11.2, P11.3, P11.4: what is asked of a line that is cut changes nothing.
func TestBehindTheCut(t *testing.T) {
	for _, x := range manyChoices() {
		for _, byBlow := range []bool{false, true} {
			d := newDevice(t)
			f := newLine(t, d, 2, x.choice)
			f.Write(5, letters(99))
			f.Write(6, letters(98))
			count := 2
			if byBlow {
				f.Blow()
			} else {
				f.Write(7, letters(97))
				count = 3
			}
			left := d.Copy()
			for range 2 {
				for _, c := range append(someCalls(), call{write, -5, letters(200)}, call{read, 600, ""}) {
					if got := askLine(f, c); got != (answer{"", api.ErrDown}) {
						t.Fatalf("%v: %v: %.20q, %d", x.choice, c, got.s, got.e)
					}
					f.Blow()
					wantState(t, fmt.Sprint(x.choice, ", ", c), f, true, count, d)
				}
			}
			wantSameDevice(t, fmt.Sprint(x.choice), d, left)

			// What waits on the device is not touched either: the line does not crash it again.
			d.Write(30, "new")
			left = d.Copy()
			f.Blow()
			f.Barrier()
			f.Write(31, "x")
			wantSameDevice(t, fmt.Sprint(x.choice, ", and a write to the device"), d, left)
		}
	}
}

// P11.1, P11.5: up to the act that cuts it a line answers as its device, as one with a later fuse, or none.
func TestUpToTheCut(t *testing.T) {
	calls := someCalls()
	acts := actsOf(calls)
	for _, fuse := range manyFuses(len(acts)) {
		for _, x := range []choiceCase{{nil, false}, {[]int{1}, true}, {[]int{64, 3}, false}} {
			d := newDevice(t)
			twin := d.Copy()
			f := newLine(t, d, fuse, x.choice)
			none := newLine(t, d.Copy(), -1, nil)
			count := 0
			for _, c := range calls {
				if c.isAct() && count == fuse {
					break
				}
				want := askDevice(twin, c)
				if got := askLine(f, c); got != want {
					t.Fatalf("fuse %d: %v: %v, not %v", fuse, c, got, want)
				}
				if got := askLine(none, c); got != want {
					t.Fatalf("no fuse: %v: %v, not %v", c, got, want)
				}
				if c.isAct() {
					count++
				}
				wantState(t, fmt.Sprint("fuse ", fuse, ", ", c), f, false, count, d)
			}
			wantSameDevice(t, fmt.Sprint("fuse ", fuse), d, twin)
			wantSameDevice(t, fmt.Sprint("fuse ", fuse, ", none"), none.Device(), twin)
		}
	}
}

// P11.1: a fuse below 0, or that is not reached, cuts nothing, however many acts there are.
func TestFusesThatAreNotReached(t *testing.T) {
	for _, fuse := range []int{math.MinInt, -65536, -2, -1, 5000, math.MaxInt} {
		d := newDevice(t)
		f := newLine(t, d, fuse, []int{1})
		for i := range 5000 {
			c := call{write, i % 512, "ab"}
			if i%3 == 0 {
				c = call{barrier, 0, ""}
			}
			if got := askLine(f, c); got.e != api.OK {
				t.Fatalf("fuse %d, act %d: %d", fuse, i, got.e)
			}
		}
		wantState(t, fmt.Sprint("fuse ", fuse), f, false, 5000, d)
	}
}

// P11.2: the act that cuts is each kind of act: a Write, one that the device refuses, a Barrier.
func TestActsThatCut(t *testing.T) {
	for _, x := range []struct {
		name   string
		last   call
		choice []int
		reads  string
	}{
		{"a write that is done", call{write, 9, others(128)}, []int{1}, others(128)[:1] + full(letters(60))[1:]},
		{"a write that is not done", call{write, 9, others(128)}, []int{4}, full(letters(60))},
		{"a write without choices", call{write, 9, others(128)}, nil, full(letters(60))},
		{"a write below 0 and odd", call{write, 9, others(128)}, []int{-1}, others(128)},
		{"a write below 0 and even", call{write, 9, others(128)}, []int{-2}, full(letters(60))},
		{"a refused write", call{write, 9, letters(129)}, []int{1}, full(letters(60))},
		{"a write to no sector", call{write, 512, "x"}, []int{1}, full(letters(60))},
		{"a barrier that is done", call{barrier, 0, ""}, []int{1}, full(letters(60))},
		{"a barrier that is not done", call{barrier, 0, ""}, []int{2}, full(letters(60))},
	} {
		d := device.New(512)
		f := newLine(t, d, 2, x.choice)
		f.Write(9, letters(60))
		f.Barrier()
		if got := askLine(f, x.last); got != (answer{"", api.ErrDown}) {
			t.Errorf("%s: %v", x.name, got)
		}
		wantState(t, x.name, f, true, 3, d)
		if s, e := d.Read(9); s != x.reads || e != api.OK || d.Sure(9) != x.reads || d.Waiting() != 0 {
			t.Errorf("%s: %.130q, %d; %d wait", x.name, s, e, d.Waiting())
		}
	}
}

// P11.2: a Barrier that cuts is done, or not, ahead of the crash.
func TestBarrierThatCuts(t *testing.T) {
	for _, x := range manyChoices() {
		d := device.New(512)
		want := device.New(512)
		f := newLine(t, d, 3, x.choice)
		for _, at := range []int{40, 8, 300} {
			f.Write(at, letters(128))
			want.Write(at, letters(128))
		}
		if e := f.Barrier(); e != api.ErrDown {
			t.Errorf("%v: Barrier: %d", x.choice, e)
		}
		if x.done {
			want.Barrier()
		}
		want.Crash(x.choice)
		wantSameDevice(t, fmt.Sprint(x.choice), d, want)
		if x.done && d.Sure(8) != letters(128) {
			t.Errorf("%v: not sure: %.130q", x.choice, d.Sure(8))
		}
	}
}

// P11.2: Writes that the device refuses are told, and count as acts.
func TestRefusedWritesCount(t *testing.T) {
	for _, x := range manyChoices() {
		d := device.New(512)
		f := newLine(t, d, 4, x.choice)
		for i, c := range []struct {
			at   int
			s    string
			want api.Errno
		}{{-1, "x", api.ErrArg}, {512, letters(129), api.ErrArg}, {0, letters(129), api.ErrLong}, {0, letters(128), api.OK}, {1, "x", api.ErrDown}, {-1, "x", api.ErrDown}, {0, letters(129), api.ErrDown}} {
			if e := f.Write(c.at, c.s); e != c.want {
				t.Errorf("%v: write %d: %d, not %d", x.choice, i, e, c.want)
			}
			wantState(t, fmt.Sprint(x.choice, i), f, i >= 4, min(i+1, 5), d)
		}
	}
}

// P11.3: a Read is no act, whatever it answers.
func TestReadsAreNoActs(t *testing.T) {
	d := device.New(512)
	f := newLine(t, d, 1, []int{0})
	for range 10 {
		for _, at := range []int{-1, 0, 511, 512, math.MinInt, math.MaxInt} {
			s, e := f.Read(at)
			if want := (at == 0 || at == 511); want && (s != noughts(128) || e != api.OK) || !want && (s != "" || e != api.ErrArg) {
				t.Errorf("Read(%d): %.20q, %d", at, s, e)
			}
		}
		wantState(t, "reads", f, false, 0, d)
	}
	if e := f.Write(5, "ab"); e != api.OK {
		t.Errorf("Write: %d", e)
	}
	if s, e := f.Read(5); s != full("ab") || e != api.OK {
		t.Errorf("Read: %.20q, %d", s, e)
	}
	wantState(t, "a write", f, false, 1, d)
	if e := f.Barrier(); e != api.ErrDown {
		t.Errorf("Barrier: %d", e)
	}
	if s, e := f.Read(5); s != "" || e != api.ErrDown {
		t.Errorf("Read of a line that is cut: %.20q, %d", s, e)
	}
	if s, e := f.Read(-1); s != "" || e != api.ErrDown {
		t.Errorf("Read of a line that is cut, of no sector: %.20q, %d", s, e)
	}
	wantState(t, "cut", f, true, 2, d)
}

// P11.3: Blow ahead of any act, and behind several; a second one does nothing.
func TestBlow(t *testing.T) {
	calls := someCalls()
	for n := range len(calls) + 1 {
		for _, x := range manyChoices() {
			for _, fuse := range []int{-1, 0, 8, 1000} {
				name := fmt.Sprint(n, " calls, fuse ", fuse, ", choices ", x.choice)
				d := newDevice(t)
				w := &wire{d: d.Copy(), fuse: fuse, list: x}
				f := newLine(t, d, fuse, x.choice)
				for _, c := range calls[:n] {
					wantAsk(t, name, f, w, d, c)
				}
				wantAsk(t, name, f, w, d, call{blow, 0, ""})
				wantAsk(t, name, f, w, d, call{blow, 0, ""})
				wantAsk(t, name, f, w, d, call{write, 5, "xy"})
				wantSameDevice(t, name, d, w.d)
			}
		}
	}
}

// P11.3: what Blow does with a device is what its crash does; no act is done, whatever the first choice.
func TestBlowIsNoAct(t *testing.T) {
	for _, x := range manyChoices() {
		d := newDevice(t)
		want := d.Copy()
		f := newLine(t, d, 0, x.choice)
		f.Blow()
		want.Crash(x.choice)
		wantSameDevice(t, fmt.Sprint(x.choice), d, want)
		wantState(t, fmt.Sprint(x.choice), f, true, 0, d)
	}
}

// P11.3: the device that a line leads to is d itself: what is done with either is seen through the other.
func TestDevice(t *testing.T) {
	d := device.New(512)
	f := newLine(t, d, 2, nil)
	f.Write(3, "ab")
	if s, _ := d.Read(3); s != full("ab") || d.Waiting() != 1 {
		t.Errorf("the device: %.20q", s)
	}
	d.Write(4, "cd")
	if s, e := f.Read(4); s != full("cd") || e != api.OK {
		t.Errorf("the line: %.20q, %d", s, e)
	}
	f.Barrier()
	if d.Waiting() != 0 {
		t.Errorf("%d wait", d.Waiting())
	}
	f.Barrier()
	wantState(t, "cut", f, true, 3, d)
}

// P11.4: two lines to one device: each counts its own acts, and one that is cut leaves the other alone.
func TestTwoLines(t *testing.T) {
	d := device.New(512)
	a, b := newLine(t, d, 1, []int{2}), newLine(t, d, -1, []int{128})
	a.Write(3, "ab")
	b.Write(4, "cd")
	if e := a.Write(5, "ef"); e != api.ErrDown {
		t.Errorf("Write: %d", e)
	}
	wantState(t, "a", a, true, 2, d)
	wantState(t, "b", b, false, 1, d)
	if e := b.Write(3, "xyz"); e != api.OK {
		t.Errorf("Write: %d", e)
	}
	if s, e := b.Read(4); s != full("cd") || e != api.OK {
		t.Errorf("Read: %.20q, %d", s, e)
	}
	b.Blow()
	if s, _ := d.Read(3); s != full("xyz") {
		t.Errorf("the device: %.20q", s)
	}
	wantState(t, "b", b, true, 2, d)
}

// P11.5: lines that differ in their fuses alone do not differ, up to the first one that is cut.
func TestLaterFuses(t *testing.T) {
	calls := someCalls()
	acts := len(actsOf(calls))
	for _, x := range manyChoices() {
		for fuse := range acts {
			for _, later := range []int{fuse + 1, acts, math.MaxInt, -1, math.MinInt} {
				a, b := newLine(t, newDevice(t), fuse, x.choice), newLine(t, newDevice(t), later, x.choice)
				for _, c := range calls {
					first, second := askLine(a, c), askLine(b, c)
					if a.Down() {
						break
					}
					if first != second || b.Down() || a.Count() != b.Count() {
						t.Fatalf("fuses %d, %d: %v: %v, %v", fuse, later, c, first, second)
					}
				}
				if !a.Down() || b.Down() || a.Count() != b.Count() {
					t.Fatalf("fuses %d, %d: cut: %v, %v; acts: %d, %d", fuse, later, a.Down(), b.Down(), a.Count(), b.Count())
				}
			}
		}
	}
}

// randomCall is one to a few sectors of those there are, or none.
func randomCall(r *rand.Rand) call {
	c := call{kind: []int{write, write, write, write, barrier, read, read}[r.Intn(7)], at: r.Intn(14) - 1}
	if r.Intn(60) == 0 {
		c.kind = blow
	}
	if c.kind == write {
		c.s = letters(200)[r.Intn(26):][:r.Intn(132)]
	}
	return c
}

// randomChoices are some numbers of all kinds. Their last bit tells the odd ones, those below 0 too.
func randomChoices(r *rand.Rand) choiceCase {
	list := make([]int, r.Intn(4))
	for i := range list {
		list[i] = r.Intn(130)
		if r.Intn(2) == 0 {
			list[i] = int(r.Uint64())
		}
	}
	return choiceCase{list, len(list) > 0 && list[0]&1 == 1}
}

// P11.4, P11.5: many lines, held against what the chapter's words say.
func TestManyCalls(t *testing.T) {
	for seed := range int64(600) {
		r := rand.New(rand.NewSource(seed))
		x := randomChoices(r)
		fuse := r.Intn(70) - 5
		d := newDevice(t)
		w := &wire{d: d.Copy(), fuse: fuse, list: x}
		f := newLine(t, d, fuse, x.choice)
		for step := range 80 {
			wantAsk(t, fmt.Sprint("run ", seed, ", step ", step), f, w, d, randomCall(r))
		}
		wantSameDevice(t, fmt.Sprint("run ", seed), d, w.d)
	}
}

// All promises: a panic anywhere here would end the test.
func TestNothingPanics(t *testing.T) {
	edges := []int{math.MinInt, -1, 0, 1, 511, 512, math.MaxInt}
	for _, d := range []*device.Device{nil, {}, device.New(512)} {
		for _, fuse := range edges {
			for _, x := range manyChoices() {
				f := New(d, fuse, x.choice)
				for _, at := range edges {
					for kind := range kinds - 1 {
						askLine(f, call{kind, at, letters(fuse & 255)})
					}
					f.Down()
					f.Count()
					f.Device()
				}
				f.Blow()
			}
		}
	}
}

// The chapter's examples.
func TestExamples(t *testing.T) {
	for _, x := range []struct {
		choice      []int
		five, other string
	}{{[]int{1}, "a\x00", "c\x00"}, {[]int{0}, "\x00\x00", "\x00\x00"}} {
		d := device.New(512)
		f := newLine(t, d, 1, x.choice)
		for i, c := range []struct {
			at   int
			s    string
			want api.Errno
		}{{5, "ab", api.OK}, {6, "cd", api.ErrDown}, {7, "ef", api.ErrDown}} {
			if e := f.Write(c.at, c.s); e != c.want {
				t.Errorf("%v: write %d: %d, not %d", x.choice, i, e, c.want)
			}
		}
		if s, e := f.Read(5); s != "" || e != api.ErrDown {
			t.Errorf("%v: Read: %q, %d", x.choice, s, e)
		}
		wantState(t, fmt.Sprint(x.choice), f, true, 2, d)
		for at, want := range []string{5: x.five, 6: x.other, 7: "\x00\x00"} {
			if s, e := d.Read(at); at >= 5 && (e != api.OK || s != full(want)) {
				t.Errorf("%v: sector %d: %.20q, %d", x.choice, at, s, e)
			}
		}
	}

	d := device.New(512)
	f := newLine(t, d, -1, nil)
	if a, b := f.Write(5, "ab"), f.Barrier(); a != api.OK || b != api.OK {
		t.Errorf("Write, Barrier: %d, %d", a, b)
	}
	f.Blow()
	f.Blow()
	if s, _ := d.Read(5); s != full("ab") {
		t.Errorf("sector 5: %.20q", s)
	}
	if New(nil, 0, nil) != nil {
		t.Errorf("New(nil, 0, none): a line")
	}
}
