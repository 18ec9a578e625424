package alloc

import (
	"fmt"
	"math"
	"math/rand"
	"slices"
	"testing"

	"rillbed/api"
)

// most is the greatest number of sectors, mostHeld that of references: what the chapter says, not what a constant says.
const (
	most     = 4096
	mostHeld = 65535
)

// What a sector may be, by the chapter's words.
const (
	notRuled = iota
	free
	ofChain
	waits
)

// owner is a chain, as the words have it.
type owner struct {
	sectors []int
	refs    int
	sure    bool
}

// plain is how the chapter's words say what an allocator is: what each sector is by itself, and chains in any order.
type plain struct {
	from    int
	sectors []int
	chains  []owner
}

func newPlain(from, n int) *plain {
	p := &plain{from: from, sectors: make([]int, n)}
	for at := from; at < n; at++ {
		p.sectors[at] = free
	}
	return p
}

// loadPlain is what Load ought to tell, where New tells an allocator.
func loadPlain(from, n int, l []Owned) (*plain, api.Errno) {
	p := newPlain(from, n)
	for _, o := range l {
		if o.Refs <= 0 || o.Refs >= 65536 {
			return nil, api.ErrForm
		}
		c := owner{[]int{o.Place}, o.Refs, true}
		for _, at := range o.Rest {
			c.sectors = append(c.sectors, at)
		}
		for _, at := range c.sectors {
			if at < from || at > n-1 || p.sectors[at] == ofChain {
				return nil, api.ErrForm
			}
			p.sectors[at] = ofChain
		}
		p.chains = append(p.chains, c)
	}
	return p, api.OK
}

func (p *plain) count(what int) int {
	n := 0
	for _, w := range p.sectors {
		if w == what {
			n++
		}
	}
	return n
}

// find is the number of the chain with that place among the chains, or -1.
func (p *plain) find(place int) int {
	for i, c := range p.chains {
		if c.sectors[0] == place {
			return i
		}
	}
	return -1
}

func (p *plain) alloc(k int) ([]int, api.Errno) {
	if k < 1 {
		return nil, api.ErrArg
	}
	if p.count(free) < k {
		return nil, api.ErrFull
	}
	var l []int
	for at := 0; len(l) < k; at++ {
		if p.sectors[at] == free {
			p.sectors[at] = ofChain
			l = append(l, at)
		}
	}
	p.chains = append(p.chains, owner{l, 1, false})
	return slices.Clone(l), api.OK
}

func (p *plain) hold(place int) api.Errno {
	i := p.find(place)
	if i < 0 {
		return api.ErrNone
	}
	if p.chains[i].refs == 65535 {
		return api.ErrLong
	}
	p.chains[i].refs++
	return api.OK
}

func (p *plain) drop(place int) (bool, api.Errno) {
	i := p.find(place)
	if i < 0 {
		return false, api.ErrNone
	}
	p.chains[i].refs--
	c := p.chains[i]
	if c.refs > 0 {
		return false, api.OK
	}
	p.chains = slices.Delete(p.chains, i, i+1)
	for _, at := range c.sectors {
		p.sectors[at] = free
		if c.sure {
			p.sectors[at] = waits
		}
	}
	return true, api.OK
}

func (p *plain) commit() {
	for i := range p.chains {
		p.chains[i].sure = true
	}
	for at, w := range p.sectors {
		if w == waits {
			p.sectors[at] = free
		}
	}
}

func (p *plain) list() []Owned {
	var l []Owned
	for at := range p.sectors {
		if i := p.find(at); i >= 0 {
			c := p.chains[i]
			l = append(l, Owned{Place: at, Refs: c.refs, Rest: c.sectors[1:]})
		}
	}
	return l
}

func owned(place, refs int, rest ...int) Owned { return Owned{Place: place, Refs: refs, Rest: rest} }

func alike(a, b Owned) bool {
	return a.Place == b.Place && a.Refs == b.Refs && slices.Equal(a.Rest, b.Rest)
}

// ints are the n numbers from from on.
func ints(from, n int) []int {
	l := make([]int, n)
	for i := range l {
		l[i] = from + i
	}
	return l
}

// deepCopy is a list of chains that shares nothing with the first one.
func deepCopy(l []Owned) []Owned {
	c := slices.Clone(l)
	for i := range c {
		c[i].Rest = slices.Clone(c[i].Rest)
	}
	return c
}

// pair is an allocator, and what the chapter's words say that it is.
type pair struct {
	t *testing.T
	a *Alloc
	p *plain
}

func pairOf(t *testing.T, from, n int) pair {
	t.Helper()
	x := pair{t, New(from, n), newPlain(from, n)}
	if x.a == nil {
		t.Fatalf("New(%d, %d): nil", from, n)
	}
	x.wantAlike("a fresh one")
	return x
}

// pairLoaded is an allocator with these chains.
func pairLoaded(t *testing.T, from, n int, l ...Owned) pair {
	t.Helper()
	a, e := Load(from, n, l)
	p, ours := loadPlain(from, n, l)
	if e != api.OK || ours != api.OK || a == nil {
		t.Fatalf("Load(%d, %d, %v): %d, %d", from, n, l, e, ours)
	}
	x := pair{t, a, p}
	x.wantAlike("a loaded one")
	return x
}

// wantAlike holds all that the allocator tells against what it ought to be.
func (x pair) wantAlike(why string) {
	x.t.Helper()
	n := len(x.p.sectors)
	if got := x.a.Free(); got != x.p.count(free) {
		x.t.Errorf("%s: Free: %d, not %d", why, got, x.p.count(free))
	}
	if got := x.a.Waiting(); got != x.p.count(waits) {
		x.t.Errorf("%s: Waiting: %d, not %d", why, got, x.p.count(waits))
	}
	if got := x.a.List(); !slices.EqualFunc(got, x.p.list(), alike) {
		x.t.Errorf("%s: List: %v, not %v", why, got, x.p.list())
	}
	for at := -1; at <= n; at++ {
		var c owner
		if i := x.p.find(at); i >= 0 {
			c = x.p.chains[i]
		}
		x.wantChain(why, at, c)
	}
	x.wantAllOnce(why)
}

// wantChain holds what is told of one place against that chain; against one of nothing, if there is none.
func (x pair) wantChain(why string, place int, c owner) {
	x.t.Helper()
	refs, sectors, sure := x.a.Refs(place), x.a.Chain(place), x.a.Sure(place)
	if refs != c.refs || !slices.Equal(sectors, c.sectors) || sure != c.sure {
		x.t.Errorf("%s: of %d: %d, %v, %v, not %d, %v, %v", why, place, refs, sectors, sure, c.refs, c.sectors, c.sure)
	}
}

// wantAllOnce: free and waiting sectors, and those of all chains, are all; none is of two chains.
func (x pair) wantAllOnce(why string) {
	x.t.Helper()
	seen := map[int]int{}
	for _, o := range x.a.List() {
		seen[o.Place]++
		for _, at := range o.Rest {
			seen[at]++
		}
	}
	for at, times := range seen {
		if times > 1 || at < x.p.from || at >= len(x.p.sectors) {
			x.t.Errorf("%s: %d stands %d times", why, at, times)
		}
	}
	if got := x.a.Free() + x.a.Waiting() + len(seen); got != len(x.p.sectors)-x.p.from {
		x.t.Errorf("%s: %d sectors in all", why, got)
	}
}

// wantAlloc asks for a chain: the answer is e, and, if that is OK, these.
func (x pair) wantAlloc(k int, e api.Errno, sectors ...int) {
	x.t.Helper()
	why := fmt.Sprintf("Alloc(%d)", k)
	if l, ours := x.p.alloc(k); ours != e || !slices.Equal(l, sectors) {
		x.t.Fatalf("%s: the words say %v, %d, the test %v, %d", why, l, ours, sectors, e)
	}
	if l, got := x.a.Alloc(k); got != e || !slices.Equal(l, sectors) {
		x.t.Errorf("%s: %v, %d, not %v, %d", why, l, got, sectors, e)
	}
	x.wantAlike(why)
}

func (x pair) wantHold(place int, e api.Errno) {
	x.t.Helper()
	why := fmt.Sprintf("Hold(%d)", place)
	if ours := x.p.hold(place); ours != e {
		x.t.Fatalf("%s: the words say %d, the test %d", why, ours, e)
	}
	if got := x.a.Hold(place); got != e {
		x.t.Errorf("%s: %d, not %d", why, got, e)
	}
	x.wantAlike(why)
}

func (x pair) wantDrop(place int, last bool, e api.Errno) {
	x.t.Helper()
	why := fmt.Sprintf("Drop(%d)", place)
	if is, ours := x.p.drop(place); ours != e || is != last {
		x.t.Fatalf("%s: the words say %v, %d, the test %v, %d", why, is, ours, last, e)
	}
	if is, got := x.a.Drop(place); got != e || is != last {
		x.t.Errorf("%s: %v, %d, not %v, %d", why, is, got, last, e)
	}
	x.wantAlike(why)
}

func (x pair) commit() {
	x.t.Helper()
	x.p.commit()
	x.a.Commit()
	x.wantAlike("Commit")
}

// wantCounts: how many are free, and waiting, in the test's own numbers.
func (x pair) wantCounts(free, waiting int) {
	x.t.Helper()
	if x.a.Free() != free || x.a.Waiting() != waiting {
		x.t.Errorf("free and waiting: %d, %d, not %d, %d", x.a.Free(), x.a.Waiting(), free, waiting)
	}
}

// wantList: the chains, in the test's own words.
func (x pair) wantList(l ...Owned) {
	x.t.Helper()
	if got := x.a.List(); !slices.EqualFunc(got, l, alike) {
		x.t.Errorf("List: %v, not %v", got, l)
	}
}

// wantLoadsAgain: Load of List tells the same chains; with it, and behind a Commit, the same is free.
func (x pair) wantLoadsAgain() {
	x.t.Helper()
	n := len(x.p.sectors)
	l := x.a.List()
	again, e := Load(x.p.from, n, l)
	if e != api.OK {
		x.t.Fatalf("Load of List: %d", e)
	}
	if !slices.EqualFunc(again.List(), l, alike) {
		x.t.Errorf("List of Load of List: %v, not %v", again.List(), l)
	}
	for _, o := range l {
		if !again.Sure(o.Place) || again.Refs(o.Place) != x.a.Refs(o.Place) || !slices.Equal(again.Chain(o.Place), x.a.Chain(o.Place)) {
			x.t.Errorf("of %d: %d, %v", o.Place, again.Refs(o.Place), again.Chain(o.Place))
		}
	}
	x.commit()
	if again.Free() != x.a.Free() || again.Waiting() != 0 {
		x.t.Errorf("free with Load of List: %d, %d; behind a Commit: %d", again.Free(), again.Waiting(), x.a.Free())
	}
	for again.Free() > 0 && x.a.Free() > 0 {
		got, _ := again.Alloc(1)
		want, _ := x.a.Alloc(1)
		if !slices.Equal(got, want) {
			x.t.Fatalf("of Load of List: Alloc: %v, behind a Commit: %v", got, want)
		}
	}
}

// P13.1: nil, unless from is not below 0 and below n, and n at most 4096; else the sectors from from to n - 1, all free.
func TestNew(t *testing.T) {
	for _, n := range []int{0, 1, 2, 8, 512, most, 4097, 8192, -1, math.MinInt, math.MaxInt, 1 << 32, 1<<32 + 8} {
		for _, from := range []int{-1, 0, 1, 2, n - 1, n, n + 1, n / 2, -n, math.MinInt, math.MinInt + 1, math.MaxInt, 1 << 32} {
			a := New(from, n)
			is := from >= 0 && from < n && n <= 4096
			if (a != nil) != is {
				t.Errorf("New(%d, %d): %v", from, n, a != nil)
			}
			if !is {
				continue
			}
			if a.Free() != n-from || a.Waiting() != 0 || len(a.List()) != 0 {
				t.Errorf("New(%d, %d): %d, %d, %v", from, n, a.Free(), a.Waiting(), a.List())
			}
			if l, e := a.Alloc(n - from + 1); e != api.ErrFull || len(l) != 0 {
				t.Errorf("New(%d, %d): %d", from, n, e)
			}
			if l, e := a.Alloc(n - from); e != api.OK || !slices.Equal(l, ints(from, n-from)) {
				t.Errorf("New(%d, %d): %v, %d", from, n, l, e)
			}
		}
	}
}

// P13.1: two allocators have nothing to do with each other.
func TestNewOnesAreApart(t *testing.T) {
	x, y := pairOf(t, 2, 8), pairOf(t, 2, 8)
	x.wantAlloc(2, api.OK, 2, 3)
	y.wantAlike("the other one")
	y.wantAlloc(3, api.OK, 2, 3, 4)
	y.wantDrop(2, true, api.OK)
	x.wantAlike("the first one")
	x.commit()
	x.wantDrop(2, true, api.OK)
	y.wantAlike("the other one")
}

// P13.1: of nil, and of what New and Load did not make: ErrNil, nothing, 0, false, at all arguments.
func TestNotMade(t *testing.T) {
	refused, _ := Load(2, 8, []Owned{owned(9, 1)})
	for _, a := range []*Alloc{nil, {}, new(Alloc), New(0, 0), New(5, 5), refused} {
		for _, at := range []int{math.MinInt, -1, 0, 1, 2, 66, 4095, 4096, math.MaxInt} {
			if l, e := a.Alloc(at); len(l) != 0 || e != api.ErrNil {
				t.Errorf("Alloc(%d): %v, %d", at, l, e)
			}
			if e := a.Hold(at); e != api.ErrNil {
				t.Errorf("Hold(%d): %d", at, e)
			}
			if last, e := a.Drop(at); last || e != api.ErrNil {
				t.Errorf("Drop(%d): %v, %d", at, last, e)
			}
			a.Commit()
			if a.Refs(at) != 0 || len(a.Chain(at)) != 0 || a.Sure(at) {
				t.Errorf("of %d: %d, %v, %v", at, a.Refs(at), a.Chain(at), a.Sure(at))
			}
		}
		if a.Free() != 0 || a.Waiting() != 0 || len(a.List()) != 0 {
			t.Errorf("%d, %d, %v", a.Free(), a.Waiting(), a.List())
		}
	}
}

// P13.2: ErrArg, where New tells nil, with a list that would be refused too.
func TestLoadOfWrongNumbers(t *testing.T) {
	lists := [][]Owned{nil, {}, {owned(4, 1)}, {owned(4, 0)}, {owned(-1, 1)}, {owned(4, 1), owned(4, 1)}, {owned(0, 65536, math.MinInt)}}
	for _, c := range [][2]int{{-1, 8}, {8, 8}, {9, 8}, {0, 0}, {0, -1}, {0, 4097}, {2, 4097}, {4096, 4096}, {-1, 0}, {-1, 4097}, {math.MinInt, 8}, {math.MaxInt, 8}, {0, math.MaxInt}, {0, math.MinInt}, {math.MinInt, math.MinInt}, {math.MaxInt, math.MaxInt}} {
		for _, l := range lists {
			if a, e := Load(c[0], c[1], l); a != nil || e != api.ErrArg {
				t.Errorf("Load(%d, %d, %v): %d", c[0], c[1], l, e)
			}
		}
	}
}

// wantRefused: Load of that list tells ErrForm, by the words too; nothing in the list is changed.
func wantRefused(t *testing.T, from, n int, l ...Owned) {
	t.Helper()
	if _, ours := loadPlain(from, n, l); ours != api.ErrForm {
		t.Fatalf("of %d to %d: %v: the words say %d", from, n, l, ours)
	}
	kept := deepCopy(l)
	if a, e := Load(from, n, l); a != nil || e != api.ErrForm {
		t.Errorf("Load(%d, %d, %v): %d", from, n, l, e)
	}
	if !slices.EqualFunc(l, kept, alike) {
		t.Errorf("Load(%d, %d, %v) changed its list", from, n, kept)
	}
}

// P13.2: Refs of 1 to 65535 may be, whichever of the chains has them.
func TestLoadOfRefs(t *testing.T) {
	for _, refs := range []int{1, 2, 3, 255, 256, 32767, 32768, 65534, mostHeld} {
		x := pairLoaded(t, 2, 8, owned(4, refs, 7))
		x.wantList(owned(4, refs, 7))
		pairLoaded(t, 2, 8, owned(3, 1), owned(4, refs, 7), owned(2, 5))
	}
	for _, refs := range []int{0, -1, -2, -65535, 65536, 65537, 131071, 1 << 32, 1<<32 + 1, math.MinInt, math.MaxInt} {
		wantRefused(t, 2, 8, owned(4, refs))
		wantRefused(t, 2, 8, owned(4, refs, 7))
		wantRefused(t, 2, 8, owned(4, refs), owned(5, 1))
		wantRefused(t, 2, 8, owned(5, 1, 6), owned(4, refs))
		wantRefused(t, 2, 8, owned(5, refs), owned(9, refs))
	}
}

// P13.2: a sector that is not ruled, as a place, and in a rest: the first of it, in its midst, its last.
func TestLoadOfSectorsNotRuled(t *testing.T) {
	for _, c := range [][2]int{{0, 8}, {2, 8}, {7, 8}, {66, 512}, {0, most}, {66, most}, {4095, most}} {
		from, n := c[0], c[1]
		for _, at := range []int{from - 1, -1, n, n + 1, 0, -n, n + 1<<32, from + 1<<32, math.MinInt, math.MinInt + 1, math.MaxInt, math.MaxInt - 1} {
			if at >= from && at < n {
				continue
			}
			wantRefused(t, from, n, owned(at, 1))
			wantRefused(t, from, n, owned(from, 1, at))
			wantRefused(t, from, n, owned(at, 1, from))
			wantRefused(t, from, n, owned(n-1, 3), owned(at, 2))
			wantRefused(t, from, n, owned(at, 2), owned(n-1, 3))
			if n-from > 4 {
				wantRefused(t, from, n, owned(from, 1, from+1, at, from+2))
				wantRefused(t, from, n, owned(from, 1, from+1, from+2, at))
				wantRefused(t, from, n, owned(from, 1), owned(from+1, 1, at), owned(from+2, 1))
			}
		}
		for _, at := range []int{from, n - 1} {
			pairLoaded(t, from, n, owned(at, 1)).wantCounts(n-from-1, 0)
		}
	}
}

// P13.2: a sector that stands twice: as two places, as a place and in its own rest, in one rest twice, in two rests, as a place and in another's rest.
func TestLoadOfSectorsTwice(t *testing.T) {
	for _, l := range [][]Owned{
		{owned(4, 1), owned(4, 1)},
		{owned(4, 1, 5), owned(4, 2, 6)},
		{owned(4, 1), owned(5, 1), owned(4, 1)},
		{owned(4, 1, 4)},
		{owned(4, 1, 5, 4)},
		{owned(4, 1, 5, 5)},
		{owned(4, 1, 5, 6, 5)},
		{owned(4, 1, 5), owned(6, 1, 5)},
		{owned(4, 1, 2, 5), owned(6, 1, 7, 5)},
		{owned(4, 1, 5), owned(5, 1)},
		{owned(5, 1), owned(4, 1, 5)},
		{owned(5, 1), owned(4, 1, 6, 5)},
		{owned(2, 1, 3), owned(7, 1, 6), owned(5, 1, 4, 2)},
		{owned(2, 1, 3), owned(7, 1, 6), owned(3, 1)},
	} {
		wantRefused(t, 2, 8, l...)
		wantRefused(t, 0, most, l...)
	}
}

// P13.2: of no chains, of one sector, of all sectors, in one chain and in many, in any order.
func TestLoad(t *testing.T) {
	for _, c := range [][2]int{{0, 1}, {0, 8}, {2, 8}, {7, 8}, {66, 512}, {4095, most}} {
		from, n := c[0], c[1]
		all := ints(from, n-from)
		pairLoaded(t, from, n).wantAlloc(n-from, api.OK, all...)
		x := pairLoaded(t, from, n, owned(n-1, 7))
		x.wantList(owned(n-1, 7))
		x.wantCounts(n-from-1, 0)
		x = pairLoaded(t, from, n, owned(from, 1, all[1:]...))
		x.wantCounts(0, 0)
		x.wantAlloc(1, api.ErrFull)
		slices.Reverse(all)
		x = pairLoaded(t, from, n, owned(n-1, 2, all[1:]...))
		x.wantChain("backwards", n-1, owner{all, 2, true})
		x.wantCounts(0, 0)
		var each []Owned
		for _, at := range all {
			each = append(each, owned(at, 1))
		}
		x = pairLoaded(t, from, n, each...)
		x.wantCounts(0, 0)
		slices.Reverse(each)
		x.wantList(each...)
	}
}

// P13.2: the others are free, wherever the chains leave gaps; a chain's own order stays as it was.
func TestLoadLeavesTheOthersFree(t *testing.T) {
	l := []Owned{owned(9, 3, 4, 12), owned(3, 1), owned(14, 65535, 7, 6, 11), owned(19, 2)}
	for range len(l) {
		x := pairLoaded(t, 2, 20, l...)
		x.wantList(owned(3, 1), owned(9, 3, 4, 12), owned(14, 65535, 7, 6, 11), owned(19, 2))
		x.wantCounts(9, 0)
		x.wantAlloc(10, api.ErrFull)
		x.wantAlloc(9, api.OK, 2, 5, 8, 10, 13, 15, 16, 17, 18)
		x.wantAlloc(1, api.ErrFull)
		l = append(l[1:], l[0])
	}
	pairLoaded(t, 0, 6, owned(0, 1), owned(5, 1)).wantAlloc(4, api.OK, 1, 2, 3, 4)
	pairLoaded(t, 1, 6, owned(2, 1), owned(4, 1)).wantAlloc(3, api.OK, 1, 3, 5)
	pairLoaded(t, 3, 6, owned(3, 1, 4)).wantAlloc(1, api.OK, 5)
	pairLoaded(t, 3, 6, owned(5, 1, 4)).wantAlloc(1, api.OK, 3)
}

// P13.2: what is loaded is sure: it waits when it goes.
func TestLoadedIsSure(t *testing.T) {
	x := pairLoaded(t, 2, 8, owned(4, 2, 7), owned(2, 1))
	x.wantDrop(4, false, api.OK)
	x.wantDrop(4, true, api.OK)
	x.wantCounts(3, 2)
	x.wantAlloc(4, api.ErrFull)
	x.wantAlloc(3, api.OK, 3, 5, 6)
	x.wantDrop(2, true, api.OK)
	x.wantCounts(0, 3)
	x.commit()
	x.wantAlloc(3, api.OK, 2, 4, 7)
}

// P13.3: Alloc of numbers below 1, and of more than there are, changes nothing.
func TestAllocOfWrongNumbers(t *testing.T) {
	for _, x := range []pair{pairOf(t, 2, 8), pairLoaded(t, 2, 8, owned(4, 1, 7)), pairLoaded(t, 2, 8, owned(2, 1, 3, 4, 5, 6, 7))} {
		for _, k := range []int{0, -1, -2, -8, math.MinInt, math.MinInt + 1} {
			x.wantAlloc(k, api.ErrArg)
		}
		for _, k := range []int{7, 8, 9, 4097, 1 << 32, 1<<32 + 1, math.MaxInt, math.MaxInt - 1} {
			x.wantAlloc(k, api.ErrFull)
		}
	}
}

// P13.3: Alloc of one, of all that is free, of one more.
func TestAlloc(t *testing.T) {
	for k := 1; k <= 6; k++ {
		x := pairOf(t, 2, 8)
		x.wantAlloc(k, api.OK, ints(2, k)...)
		x.wantList(owned(2, 1, ints(3, k-1)...))
		x.wantChain("Alloc", 2, owner{ints(2, k), 1, false})
		x.wantCounts(6-k, 0)
		x.wantAlloc(7-k, api.ErrFull)
		if k < 6 {
			x.wantAlloc(6-k, api.OK, ints(2+k, 6-k)...)
		}
		x.wantCounts(0, 0)
		x.wantAlloc(1, api.ErrFull)
	}
	x := pairOf(t, 66, most)
	x.wantAlloc(most-65, api.ErrFull)
	x.wantAlloc(most-66, api.OK, ints(66, most-66)...)
	x.wantDrop(66, true, api.OK)
	x.wantCounts(most-66, 0)
}

// P13.3: Hold and Drop of what is no place: a sector of a rest, a free one, one that waits, one that is not ruled.
func TestHoldAndDropOfNoPlace(t *testing.T) {
	x := pairLoaded(t, 2, 12, owned(4, 1, 7), owned(9, 2, 3), owned(5, 1, 11))
	x.wantDrop(5, true, api.OK)
	x.wantAlloc(2, api.OK, 2, 6)
	for _, at := range []int{7, 3, 6, 8, 10, 5, 11, 1, 0, 12, 13, -1, -4, 4096, 4 + 1<<32, math.MinInt, math.MaxInt} {
		x.wantHold(at, api.ErrNone)
		x.wantDrop(at, false, api.ErrNone)
		x.wantChain("of no place", at, owner{})
	}
	x.commit()
	for _, at := range []int{5, 11, 7, 3, 6} {
		x.wantHold(at, api.ErrNone)
		x.wantDrop(at, false, api.ErrNone)
	}
	x.wantList(owned(2, 1, 6), owned(4, 1, 7), owned(9, 2, 3))
}

// P13.3: Hold up to 65535 references, and not beyond; Drop of all of them.
func TestHoldAtMostReferences(t *testing.T) {
	for _, x := range []pair{pairLoaded(t, 2, 8, owned(4, mostHeld-1, 7)), pairLoaded(t, 0, 8, owned(3, 1), owned(4, 65534))} {
		x.wantHold(4, api.OK)
		x.wantHold(4, api.ErrLong)
		x.wantHold(4, api.ErrLong)
		x.wantDrop(4, false, api.OK)
		x.wantHold(4, api.OK)
		x.wantHold(4, api.ErrLong)
	}
	a := New(2, 8)
	a.Alloc(3)
	for refs := 2; refs <= mostHeld; refs++ {
		if e := a.Hold(2); e != api.OK || a.Refs(2) != refs {
			t.Fatalf("%d: %d, %d", refs, e, a.Refs(2))
		}
	}
	if e := a.Hold(2); e != api.ErrLong || a.Refs(2) != mostHeld {
		t.Errorf("%d, %d", e, a.Refs(2))
	}
	for refs := mostHeld - 1; refs >= 0; refs-- {
		if last, e := a.Drop(2); last != (refs == 0) || e != api.OK || a.Refs(2) != refs {
			t.Fatalf("%d: %v, %d, %d", refs, last, e, a.Refs(2))
		}
	}
	if a.Free() != 6 || a.Waiting() != 0 {
		t.Errorf("%d, %d", a.Free(), a.Waiting())
	}
}

// P13.3: Hold and Drop change the references of that chain alone, and never what is sure.
func TestHoldAndDrop(t *testing.T) {
	x := pairOf(t, 2, 12)
	x.wantAlloc(2, api.OK, 2, 3)
	x.commit()
	x.wantAlloc(3, api.OK, 4, 5, 6)
	x.wantHold(2, api.OK)
	x.wantHold(4, api.OK)
	x.wantHold(4, api.OK)
	x.wantList(owned(2, 2, 3), owned(4, 3, 5, 6))
	x.wantDrop(4, false, api.OK)
	x.wantDrop(2, false, api.OK)
	x.wantList(owned(2, 1, 3), owned(4, 2, 5, 6))
	x.wantChain("a sure one", 2, owner{[]int{2, 3}, 1, true})
	x.wantChain("a fresh one", 4, owner{[]int{4, 5, 6}, 2, false})
	x.wantCounts(5, 0)
}

// P13.3: the last Drop of a chain that is not sure frees it at once; Alloc has it again.
func TestLastDropOfAFreshOne(t *testing.T) {
	x := pairOf(t, 2, 12)
	x.wantAlloc(2, api.OK, 2, 3)
	x.wantAlloc(3, api.OK, 4, 5, 6)
	x.wantDrop(2, true, api.OK)
	x.wantCounts(7, 0)
	x.wantDrop(2, false, api.ErrNone)
	x.wantAlloc(4, api.OK, 2, 3, 7, 8)
	x.wantDrop(4, true, api.OK)
	x.wantAlloc(1, api.OK, 4)
	x.wantAlloc(1, api.OK, 5)
	x.commit()
	x.wantAlloc(5, api.ErrFull)
	x.wantAlloc(4, api.OK, 6, 9, 10, 11)
}

// P13.3, P13.5: the last Drop of a sure one: it waits, and Alloc has it behind the next Commit.
func TestLastDropOfASureOne(t *testing.T) {
	x := pairOf(t, 2, 12)
	x.wantAlloc(2, api.OK, 2, 3)
	x.commit()
	x.wantHold(2, api.OK)
	x.wantDrop(2, false, api.OK)
	x.wantCounts(8, 0)
	x.wantDrop(2, true, api.OK)
	x.wantCounts(8, 2)
	x.wantChain("gone", 2, owner{})
	x.wantDrop(2, false, api.ErrNone)
	x.wantAlloc(9, api.ErrFull)
	x.wantAlloc(8, api.OK, 4, 5, 6, 7, 8, 9, 10, 11)
	x.wantDrop(4, true, api.OK)
	x.wantCounts(8, 2)
	x.wantAlloc(1, api.OK, 4)
	x.commit()
	x.wantCounts(9, 0)
	x.wantAlloc(1, api.OK, 2)
	x.wantAlloc(2, api.OK, 3, 5)
}

// P13.3, P13.4: sectors that come back become a new chain, that is not sure, whatever the one ahead of it was.
func TestSectorsComeBackFresh(t *testing.T) {
	x := pairLoaded(t, 2, 5, owned(2, 9, 3, 4))
	for range 9 {
		x.wantHold(2, api.OK)
	}
	for n := 17; n >= 0; n-- {
		x.wantDrop(2, n == 0, api.OK)
	}
	x.wantCounts(0, 3)
	x.commit()
	x.wantCounts(3, 0)
	x.wantAlloc(1, api.OK, 2)
	x.wantChain("anew", 2, owner{[]int{2}, 1, false})
	x.wantDrop(2, true, api.OK)
	x.wantCounts(3, 0)
	x.wantAlloc(3, api.OK, 2, 3, 4)
	x.commit()
	x.wantChain("anew, and sure", 2, owner{[]int{2, 3, 4}, 1, true})
	x.wantDrop(2, true, api.OK)
	x.wantCounts(0, 3)
}

// P13.4: Commit of none, and twice; of what waits, and of what is not sure.
func TestCommit(t *testing.T) {
	x := pairOf(t, 2, 12)
	x.commit()
	x.commit()
	x.wantCounts(10, 0)
	x.wantAlloc(1, api.OK, 2)
	x.wantAlloc(2, api.OK, 3, 4)
	x.wantChain("fresh", 3, owner{[]int{3, 4}, 1, false})
	x.commit()
	x.wantChain("sure", 2, owner{[]int{2}, 1, true})
	x.wantChain("sure", 3, owner{[]int{3, 4}, 1, true})
	x.commit()
	x.wantChain("sure", 3, owner{[]int{3, 4}, 1, true})
	x.wantAlloc(1, api.OK, 5)
	x.wantDrop(2, true, api.OK)
	x.wantDrop(3, true, api.OK)
	x.wantCounts(6, 3)
	x.commit()
	x.wantCounts(9, 0)
	x.wantChain("sure", 5, owner{[]int{5}, 1, true})
	x.commit()
	x.wantCounts(9, 0)
	x.wantDrop(5, true, api.OK)
	x.wantCounts(9, 1)
	x.commit()
	x.wantCounts(10, 0)
}

// P13.4: what a Commit made free does not come again with the next one.
func TestCommitEmptiesWhatWaits(t *testing.T) {
	x := pairLoaded(t, 0, 4, owned(0, 1, 2), owned(3, 1))
	x.wantDrop(0, true, api.OK)
	x.commit()
	x.wantAlloc(3, api.OK, 0, 1, 2)
	x.commit()
	x.wantCounts(0, 0)
	x.wantDrop(3, true, api.OK)
	x.wantCounts(0, 1)
	x.commit()
	x.wantAlloc(2, api.ErrFull)
	x.wantAlloc(1, api.OK, 3)
	x.commit()
	x.wantList(owned(0, 1, 1, 2), owned(3, 1))
}

// P13.4: List by places, also where they came in another order.
func TestListByPlaces(t *testing.T) {
	x := pairLoaded(t, 2, 3000, owned(2999, 1), owned(300, 4, 2, 2000), owned(1000, 2), owned(20, 3))
	x.wantAlloc(2, api.OK, 3, 4)
	x.wantAlloc(1, api.OK, 5)
	x.wantList(owned(3, 1, 4), owned(5, 1), owned(20, 3), owned(300, 4, 2, 2000), owned(1000, 2), owned(2999, 1))
	x.wantDrop(3, true, api.OK)
	x.wantAlloc(3, api.OK, 3, 4, 6)
	x.wantList(owned(3, 1, 4, 6), owned(5, 1), owned(20, 3), owned(300, 4, 2, 2000), owned(1000, 2), owned(2999, 1))
}

// P13.2 to P13.4: what Alloc, Chain and List answered may be changed by the caller, and is not changed by the allocator.
func TestAnswersAreNew(t *testing.T) {
	x := pairLoaded(t, 2, 20, owned(9, 3, 4, 12), owned(14, 1, 7, 6))
	given, _ := x.a.Alloc(3)
	x.p.alloc(3)
	for i := range given {
		given[i] = 99
	}
	_ = append(given[:1], 98, 97)
	x.wantAlike("a changed Alloc")

	for _, place := range []int{2, 9, 14} {
		l := x.a.Chain(place)
		for i := range l {
			l[i] = 99
		}
		_ = append(l[:1], 98, 97)
		x.wantAlike("a changed Chain")
	}

	l := x.a.List()
	for i := range l {
		for j := range l[i].Rest {
			l[i].Rest[j] = 99
		}
		_ = append(l[i].Rest, 96)
		l[i] = owned(98, 97)
	}
	x.wantAlike("a changed List")

	l, c := x.a.List(), x.a.Chain(9)
	kept := deepCopy(l)
	for n := 3; n > 0; n-- {
		x.wantDrop(9, n == 1, api.OK)
	}
	x.wantHold(14, api.OK)
	x.commit()
	x.wantAlloc(4, api.OK, 4, 8, 9, 10)
	if !slices.EqualFunc(l, kept, alike) || !slices.Equal(c, []int{9, 4, 12}) {
		t.Errorf("behind other calls: %v, %v", l, c)
	}
}

// P13.4: no two lists of one answer share anything.
func TestListsOfOneAnswer(t *testing.T) {
	x := pairLoaded(t, 0, 20, owned(0, 1, 1), owned(2, 1, 3, 4), owned(5, 1), owned(6, 1, 7))
	l := x.a.List()
	for i := range l {
		l[i].Rest = append(l[i].Rest, 90, 91, 92, 93)
	}
	for i, want := range [][]int{{1, 90, 91, 92, 93}, {3, 4, 90, 91, 92, 93}, {90, 91, 92, 93}, {7, 90, 91, 92, 93}} {
		if !slices.Equal(l[i].Rest, want) {
			t.Errorf("%d: %v", i, l[i].Rest)
		}
	}
}

// P13.2: what is handed to Load is neither changed nor kept.
func TestLoadKeepsNothing(t *testing.T) {
	l := []Owned{owned(9, 3, 4, 12), owned(3, 1), owned(14, 2, 7)}
	kept := deepCopy(l)
	x := pairLoaded(t, 2, 20, l...)
	x.wantAlloc(2, api.OK, 2, 5)
	x.wantHold(3, api.OK)
	x.wantDrop(14, false, api.OK)
	x.wantDrop(14, true, api.OK)
	x.commit()
	if !slices.EqualFunc(l, kept, alike) {
		t.Errorf("the list behind other calls: %v", l)
	}
	x = pairLoaded(t, 2, 20, l...)
	want, _ := loadPlain(2, 20, kept)
	for i := range l {
		for j := range l[i].Rest {
			l[i].Rest[j] = 99
		}
		l[i] = owned(98, 97)
	}
	x.p = want
	x.wantAlike("a list that was changed behind Load")
	x.wantList(owned(3, 1), owned(9, 3, 4, 12), owned(14, 2, 7))
}

// P13.2: two allocators of one list have nothing to do with each other.
func TestLoadedOnesAreApart(t *testing.T) {
	l := []Owned{owned(4, 2, 7), owned(3, 1)}
	x, y := pairLoaded(t, 2, 8, l...), pairLoaded(t, 2, 8, l...)
	x.wantHold(4, api.OK)
	x.wantDrop(3, true, api.OK)
	x.wantAlloc(2, api.OK, 2, 5)
	y.wantAlike("the other one")
	y.wantDrop(4, false, api.OK)
	y.commit()
	x.wantAlike("the first one")
}

// wasSure is what a run knows by itself: sectors that were of a sure chain at the last Commit, and so must not be given ahead of the next.
type wasSure map[int]bool

func sureNow(a *Alloc) wasSure {
	sure := wasSure{}
	for _, o := range a.List() {
		for _, at := range a.Chain(o.Place) {
			sure[at] = true
		}
	}
	return sure
}

// P13.5: what was sure at the last Commit is never given ahead of the next one, whatever is dropped; what a chain has is not given.
func TestSureIsNotGiven(t *testing.T) {
	r := rand.New(rand.NewSource(135))
	for range 100 {
		a := New(3, 40)
		sure := wasSure{}
		for range 300 {
			switch r.Intn(8) {
			case 0:
				a.Commit()
				sure = sureNow(a)
			case 1, 2, 3:
				had := sureNow(a)
				l, _ := a.Alloc(1 + r.Intn(6))
				for _, at := range l {
					if sure[at] || had[at] {
						t.Fatalf("%d was given", at)
					}
				}
			default:
				if l := a.List(); len(l) > 0 {
					a.Drop(l[r.Intn(len(l))].Place)
				}
			}
			chains := len(sureNow(a))
			if a.Free()+a.Waiting()+chains != 37 {
				t.Fatalf("%d, %d, %d", a.Free(), a.Waiting(), chains)
			}
		}
	}
}

// P13.6: Load of List tells the same chains; with it, and behind a Commit, the same is free.
func TestLoadOfList(t *testing.T) {
	pairOf(t, 2, 8).wantLoadsAgain()
	pairLoaded(t, 0, 20, owned(9, 3, 4, 12), owned(3, 65535), owned(14, 1, 7, 6)).wantLoadsAgain()
	x := pairOf(t, 66, 512)
	x.wantAlloc(446, api.OK, ints(66, 446)...)
	x.wantLoadsAgain()
	x = pairLoaded(t, 2, 20, owned(9, 1, 4, 12), owned(3, 2))
	x.wantDrop(9, true, api.OK)
	x.wantAlloc(4, api.OK, 2, 5, 6, 7)
	x.wantAlloc(1, api.OK, 8)
	x.wantDrop(2, true, api.OK)
	x.wantHold(8, api.OK)
	x.wantCounts(13, 3)
	x.wantLoadsAgain()
}

// someCall asks one call at random of a pair, and holds both answers against each other.
func (x pair) someCall(r *rand.Rand) {
	n := len(x.p.sectors)
	place := r.Intn(n+4) - 2
	if l := x.p.list(); len(l) > 0 && r.Intn(4) > 0 {
		place = l[r.Intn(len(l))].Place
	}
	var why string
	switch r.Intn(9) {
	case 0, 1, 2:
		k := r.Intn(6)
		why = fmt.Sprintf("Alloc(%d)", k)
		l, a := x.a.Alloc(k)
		m, b := x.p.alloc(k)
		if a != b || !slices.Equal(l, m) {
			x.t.Fatalf("%s: %v, %d, not %v, %d", why, l, a, m, b)
		}
	case 3, 4:
		why = fmt.Sprintf("Hold(%d)", place)
		if a, b := x.a.Hold(place), x.p.hold(place); a != b {
			x.t.Fatalf("%s: %d, not %d", why, a, b)
		}
	case 5, 6, 7:
		why = fmt.Sprintf("Drop(%d)", place)
		last, a := x.a.Drop(place)
		is, b := x.p.drop(place)
		if a != b || last != is {
			x.t.Fatalf("%s: %v, %d, not %v, %d", why, last, a, is, b)
		}
	case 8:
		why = "Commit"
		x.a.Commit()
		x.p.commit()
	}
	x.wantAlike(why)
}

// P13.3 to P13.6: random runs of all calls, behind New and behind Load, against the words.
func TestManyCalls(t *testing.T) {
	r := rand.New(rand.NewSource(130))
	for round := range 80 {
		n := 1 + r.Intn(40)
		x := pairOf(t, r.Intn(n), n)
		for range 150 {
			x.someCall(r)
			if r.Intn(40) == 0 {
				x = pairLoaded(t, x.p.from, n, x.a.List()...)
			}
		}
		x.wantLoadsAgain()
		if t.Failed() {
			t.Fatalf("round %d", round)
		}
	}
}

// P13.2: random lists, most of them wrong in some way, against the words.
func TestManyLoads(t *testing.T) {
	r := rand.New(rand.NewSource(132))
	loaded := 0
	for range 20000 {
		from := r.Intn(4)
		n := from + 1 + r.Intn(30)
		var l []Owned
		for range r.Intn(5) {
			o := owned(r.Intn(n+2)-1, 1+r.Intn(3))
			for range r.Intn(4) {
				o.Rest = append(o.Rest, from+r.Intn(n-from+1)-r.Intn(2))
			}
			if r.Intn(20) == 0 {
				o.Refs = []int{0, -1, 65535, 65536}[r.Intn(4)]
			}
			l = append(l, o)
		}
		p, ours := loadPlain(from, n, l)
		a, e := Load(from, n, l)
		if e != ours || (a == nil) != (p == nil) {
			t.Fatalf("Load(%d, %d, %v): %d, not %d", from, n, l, e, ours)
		}
		if p != nil {
			loaded++
			pair{t, a, p}.wantAlike("loaded")
		}
		if t.Failed() {
			t.Fatalf("Load(%d, %d, %v)", from, n, l)
		}
	}
	if loaded < 1000 {
		t.Errorf("only %d lists were right", loaded)
	}
}

// P13.3: a call that is refused changes nothing (all that is told is held against what was told ahead of it).
func TestRefusedChangesNothing(t *testing.T) {
	x := pairLoaded(t, 2, 12, owned(4, mostHeld, 7), owned(9, 1, 3))
	x.wantDrop(9, true, api.OK)
	x.wantAlloc(2, api.OK, 2, 5)
	for range 2 {
		x.wantAlloc(0, api.ErrArg)
		x.wantAlloc(5, api.ErrFull)
		x.wantHold(4, api.ErrLong)
		x.wantHold(9, api.ErrNone)
		x.wantHold(7, api.ErrNone)
		x.wantDrop(9, false, api.ErrNone)
		x.wantDrop(7, false, api.ErrNone)
		x.wantList(owned(2, 1, 5), owned(4, mostHeld, 7))
		x.wantCounts(4, 2)
	}
	x.wantAlloc(4, api.OK, 6, 8, 10, 11)
	x.commit()
	x.wantAlloc(2, api.OK, 3, 9)
}

// Rules: no call panics, whatever it is given, in whatever state an allocator is.
func TestNothingPanics(t *testing.T) {
	numbers := []int{math.MinInt, math.MinInt + 1, -4097, -1, 0, 1, 2, 4, 7, 8, 4095, 4096, 4097, 65535, math.MaxInt - 1, math.MaxInt}
	for _, p := range numbers {
		for _, q := range numbers {
			Load(p, q, []Owned{owned(q, p, q), owned(p, q)})
			Load(0, 8, []Owned{owned(p, 1, q), owned(q, 2)})
			Load(0, 8, []Owned{owned(p, q)})
			loaded, _ := Load(2, 8, []Owned{owned(4, 2, 7), owned(2, 1)})
			for _, a := range []*Alloc{nil, {}, New(p, q), New(0, 1), New(2, 8), New(66, most), loaded} {
				a.Alloc(p)
				a.Hold(q)
				a.Drop(p)
				a.Commit()
				a.Drop(q)
				a.Drop(q)
				a.Refs(p)
				a.Chain(q)
				a.Sure(p)
				a.Commit()
				a.Free()
				a.Waiting()
				a.List()
			}
		}
	}
}

// Rules: an allocator whose value was copied by hand does not panic either.
func TestValuesDoNotPanic(t *testing.T) {
	r := rand.New(rand.NewSource(13))
	for range 200 {
		a := New(2, 30)
		a.Alloc(3)
		twin := *a
		for range 40 {
			for _, one := range []*Alloc{a, &twin} {
				one.Alloc(r.Intn(5))
				one.Hold(r.Intn(30))
				one.Drop(r.Intn(30))
				one.Drop(r.Intn(30))
				if r.Intn(4) == 0 {
					one.Commit()
				}
				one.List()
			}
		}
	}
}

// The chapter's examples.
func TestExamples(t *testing.T) {
	x := pairOf(t, 2, 8)
	x.wantCounts(6, 0)
	x.wantAlloc(2, api.OK, 2, 3)
	x.wantAlloc(5, api.ErrFull)
	x.wantAlloc(0, api.ErrArg)
	x.wantAlloc(3, api.OK, 4, 5, 6)
	x.wantCounts(1, 0)

	x.wantHold(2, api.OK)
	if x.a.Refs(2) != 2 {
		t.Errorf("Refs(2): %d", x.a.Refs(2))
	}
	x.wantDrop(2, false, api.OK)
	x.wantDrop(2, true, api.OK)
	x.wantCounts(3, 0)
	x.wantDrop(2, false, api.ErrNone)
	x.wantHold(3, api.ErrNone)

	x.commit()
	x.wantDrop(4, true, api.OK)
	x.wantCounts(3, 3)
	x.commit()
	x.wantCounts(6, 0)

	y := pairLoaded(t, 2, 8, owned(4, 2, 7))
	if l := y.a.Chain(4); !slices.Equal(l, []int{4, 7}) || !y.a.Sure(4) {
		t.Errorf("%v, %v", l, y.a.Sure(4))
	}
	y.wantCounts(4, 0)

	wantRefused(t, 2, 8, owned(4, 2, 4))
	wantRefused(t, 2, 8, owned(4, 2, 8))
	wantRefused(t, 2, 8, owned(4, 0, 7))
	if New(5, 5) != nil || New(0, 4097) != nil {
		t.Error("New")
	}
}
