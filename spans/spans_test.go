package spans

import (
	"fmt"
	"math"
	"math/rand"
	"slices"
	"testing"

	"rillbed/api"
)

// most is the greatest number of sectors of a set: what the chapter says, not what the constant says.
const most = 4096

// plain is how the chapter's words say what a set is: each sector by itself, is it in the set?
type plain []bool

func newPlain(n int) plain { return make(plain, n) }

func (p plain) give(at int) api.Errno {
	if at < 0 || at > len(p)-1 {
		return api.ErrArg
	}
	if p[at] {
		return api.ErrThere
	}
	p[at] = true
	return api.OK
}

func (p plain) fill(from, to int) api.Errno {
	if !(0 <= from && from <= to && to <= len(p)) {
		return api.ErrArg
	}
	for at := from; at < to; at++ {
		if p[at] {
			return api.ErrThere
		}
	}
	for at := from; at < to; at++ {
		p[at] = true
	}
	return api.OK
}

func (p plain) take(k int) ([]int, api.Errno) {
	if k < 1 {
		return nil, api.ErrArg
	}
	if p.count() < k {
		return nil, api.ErrFull
	}
	var taken []int
	for at := 0; len(taken) < k; at++ {
		if p[at] {
			p[at] = false
			taken = append(taken, at)
		}
	}
	return taken, api.OK
}

func (p plain) has(at int) bool { return at >= 0 && at < len(p) && p[at] }

func (p plain) count() int {
	n := 0
	for _, is := range p {
		if is {
			n++
		}
	}
	return n
}

func (p plain) list() []api.Extent {
	var l []api.Extent
	for at, is := range p {
		switch {
		case !is:
		case at > 0 && p[at-1]:
			l[len(l)-1].N++
		default:
			l = append(l, api.Extent{At: at, N: 1})
		}
	}
	return l
}

// pair is a set, and what the chapter's words say that it is.
type pair struct {
	t *testing.T
	s *Set
	p plain
}

// pairOf is a set of n with the sectors of these spans.
func pairOf(t *testing.T, n int, l ...api.Extent) pair {
	t.Helper()
	x := pair{t, New(n), newPlain(n)}
	if x.s == nil {
		t.Fatalf("New(%d): nil", n)
	}
	for _, e := range l {
		x.wantFill(e.At, e.At+e.N, api.OK)
	}
	return x
}

// wantAlike holds all that the set tells against what it ought to be.
func (x pair) wantAlike(why string) {
	x.t.Helper()
	if l := x.s.List(); !slices.Equal(l, x.p.list()) {
		x.t.Errorf("%s: List: %v, not %v", why, l, x.p.list())
	}
	if n := x.s.Count(); n != x.p.count() {
		x.t.Errorf("%s: Count: %d, not %d", why, n, x.p.count())
	}
	for at := -1; at <= len(x.p); at++ {
		if is := x.s.Has(at); is != x.p.has(at) {
			x.t.Errorf("%s: Has(%d): %v", why, at, is)
		}
	}
}

// wantGive gives a sector: the answer is e, by the words too.
func (x pair) wantGive(at int, e api.Errno) {
	x.t.Helper()
	why := fmt.Sprintf("of %d: Give(%d)", len(x.p), at)
	if ours := x.p.give(at); ours != e {
		x.t.Fatalf("%s: the words say %d, the test %d", why, ours, e)
	}
	if got := x.s.Give(at); got != e {
		x.t.Errorf("%s: %d, not %d", why, got, e)
	}
	x.wantAlike(why)
}

// wantFill gives several.
func (x pair) wantFill(from, to int, e api.Errno) {
	x.t.Helper()
	why := fmt.Sprintf("of %d: Fill(%d, %d)", len(x.p), from, to)
	if ours := x.p.fill(from, to); ours != e {
		x.t.Fatalf("%s: the words say %d, the test %d", why, ours, e)
	}
	if got := x.s.Fill(from, to); got != e {
		x.t.Errorf("%s: %d, not %d", why, got, e)
	}
	x.wantAlike(why)
}

// wantTake takes some: the answer is e, and, if that is OK, these.
func (x pair) wantTake(k int, e api.Errno, sectors ...int) {
	x.t.Helper()
	why := fmt.Sprintf("of %d: Take(%d)", len(x.p), k)
	if l, ours := x.p.take(k); ours != e || !slices.Equal(l, sectors) {
		x.t.Fatalf("%s: the words say %v, %d, the test %v, %d", why, l, ours, sectors, e)
	}
	if l, got := x.s.Take(k); got != e || !slices.Equal(l, sectors) {
		x.t.Errorf("%s: %v, %d, not %v, %d", why, l, got, sectors, e)
	}
	x.wantAlike(why)
}

// wantList holds the spans against these.
func (x pair) wantList(l ...api.Extent) {
	x.t.Helper()
	if got := x.s.List(); !slices.Equal(got, l) {
		x.t.Errorf("of %d: List: %v, not %v", len(x.p), got, l)
	}
}

// copied is a copy of both.
func (x pair) copied() pair {
	x.t.Helper()
	c := pair{x.t, x.s.Copy(), slices.Clone(x.p)}
	if c.s == nil {
		x.t.Fatal("Copy: nil")
	}
	return c
}

func extent(at, n int) api.Extent { return api.Extent{At: at, N: n} }

// ints are the n numbers from from on.
func ints(from, n int) []int {
	l := make([]int, n)
	for i := range l {
		l[i] = from + i
	}
	return l
}

// P12.1: nil, unless n is from 1 to 4096; else a set without sectors, of just n places.
func TestNew(t *testing.T) {
	for _, n := range []int{0, -1, -2, -4096, 4097, 4098, 8192, math.MinInt, math.MinInt + 1, math.MaxInt, math.MaxInt - 1, math.MaxInt32, 1 << 32, 1<<32 + 1} {
		if New(n) != nil {
			t.Errorf("New(%d): not nil", n)
		}
	}
	for _, n := range []int{1, 2, 3, 10, 63, 64, 65, 511, 512, 4095, 4096} {
		x := pairOf(t, n)
		x.wantAlike(fmt.Sprintf("New(%d)", n))
		x.wantTake(1, api.ErrFull)
		x.wantGive(n, api.ErrArg)
		x.wantFill(0, n+1, api.ErrArg)
		x.wantGive(n-1, api.OK)
		x.wantTake(1, api.OK, n-1)
		x.wantFill(0, n, api.OK)
		x.wantList(extent(0, n))
	}
}

// P12.1: two sets have nothing to do with each other.
func TestNewOnesAreApart(t *testing.T) {
	x, y := pairOf(t, 10), pairOf(t, 10)
	x.wantFill(2, 5, api.OK)
	y.wantAlike("the other one")
	y.wantGive(2, api.OK)
	y.wantTake(1, api.OK, 2)
	x.wantAlike("the first one")
}

// P12.1: of nil, and of what neither New nor Copy made: ErrNil, false, 0, none, nil, at all arguments.
func TestNotMade(t *testing.T) {
	numbers := []int{math.MinInt, -1, 0, 1, 2, 4096, 4097, math.MaxInt}
	for _, s := range []*Set{nil, {}, new(Set), New(0), New(4097), (*Set)(nil).Copy(), new(Set).Copy()} {
		for _, a := range numbers {
			if e := s.Give(a); e != api.ErrNil {
				t.Errorf("Give(%d): %d", a, e)
			}
			if l, e := s.Take(a); len(l) != 0 || e != api.ErrNil {
				t.Errorf("Take(%d): %v, %d", a, l, e)
			}
			if s.Has(a) {
				t.Errorf("Has(%d)", a)
			}
			for _, b := range numbers {
				if e := s.Fill(a, b); e != api.ErrNil {
					t.Errorf("Fill(%d, %d): %d", a, b, e)
				}
			}
		}
		if s.Count() != 0 || len(s.List()) != 0 || s.Copy() != nil {
			t.Errorf("%d, %v, %v", s.Count(), s.List(), s.Copy())
		}
	}
}

// P12.2: Give, at the edges of the set, and beyond them; what is refused changes nothing.
func TestGive(t *testing.T) {
	for _, n := range []int{1, 2, 10, 512, most} {
		for _, at := range []int{-1, -2, math.MinInt, math.MinInt + 1, math.MaxInt, math.MaxInt - 1, n, n + 1, -n} {
			pairOf(t, n).wantGive(at, api.ErrArg)
			pairOf(t, n, extent(0, n)).wantGive(at, api.ErrArg)
		}
		for _, at := range []int{0, n / 2, n - 1} {
			x := pairOf(t, n)
			x.wantGive(at, api.OK)
			x.wantList(extent(at, 1))
			x.wantGive(at, api.ErrThere)
			x.wantTake(1, api.OK, at)
			x.wantGive(at, api.OK)
			x.wantGive(at, api.ErrThere)
		}
	}
}

// P12.2: Give of one that the set has, wherever in a span it stands.
func TestGiveOfWhatIsThere(t *testing.T) {
	x := pairOf(t, 20, extent(3, 4), extent(9, 1), extent(15, 5))
	for _, at := range []int{3, 4, 5, 6, 9, 15, 17, 19} {
		x.wantGive(at, api.ErrThere)
	}
	for _, at := range []int{-1, 20, 21} {
		x.wantGive(at, api.ErrArg)
	}
	x.wantList(extent(3, 4), extent(9, 1), extent(15, 5))
}

// P12.2, P12.6: Give beside a span, ahead of it, behind it, and between two.
func TestGiveBesideASpan(t *testing.T) {
	for _, c := range []struct {
		at   int
		want []api.Extent
	}{
		{0, []api.Extent{extent(0, 1), extent(3, 2), extent(6, 2), extent(12, 1)}},
		{1, []api.Extent{extent(1, 1), extent(3, 2), extent(6, 2), extent(12, 1)}},
		{2, []api.Extent{extent(2, 3), extent(6, 2), extent(12, 1)}},
		{5, []api.Extent{extent(3, 5), extent(12, 1)}},
		{8, []api.Extent{extent(3, 2), extent(6, 3), extent(12, 1)}},
		{9, []api.Extent{extent(3, 2), extent(6, 2), extent(9, 1), extent(12, 1)}},
		{10, []api.Extent{extent(3, 2), extent(6, 2), extent(10, 1), extent(12, 1)}},
		{11, []api.Extent{extent(3, 2), extent(6, 2), extent(11, 2)}},
		{13, []api.Extent{extent(3, 2), extent(6, 2), extent(12, 2)}},
		{14, []api.Extent{extent(3, 2), extent(6, 2), extent(12, 1), extent(14, 1)}},
		{15, []api.Extent{extent(3, 2), extent(6, 2), extent(12, 1), extent(15, 1)}},
	} {
		x := pairOf(t, 16, extent(3, 2), extent(6, 2), extent(12, 1))
		x.wantGive(c.at, api.OK)
		x.wantList(c.want...)
	}
}

// P12.2: Fill, its arguments one by one; what is refused changes nothing.
func TestFillOfWrongPlaces(t *testing.T) {
	for _, n := range []int{1, 10, most} {
		for _, x := range []pair{pairOf(t, n), pairOf(t, n, extent(0, n))} {
			for _, c := range [][2]int{
				{1, 0}, {n, n - 1}, {n, 0}, {2, 1}, {n + 1, n}, {n, -1},
				{-1, 0}, {-1, 1}, {-1, n}, {-1, -1}, {-2, -1}, {-1, -2}, {-n, n}, {-1, n + 1},
				{0, n + 1}, {n - 1, n + 1}, {n, n + 1}, {n + 1, n + 1}, {n + 1, n + 2}, {0, 2 * n}, {0, n + 1<<32},
				{math.MinInt, math.MinInt}, {math.MinInt, 0}, {math.MinInt, n}, {math.MinInt, math.MaxInt}, {math.MaxInt, math.MinInt},
				{0, math.MaxInt}, {0, math.MinInt}, {math.MaxInt, math.MaxInt}, {math.MaxInt, 0}, {math.MaxInt, n}, {n, math.MaxInt}, {math.MaxInt - 1, math.MaxInt},
			} {
				x.wantFill(c[0], c[1], api.ErrArg)
			}
		}
	}
}

// P12.2: Fill of none is OK, at each place, within and beside a span too, and changes nothing.
func TestFillOfNone(t *testing.T) {
	x := pairOf(t, 10, extent(0, 1), extent(3, 4), extent(8, 2))
	for at := range 11 {
		x.wantFill(at, at, api.OK)
	}
	for _, n := range []int{1, 10, most} {
		empty, full := pairOf(t, n), pairOf(t, n, extent(0, n))
		for _, at := range []int{0, n / 2, n - 1, n} {
			empty.wantFill(at, at, api.OK)
			full.wantFill(at, at, api.OK)
		}
	}
}

// P12.2, P12.5: Fill of all, and of one, at the edges.
func TestFillOfAll(t *testing.T) {
	for _, n := range []int{1, 2, 10, most} {
		x := pairOf(t, n)
		x.wantFill(0, n, api.OK)
		x.wantList(extent(0, n))
		x.wantFill(0, n, api.ErrThere)
		x.wantFill(0, 1, api.ErrThere)
		x.wantFill(n-1, n, api.ErrThere)
		x.wantGive(0, api.ErrThere)
		x.wantGive(n-1, api.ErrThere)
		x.wantTake(n, api.OK, ints(0, n)...)
		x.wantFill(n-1, n, api.OK)
		x.wantList(extent(n-1, 1))
	}
}

// P12.2: Fill of sectors that the set has in part: at their beginning, in their midst, at their end, all of them, and more.
func TestFillOfWhatIsThereInPart(t *testing.T) {
	spans := []api.Extent{extent(4, 3), extent(9, 1), extent(12, 4)}
	for from := range 20 {
		for to := from + 1; to <= 20; to++ {
			x := pairOf(t, 20, spans...)
			e := api.OK
			for _, s := range spans {
				if from < s.At+s.N && s.At < to {
					e = api.ErrThere
				}
			}
			x.wantFill(from, to, e)
			if e == api.ErrThere {
				x.wantList(spans...)
			}
		}
	}
}

// P12.2, P12.6: Fill beside a span, ahead of it, behind it, and between two.
func TestFillBesideASpan(t *testing.T) {
	for _, c := range []struct {
		from, to int
		want     []api.Extent
	}{
		{0, 3, []api.Extent{extent(0, 3), extent(5, 2), extent(10, 3)}},
		{0, 4, []api.Extent{extent(0, 4), extent(5, 2), extent(10, 3)}},
		{0, 5, []api.Extent{extent(0, 7), extent(10, 3)}},
		{3, 5, []api.Extent{extent(3, 4), extent(10, 3)}},
		{7, 9, []api.Extent{extent(5, 4), extent(10, 3)}},
		{8, 9, []api.Extent{extent(5, 2), extent(8, 1), extent(10, 3)}},
		{8, 10, []api.Extent{extent(5, 2), extent(8, 5)}},
		{7, 10, []api.Extent{extent(5, 8)}},
		{13, 16, []api.Extent{extent(5, 2), extent(10, 6)}},
		{13, 20, []api.Extent{extent(5, 2), extent(10, 10)}},
		{14, 20, []api.Extent{extent(5, 2), extent(10, 3), extent(14, 6)}},
	} {
		x := pairOf(t, 20, extent(5, 2), extent(10, 3))
		x.wantFill(c.from, c.to, api.OK)
		x.wantList(c.want...)
	}
}

// P12.2, P12.6: in whatever order sectors come, the spans are the same ones.
func TestOrderMakesNoDifference(t *testing.T) {
	r := rand.New(rand.NewSource(12))
	sectors := []int{0, 1, 2, 3, 5, 7, 8, 10, 11, 12, 14, 19}
	for range 200 {
		r.Shuffle(len(sectors), func(i, j int) { sectors[i], sectors[j] = sectors[j], sectors[i] })
		x := pairOf(t, 20)
		for _, at := range sectors {
			x.wantGive(at, api.OK)
		}
		x.wantList(extent(0, 4), extent(5, 1), extent(7, 2), extent(10, 3), extent(14, 1), extent(19, 1))
	}
}

// P12.3: numbers below 1, of a set that has some, and of an empty one.
func TestTakeOfWrongNumbers(t *testing.T) {
	for _, k := range []int{0, -1, -2, -4096, math.MinInt, math.MinInt + 1} {
		pairOf(t, 10).wantTake(k, api.ErrArg)
		pairOf(t, 10, extent(2, 3), extent(6, 1)).wantTake(k, api.ErrArg)
	}
}

// P12.3: more than there are is told ErrFull, and takes none.
func TestTakeOfTooMany(t *testing.T) {
	x := pairOf(t, 10, extent(2, 3), extent(6, 1))
	for _, k := range []int{5, 6, 10, 11, 4097, 1 << 32, 1<<32 + 1, math.MaxInt, math.MaxInt - 1} {
		x.wantTake(k, api.ErrFull)
		pairOf(t, 10).wantTake(k, api.ErrFull)
	}
	x.wantTake(4, api.OK, 2, 3, 4, 6)
	x.wantTake(1, api.ErrFull)
	y := pairOf(t, most, extent(0, most))
	y.wantTake(most+1, api.ErrFull)
	y.wantTake(most, api.OK, ints(0, most)...)
	y.wantTake(1, api.ErrFull)
}

// P12.3: of one, of a part of a span, of a whole one, of several and a part of one, of all.
func TestTake(t *testing.T) {
	all := []int{1, 2, 3, 6, 8, 9, 15, 16, 17, 18}
	for k := 1; k <= len(all); k++ {
		x := pairOf(t, 20, extent(1, 3), extent(6, 1), extent(8, 2), extent(15, 4))
		x.wantTake(k, api.OK, all[:k]...)
		for rest := len(all) - k; rest > 0; rest-- {
			y := x.copied()
			y.wantTake(rest, api.OK, all[k:k+rest]...)
			y.wantTake(len(all)-k-rest+1, api.ErrFull)
		}
	}
	x := pairOf(t, 20, extent(1, 3), extent(6, 1), extent(8, 2), extent(15, 4))
	x.wantTake(2, api.OK, 1, 2)
	x.wantList(extent(3, 1), extent(6, 1), extent(8, 2), extent(15, 4))
	x.wantTake(3, api.OK, 3, 6, 8)
	x.wantList(extent(9, 1), extent(15, 4))
	x.wantTake(1, api.OK, 9)
	x.wantList(extent(15, 4))
	x.wantTake(4, api.OK, 15, 16, 17, 18)
	x.wantList()
}

// P12.3: of a set of the greatest size, one by one.
func TestTakeOneByOne(t *testing.T) {
	s := New(most)
	if e := s.Fill(0, most); e != api.OK {
		t.Fatal(e)
	}
	for at := range most {
		if l, e := s.Take(1); !slices.Equal(l, []int{at}) || e != api.OK || s.Count() != most-at-1 || s.Has(at) {
			t.Fatalf("%d: %v, %d", at, l, e)
		}
	}
}

// P12.3, P12.5: Give and Fill that come behind a Take, ahead of what is left, beside it, and behind it.
func TestTakeBehindGiveBehindTake(t *testing.T) {
	x := pairOf(t, 20, extent(4, 6))
	x.wantTake(3, api.OK, 4, 5, 6)
	x.wantGive(5, api.OK)
	x.wantFill(0, 2, api.OK)
	x.wantGive(10, api.OK)
	x.wantList(extent(0, 2), extent(5, 1), extent(7, 4))
	x.wantTake(4, api.OK, 0, 1, 5, 7)
	x.wantGive(7, api.OK)
	x.wantGive(7, api.ErrThere)
	x.wantFill(6, 8, api.ErrThere)
	x.wantFill(3, 7, api.OK)
	x.wantList(extent(3, 8))
	x.wantTake(8, api.OK, 3, 4, 5, 6, 7, 8, 9, 10)
	x.wantTake(1, api.ErrFull)
	x.wantFill(4, 6, api.OK)
	x.wantGive(3, api.OK)
	x.wantTake(2, api.OK, 3, 4)
	x.wantList(extent(5, 1))
}

// P12.3: a set of which all was taken is as a fresh one, of several spans too, again and again.
func TestTakeOfAllAgain(t *testing.T) {
	x := pairOf(t, 30)
	for n := 1; n <= 10; n++ {
		var sectors []int
		for i := range n {
			x.wantGive(3*i, api.OK)
			sectors = append(sectors, 3*i)
		}
		x.wantTake(n, api.OK, sectors...)
		x.wantList()
		x.wantTake(1, api.ErrFull)
	}
	x.wantFill(0, 30, api.OK)
	x.wantList(extent(0, 30))
}

// P12.4: Has of what isn't a place of the set.
func TestHasOfWrongPlaces(t *testing.T) {
	for _, x := range []pair{pairOf(t, 10), pairOf(t, 10, extent(0, 10)), pairOf(t, 10, extent(3, 2), extent(9, 1))} {
		for _, at := range []int{-1, -2, math.MinInt, math.MinInt + 1, 10, 11, 4096, math.MaxInt, math.MaxInt - 1, 1 << 32, 1<<32 + 3} {
			if x.s.Has(at) {
				t.Errorf("Has(%d)", at)
			}
		}
	}
}

// P12.4: Has and Count ahead of and behind each kind of call, told in numbers.
func TestHasAndCount(t *testing.T) {
	s := New(10)
	want := func(why string, count int, sectors ...int) {
		t.Helper()
		if s.Count() != count || len(sectors) != count {
			t.Errorf("%s: Count: %d", why, s.Count())
		}
		for at := range 10 {
			if s.Has(at) != slices.Contains(sectors, at) {
				t.Errorf("%s: Has(%d): %v", why, at, s.Has(at))
			}
		}
	}
	want("fresh", 0)
	s.Give(4)
	want("Give(4)", 1, 4)
	s.Give(4)
	want("Give(4) again", 1, 4)
	s.Fill(6, 9)
	want("Fill(6, 9)", 4, 4, 6, 7, 8)
	s.Fill(5, 7)
	want("Fill(5, 7)", 4, 4, 6, 7, 8)
	s.Take(5)
	want("Take(5)", 4, 4, 6, 7, 8)
	s.Take(2)
	want("Take(2)", 2, 7, 8)
	s.Fill(0, 7)
	want("Fill(0, 7)", 9, 0, 1, 2, 3, 4, 5, 6, 7, 8)
	s.Give(9)
	want("Give(9)", 10, 0, 1, 2, 3, 4, 5, 6, 7, 8, 9)
	s.Take(10)
	want("Take(10)", 0)
}

// P12.4: List of none, of one sector, of the first and the last, of several spans.
func TestList(t *testing.T) {
	for _, l := range [][]api.Extent{
		nil,
		{extent(5, 1)},
		{extent(0, 1)},
		{extent(99, 1)},
		{extent(0, 1), extent(99, 1)},
		{extent(0, 100)},
		{extent(0, 49), extent(50, 50)},
		{extent(1, 2), extent(4, 1), extent(6, 3), extent(10, 80), extent(98, 2)},
	} {
		x := pairOf(t, 100, l...)
		x.wantList(l...)
		backwards := slices.Clone(l)
		slices.Reverse(backwards)
		pairOf(t, 100, backwards...).wantList(l...)
	}
}

// P12.4, P12.6: as many spans as there may be.
func TestMostSpans(t *testing.T) {
	s := New(most)
	var want []api.Extent
	for at := 0; at < most; at += 2 {
		if e := s.Give(at); e != api.OK {
			t.Fatal(e)
		}
		want = append(want, extent(at, 1))
	}
	if l := s.List(); !slices.Equal(l, want) || s.Count() != most/2 {
		t.Errorf("%d spans, %d sectors", len(l), s.Count())
	}
	for at := most - 1; at > 0; at -= 2 {
		if e := s.Give(at); e != api.OK {
			t.Fatal(e)
		}
	}
	if l := s.List(); !slices.Equal(l, []api.Extent{extent(0, most)}) {
		t.Errorf("%v", l)
	}
}

// P12.4: a copy is the same, and of its own: whichever of both is changed, and how.
func TestCopy(t *testing.T) {
	changes := []func(x pair){
		func(x pair) { x.wantGive(0, api.OK) },
		func(x pair) { x.wantGive(4, api.OK) },
		func(x pair) { x.wantFill(7, 9, api.OK) },
		func(x pair) { x.wantFill(8, 10, api.OK) },
		func(x pair) { x.wantTake(1, api.OK, 2) },
		func(x pair) { x.wantTake(3, api.OK, 2, 3, 5) },
		func(x pair) { x.wantTake(4, api.OK, 2, 3, 5, 6); x.wantGive(9, api.OK) },
	}
	for _, change := range changes {
		x := pairOf(t, 10, extent(2, 2), extent(5, 2))
		c := x.copied()
		c.wantAlike("the copy")
		change(x)
		c.wantAlike("the copy, behind a change of the first one")
		c.wantList(extent(2, 2), extent(5, 2))

		x = pairOf(t, 10, extent(2, 2), extent(5, 2))
		c = x.copied()
		change(c)
		x.wantAlike("the first one, behind a change of the copy")
		x.wantList(extent(2, 2), extent(5, 2))
	}
}

// P12.4: copies of an empty set, and of a full one, and of a copy.
func TestCopyOfEmptyAndFull(t *testing.T) {
	for _, n := range []int{1, 10, most} {
		x := pairOf(t, n)
		c := x.copied()
		c.wantAlike("a copy of an empty one")
		c.wantGive(n, api.ErrArg)
		c.wantFill(0, n, api.OK)
		x.wantAlike("the empty one")
		d := c.copied()
		d.wantAlike("a copy of a full one")
		d.wantGive(0, api.ErrThere)
		d.wantTake(n, api.OK, ints(0, n)...)
		c.wantAlike("the full one")
		c.wantTake(1, api.OK, 0)
		d.wantAlike("the emptied one")
		d.wantFill(n, n+1, api.ErrArg)
	}
}

// P12.4: behind a Take of all the list still is one's own.
func TestCopyOfAnEmptiedOne(t *testing.T) {
	x := pairOf(t, 10, extent(1, 1), extent(4, 3))
	x.wantTake(4, api.OK, 1, 4, 5, 6)
	c := x.copied()
	x.wantGive(3, api.OK)
	c.wantAlike("the copy")
	c.wantGive(7, api.OK)
	c.wantGive(0, api.OK)
	x.wantAlike("the first one")
}

// P12.6: what List and Take answered is new memory: the caller may change it, and the set's own changes leave it as it was.
func TestAnswersAreNew(t *testing.T) {
	x := pairOf(t, 20, extent(2, 3), extent(7, 2), extent(12, 5))
	l := x.s.List()
	for i := range l {
		l[i] = extent(99, 99)
	}
	_ = append(l[:1], extent(98, 98))
	x.wantAlike("a changed List")

	l = x.s.List()
	taken, _ := x.s.Take(4)
	x.p.take(4)
	if !slices.Equal(l, []api.Extent{extent(2, 3), extent(7, 2), extent(12, 5)}) {
		t.Errorf("a List behind a Take: %v", l)
	}
	for i := range taken {
		taken[i] = 99
	}
	_ = append(taken[:0], 77, 78)
	x.wantAlike("a changed Take")

	taken, _ = x.s.Take(2)
	x.p.take(2)
	l = x.s.List()
	x.wantFill(0, 12, api.OK)
	x.wantTake(3, api.OK, 0, 1, 2)
	if !slices.Equal(taken, []int{8, 12}) || !slices.Equal(l, []api.Extent{extent(13, 4)}) {
		t.Errorf("behind a Fill: %v, %v", taken, l)
	}
}

// wantFollows holds a set against what follows of all the calls: given, those that came and were not taken since.
func wantFollows(t *testing.T, s *Set, given map[int]int) {
	t.Helper()
	told := 0
	behind := -1
	for _, e := range s.List() {
		if e.N < 1 || e.At <= behind {
			t.Fatalf("no gap, or none in it: %v", s.List())
		}
		behind = e.At + e.N
		for at := e.At; at < behind; at++ {
			told++
			if given[at] != 1 || !s.Has(at) {
				t.Fatalf("%d was given %d times, Has: %v", at, given[at], s.Has(at))
			}
		}
	}
	if told != len(given) || told != s.Count() {
		t.Fatalf("%d sectors in List, %d given, Count: %d", told, len(given), s.Count())
	}
}

// P12.5, P12.6: random runs of Give, Fill and Take: what is taken was given, and not taken since, nothing below it stays, and the rest is there.
func TestWhatIsTakenWasGiven(t *testing.T) {
	r := rand.New(rand.NewSource(125))
	for _, n := range []int{1, 2, 7, 40, 512} {
		s := New(n)
		given := map[int]int{}
		for range 2000 {
			switch r.Intn(4) {
			case 0, 1:
				if at := r.Intn(n); s.Give(at) == api.OK {
					given[at]++
				}
			case 2:
				from := r.Intn(n)
				to := min(n, from+r.Intn(6))
				if s.Fill(from, to) == api.OK {
					for at := from; at < to; at++ {
						given[at]++
					}
				}
			case 3:
				k := 1 + r.Intn(8)
				l, e := s.Take(k)
				if (e == api.OK) != (len(l) == k) || (e == api.OK) != (k <= len(given)) {
					t.Fatalf("Take(%d): %v, %d", k, l, e)
				}
				for i, at := range l {
					if given[at] != 1 || i > 0 && at <= l[i-1] {
						t.Fatalf("Take(%d): %v: %d was given %d times", k, l, at, given[at])
					}
					delete(given, at)
				}
				if left := s.List(); len(l) > 0 && len(left) > 0 && left[0].At < l[len(l)-1] {
					t.Fatalf("Take(%d): %v, and %v stays", k, l, left)
				}
			}
			wantFollows(t, s, given)
		}
	}
}

// someCall asks one call at random of a pair, and holds both answers against each other.
func (x pair) someCall(r *rand.Rand) {
	n := len(x.p)
	place := func() int { return r.Intn(n+4) - 2 }
	var why string
	switch r.Intn(3) {
	case 0:
		at := place()
		why = fmt.Sprintf("Give(%d)", at)
		if a, b := x.s.Give(at), x.p.give(at); a != b {
			x.t.Fatalf("of %d: %s: %d, not %d", n, why, a, b)
		}
	case 1:
		from := place()
		to := from + r.Intn(7) - 1
		why = fmt.Sprintf("Fill(%d, %d)", from, to)
		if a, b := x.s.Fill(from, to), x.p.fill(from, to); a != b {
			x.t.Fatalf("of %d: %s: %d, not %d", n, why, a, b)
		}
	case 2:
		k := r.Intn(7)
		why = fmt.Sprintf("Take(%d)", k)
		l, a := x.s.Take(k)
		m, b := x.p.take(k)
		if a != b || !slices.Equal(l, m) {
			x.t.Fatalf("of %d: %s: %v, %d, not %v, %d", n, why, l, a, m, b)
		}
	}
	x.wantAlike(why)
}

// P12.2 to P12.4: random runs of all calls, on copies too, against the words.
func TestManyCalls(t *testing.T) {
	r := rand.New(rand.NewSource(120))
	for round := range 60 {
		x := pairOf(t, 1+r.Intn(40))
		var kept []pair
		for range 120 {
			x.someCall(r)
			if r.Intn(20) == 0 {
				kept = append(kept, x.copied())
			}
		}
		for _, c := range kept {
			c.wantAlike("a copy")
			for range 10 {
				c.someCall(r)
			}
		}
		x.wantAlike("the first one")
		if t.Failed() {
			t.Fatalf("round %d", round)
		}
	}
}

// P12.6: no call panics, whatever it is given, in whatever state a set is.
func TestNothingPanics(t *testing.T) {
	numbers := []int{math.MinInt, math.MinInt + 1, -4097, -1, 0, 1, 2, 9, 10, 11, 4095, 4096, 4097, math.MaxInt - 1, math.MaxInt}
	emptied := New(10)
	emptied.Fill(2, 4)
	emptied.Take(2)
	full := New(10)
	full.Fill(0, 10)
	some := New(10)
	some.Fill(2, 4)
	some.Give(8)
	for _, first := range []*Set{nil, {}, New(1), New(10), New(most), emptied, full, some} {
		for _, a := range numbers {
			New(a)
			for _, b := range numbers {
				s := first.Copy()
				s.Give(a)
				s.Fill(a, b)
				s.Has(a)
				s.Take(b)
				s.Fill(b, a)
				s.Take(a)
				s.List()
				s.Count()
				s.Copy()
			}
		}
	}
}

// P12.6: sets of which the value was copied by hand have a list in common, and yet don't panic.
func TestValuesDoNotPanic(t *testing.T) {
	r := rand.New(rand.NewSource(126))
	for range 300 {
		s := New(30)
		for at := 0; at < 30; at += 3 {
			s.Give(at)
		}
		twin := *s
		for range 30 {
			for _, one := range []*Set{s, &twin} {
				one.Take(r.Intn(5))
				one.Give(r.Intn(30))
				one.Fill(r.Intn(15), 15+r.Intn(15))
				one.Has(r.Intn(30))
				one.List()
			}
		}
	}
}

// The chapter's examples.
func TestExamples(t *testing.T) {
	s := New(10)
	for i, c := range []struct{ got, want api.Errno }{
		{s.Fill(2, 6), api.OK},
		{s.Give(8), api.OK},
		{s.Give(8), api.ErrThere},
		{s.Give(10), api.ErrArg},
		{s.Fill(5, 9), api.ErrThere},
	} {
		if c.got != c.want {
			t.Errorf("%d: %d, not %d", i, c.got, c.want)
		}
	}
	if l := s.List(); !slices.Equal(l, []api.Extent{{At: 2, N: 4}, {At: 8, N: 1}}) {
		t.Errorf("%v", l)
	}
	for i, c := range []struct {
		k    int
		want []int
		e    api.Errno
	}{{2, []int{2, 3}, api.OK}, {4, nil, api.ErrFull}, {0, nil, api.ErrArg}} {
		if l, e := s.Take(c.k); !slices.Equal(l, c.want) || e != c.e {
			t.Errorf("%d: %v, %d", i, l, e)
		}
	}
	if l := s.List(); !slices.Equal(l, []api.Extent{{At: 4, N: 2}, {At: 8, N: 1}}) || s.Count() != 3 {
		t.Errorf("%v, %d", l, s.Count())
	}
	if e, f := s.Give(6), s.Give(7); e != api.OK || f != api.OK {
		t.Errorf("%d, %d", e, f)
	}
	if l := s.List(); !slices.Equal(l, []api.Extent{{At: 4, N: 5}}) {
		t.Errorf("%v", l)
	}
	if l, e := s.Take(5); !slices.Equal(l, []int{4, 5, 6, 7, 8}) || e != api.OK {
		t.Errorf("%v, %d", l, e)
	}
	if New(0) != nil || New(4097) != nil {
		t.Error("New")
	}
}
