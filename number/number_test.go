package number

import (
	"math"
	"math/big"
	"math/rand"
	"testing"

	"rillbed/api"
)

const (
	nought      = uint64(0)
	minusNought = uint64(1 << 63)
	inf         = uint64(0x7ff0000000000000)
	minusInf    = uint64(0xfff0000000000000)
	nan         = uint64(0x7ff8000000000001)
)

var nans = []uint64{
	0x7ff0000000000001, 0x7ff7ffffffffffff, 0x7ff8000000000000, nan, 0x7ff8000000000002, 0x7fffffffffffffff,
	0xfff0000000000001, 0xfff7ffffffffffff, 0xfff8000000000000, 0xfff8000000000001, 0xffffffffffffffff,
}

// rising: marks that say no NaN, from the least float to the greatest; -0 stands ahead of 0.
var rising = []uint64{
	minusInf,
	0xffefffffffffffff, // the least finite float
	bitsOf(-1 << 52),
	bitsOf(-1<<26 - 1), bitsOf(-1 << 26), bitsOf(-1<<26 + 1),
	bitsOf(-3), bitsOf(-1.5), bitsOf(-1),
	0x8010000000000001, 0x8010000000000000, // about the normal one nearest to 0
	0x800fffffffffffff, 0x8000000000000002, 0x8000000000000001, // subnormal
	minusNought, nought,
	0x0000000000000001, 0x0000000000000002, 0x000fffffffffffff,
	0x0010000000000000, 0x0010000000000001,
	bitsOf(0.1), bitsOf(0.5), bitsOf(1), 0x3ff0000000000001, bitsOf(1.5), bitsOf(3),
	bitsOf(1<<26 - 1), bitsOf(1 << 26), bitsOf(1<<26 + 1),
	bitsOf(1 << 52), bitsOf(1 << 53), bitsOf(1<<53 + 2),
	0x7feffffffffffffe, 0x7fefffffffffffff,
	inf,
}

func bitsOf(f float64) uint64 { return math.Float64bits(f) }

func saysNaN(x uint64) bool {
	return x>>52&0x7ff == 0x7ff && x&(1<<52-1) != 0
}

func quietOf(x uint64) uint64 {
	if saysNaN(x) {
		return nan
	}
	return x
}

// manyMarks: the edges, and marks of all exponents, chosen the same way in each run.
func manyMarks() []uint64 {
	out := append(append([]uint64{}, nans...), rising...)
	r := rand.New(rand.NewSource(1))
	for range 150 {
		out = append(out, r.Uint64())
	}
	for range 40 { // exponents near each other, so that sums round and cancel
		out = append(out, uint64(1000+r.Intn(60))<<52|r.Uint64()&(1<<52-1|1<<63))
	}
	for range 20 { // near 0
		out = append(out, r.Uint64()&(1<<54-1|1<<63))
	}
	return out
}

func apply(t *testing.T, x uint64, op uint8, by uint64) uint64 {
	t.Helper()
	y, e := Apply(x, Step{Op: op, By: by})
	if e != api.OK {
		t.Fatalf("Apply(%#x, {%d %#x}): error %d", x, op, by, e)
	}
	return y
}

func TestStepKinds(t *testing.T) {
	if Set != 1 || Add != 2 || Greatest != 3 || Least != 4 || Times != 5 {
		t.Error(Set, Add, Greatest, Least, Times)
	}
}

// P1.1
func TestQuiet(t *testing.T) {
	for _, x := range nans {
		if got := Quiet(x); got != nan {
			t.Errorf("Quiet(%#x) = %#x", x, got)
		}
	}
	for _, x := range rising {
		if got := Quiet(x); got != x {
			t.Errorf("Quiet(%#x) = %#x", x, got)
		}
	}
	for _, x := range manyMarks() {
		if got := Quiet(x); got != quietOf(x) {
			t.Errorf("Quiet(%#x) = %#x", x, got)
		}
	}
}

// P1.1
func TestOrderAndBack(t *testing.T) {
	for _, c := range []struct{ mark, order uint64 }{
		{nought, 0x8000000000000000},
		{minusNought, 0x7fffffffffffffff},
		{1, 0x8000000000000001},
		{0x8000000000000001, 0x7ffffffffffffffe},
		{0x3ff8000000000000, 0xbff8000000000000},
		{0xbff8000000000000, 0x4007ffffffffffff},
		{inf, 0xfff0000000000000},
		{minusInf, 0x000fffffffffffff},
		{0x7fffffffffffffff, 0xffffffffffffffff},
		{0xffffffffffffffff, 0},
	} {
		if got := Order(c.mark); got != c.order {
			t.Errorf("Order(%#x) = %#x, not %#x", c.mark, got, c.order)
		}
		if got := Back(c.order); got != c.mark {
			t.Errorf("Back(%#x) = %#x, not %#x", c.order, got, c.mark)
		}
	}
}

// P1.1
func TestSame(t *testing.T) {
	for i, a := range rising {
		for j, b := range rising {
			want := i == j || a|b == minusNought && a&b == 0
			if got := Same(a, b); got != want {
				t.Errorf("Same(%#x, %#x) = %t", a, b, got)
			}
		}
	}
	for _, a := range nans {
		for _, b := range manyMarks() {
			if Same(a, b) || Same(b, a) {
				t.Errorf("%#x is the same as %#x", a, b)
			}
		}
	}
}

// P1.2: wrong steps.
func TestApplyOfNoStep(t *testing.T) {
	for op := 0; op < 256; op++ {
		for _, x := range []uint64{nought, minusNought, bitsOf(1.5), inf, nan, 0xffffffffffffffff} {
			got, e := Apply(x, Step{Op: uint8(op), By: bitsOf(2.25)})
			right := Set <= op && op <= Times
			if right && e != api.OK {
				t.Errorf("Op %d of %#x: error %d", op, x, e)
			}
			if !right && (e != api.ErrArg || got != 0) {
				t.Errorf("Op %d of %#x: %#x, error %d", op, x, got, e)
			}
		}
	}
}

// P1.2
func TestApplySet(t *testing.T) {
	for _, x := range []uint64{nought, bitsOf(1.5), inf, nan, 0xfff0000000000001} {
		for _, by := range manyMarks() {
			if got := apply(t, x, Set, by); got != quietOf(by) {
				t.Errorf("%#x set to %#x: %#x", x, by, got)
			}
		}
	}
}

// P1.2: sums and products, held against exact ones that are rounded once.
func TestApplyAddAndTimes(t *testing.T) {
	marks := manyMarks()
	for _, x := range marks {
		for _, by := range marks {
			if got, want := apply(t, x, Add, by), exactSum(x, by); got != want {
				t.Errorf("%#x Add %#x: %#x, not %#x", x, by, got, want)
			}
			if got, want := apply(t, x, Times, by), exactProduct(x, by); got != want {
				t.Errorf("%#x Times %#x: %#x, not %#x", x, by, got, want)
			}
		}
	}
}

// exactFloat holds any sum of two float64 without rounding: they lie between 2^-1074 and 2^1024.
func exactFloat(x uint64) *big.Float {
	return new(big.Float).SetPrec(2200).SetFloat64(math.Float64frombits(x))
}

func roundedOnce(f *big.Float) uint64 {
	out, _ := f.Float64()
	return bitsOf(out)
}

func exactSum(x, by uint64) uint64 {
	if saysNaN(x) || saysNaN(by) || x == inf && by == minusInf || x == minusInf && by == inf {
		return nan
	}
	return roundedOnce(new(big.Float).SetPrec(2200).Add(exactFloat(x), exactFloat(by)))
}

func exactProduct(x, by uint64) uint64 {
	isInf := func(m uint64) bool { return m&^minusNought == inf }
	isNought := func(m uint64) bool { return m&^minusNought == nought }
	if saysNaN(x) || saysNaN(by) || isInf(x) && isNought(by) || isNought(x) && isInf(by) {
		return nan
	}
	return roundedOnce(new(big.Float).SetPrec(2200).Mul(exactFloat(x), exactFloat(by)))
}

// P1.2: the edges of IEEE 754, written out.
func TestApplyEdges(t *testing.T) {
	for _, c := range []struct {
		x       uint64
		op      uint8
		by, out uint64
	}{
		{inf, Add, minusInf, nan},
		{inf, Add, inf, inf},
		{minusInf, Add, bitsOf(5), minusInf},
		{nought, Add, minusNought, nought},
		{minusNought, Add, nought, nought},
		{minusNought, Add, minusNought, minusNought},
		{bitsOf(1.5), Add, bitsOf(-1.5), nought},
		{inf, Times, nought, nan},
		{minusNought, Times, inf, nan},
		{inf, Times, bitsOf(-2), minusInf},
		{nought, Times, bitsOf(-1), minusNought},
		{minusNought, Times, bitsOf(-1), nought},
		{0x7fefffffffffffff, Add, 0x7fefffffffffffff, inf},
		{0x7fefffffffffffff, Add, bitsOf(1), 0x7fefffffffffffff},
		{0xffefffffffffffff, Times, bitsOf(2), minusInf},
		{1, Add, 1, 2},
		{1, Times, bitsOf(0.5), nought}, // a tie, to even
		{3, Times, bitsOf(0.5), 2},      // a tie, to even
		{0x8000000000000001, Times, bitsOf(0.5), minusNought},
		{0x0010000000000000, Times, bitsOf(0.5), 0x0008000000000000},
		{0x0010000000000000, Add, 0x8000000000000001, 0x000fffffffffffff},
		{bitsOf(1 << 53), Add, bitsOf(1), bitsOf(1 << 53)},     // a tie, to even
		{bitsOf(1<<53 + 2), Add, bitsOf(1), bitsOf(1<<53 + 4)}, // a tie, to even
		{0xfff0000000000001, Add, bitsOf(1), nan},
		{bitsOf(1), Times, 0xffffffffffffffff, nan},
	} {
		if got := apply(t, c.x, c.op, c.by); got != c.out {
			t.Errorf("Apply(%#x, {%d %#x}) = %#x, not %#x", c.x, c.op, c.by, got, c.out)
		}
	}
}

// P1.2: of marks that say no NaN the place in rising tells which is greater.
func TestApplyGreatestAndLeast(t *testing.T) {
	for i, x := range rising {
		for j, by := range rising {
			if got := apply(t, x, Greatest, by); got != rising[max(i, j)] {
				t.Errorf("%#x Greatest %#x: %#x", x, by, got)
			}
			if got := apply(t, x, Least, by); got != rising[min(i, j)] {
				t.Errorf("%#x Least %#x: %#x", x, by, got)
			}
		}
	}
}

// P1.2: a NaN is made quiet ahead of the choice, and so stands above all else, also one with the sign bit.
func TestApplyGreatestAndLeastOfNaN(t *testing.T) {
	for _, a := range nans {
		for _, b := range rising {
			if x, y := apply(t, a, Greatest, b), apply(t, b, Greatest, a); x != nan || y != nan {
				t.Errorf("greatest of %#x and %#x: %#x, %#x", a, b, x, y)
			}
			if x, y := apply(t, a, Least, b), apply(t, b, Least, a); x != b || y != b {
				t.Errorf("least of %#x and %#x: %#x, %#x", a, b, x, y)
			}
		}
		for _, b := range nans {
			if x, y := apply(t, a, Greatest, b), apply(t, a, Least, b); x != nan || y != nan {
				t.Errorf("of %#x and %#x: %#x, %#x", a, b, x, y)
			}
		}
	}
}

// P1.3
func TestOrdersRise(t *testing.T) {
	for i := 1; i < len(rising); i++ {
		if Order(rising[i-1]) >= Order(rising[i]) {
			t.Errorf("Order(%#x) is not below Order(%#x)", rising[i-1], rising[i])
		}
	}
	if Order(minusNought)+1 != Order(nought) {
		t.Error("between the orders of -0 and 0 stands something")
	}
	for _, x := range nans {
		negative := x>>63 == 1
		if negative && Order(x) >= Order(minusInf) || !negative && Order(x) <= Order(inf) {
			t.Errorf("Order(%#x) = %#x", x, Order(x))
		}
	}
}

// P1.3
func TestOrdersOfManyMarks(t *testing.T) {
	marks := manyMarks()
	for _, a := range marks {
		if Back(Order(a)) != a || Order(Back(a)) != a {
			t.Errorf("of %#x: Back of Order %#x, Order of Back %#x", a, Back(Order(a)), Order(Back(a)))
		}
		for _, b := range marks {
			if math.Float64frombits(a) < math.Float64frombits(b) && Order(a) >= Order(b) {
				t.Errorf("Order(%#x) is not below Order(%#x)", a, b)
			}
		}
	}
}

// P1.4
func TestOrderOfTheTwo(t *testing.T) {
	marks := manyMarks()
	for _, op := range []uint8{Add, Times, Greatest, Least} {
		for _, a := range marks {
			for _, b := range marks {
				x, y := apply(t, a, op, b), apply(t, b, op, a)
				if x != y {
					t.Errorf("Op %d of %#x and %#x: %#x, the other way round %#x", op, a, b, x, y)
				}
			}
		}
	}
}

// P1.4
func TestGreatestAndLeastOfItself(t *testing.T) {
	for _, x := range manyMarks() {
		q := Quiet(x)
		if g, l := apply(t, q, Greatest, q), apply(t, q, Least, q); g != q || l != q {
			t.Errorf("of %#x and itself: greatest %#x, least %#x", q, g, l)
		}
	}
}

// P1.4
func TestOutcomesAreQuiet(t *testing.T) {
	marks := manyMarks()
	for op := uint8(Set); op <= Times; op++ {
		for _, a := range marks {
			for _, b := range marks {
				if got := apply(t, a, op, b); saysNaN(got) && got != nan {
					t.Errorf("Apply(%#x, {%d %#x}) = %#x", a, op, b, got)
				}
			}
		}
	}
}

// P1.5
func TestWholeNumbersAreExact(t *testing.T) {
	const most = 1 << 26
	whole := []int64{-most, -most + 1, -most + 2, -12345679, -4097, -3, -2, -1, 0, 1, 2, 3, 4097, 12345679, most - 2, most - 1, most}
	r := rand.New(rand.NewSource(2))
	for range 200 {
		whole = append(whole, r.Int63n(2*most+1)-most)
	}
	for _, a := range whole {
		for _, b := range whole {
			x, y := bitsOf(float64(a)), bitsOf(float64(b))
			if got := math.Float64frombits(apply(t, x, Add, y)); int64(got) != a+b || got != math.Trunc(got) {
				t.Errorf("%d Add %d: %v", a, b, got)
			}
			if got := math.Float64frombits(apply(t, x, Times, y)); int64(got) != a*b || got != math.Trunc(got) {
				t.Errorf("%d Times %d: %v", a, b, got)
			}
		}
	}
}

// The chapter's examples.
func TestExamples(t *testing.T) {
	if Quiet(0xfff0000000000001) != 0x7ff8000000000001 || Quiet(minusNought) != minusNought {
		t.Error("Quiet")
	}
	if Order(nought) != 0x8000000000000000 || Order(minusNought) != 0x7fffffffffffffff || Order(0x3ff8000000000000) != 0xbff8000000000000 {
		t.Error("Order")
	}
	for _, c := range []struct {
		x       uint64
		op      uint8
		by, out uint64
	}{
		{0x3ff8000000000000, Add, bitsOf(2.25), bitsOf(3.75)},
		{0x3ff8000000000000, Times, bitsOf(-2), bitsOf(-3)},
		{0x3ff8000000000000, Greatest, bitsOf(-1), 0x3ff8000000000000},
		{0x3ff8000000000000, Least, nan, 0x3ff8000000000000},
		{inf, Add, minusInf, nan},
		{inf, Times, nought, nan},
		{nought, Add, minusNought, nought},
		{nought, Times, bitsOf(-1), minusNought},
		{nought, Greatest, minusNought, nought},
	} {
		if got := apply(t, c.x, c.op, c.by); got != c.out {
			t.Errorf("Apply(%#x, {%d %#x}) = %#x, not %#x", c.x, c.op, c.by, got, c.out)
		}
	}
	for _, op := range []uint8{0, 6} {
		if x, e := Apply(bitsOf(1.5), Step{Op: op}); x != 0 || e != api.ErrArg {
			t.Errorf("Op %d: %#x, error %d", op, x, e)
		}
	}
	if Same(nan, nan) || !Same(nought, minusNought) {
		t.Error("Same")
	}
}
