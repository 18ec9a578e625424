// Package number is layer 1: see shared/doc/01-number.md.
package number

import (
	"math"

	"rillbed/api"
)

// The steps' kinds.
const (
	Set      = 1
	Add      = 2
	Greatest = 3
	Least    = 4
	Times    = 5
)

const (
	quietNaN = 0x7ff8000000000001
	signBit  = 1 << 63
)

// Step is what is done with a mark.
type Step struct {
	Op uint8
	By uint64
}

// Quiet: P1.1.
func Quiet(x uint64) uint64 {
	if math.IsNaN(math.Float64frombits(x)) {
		return quietNaN
	}
	return x
}

// Order: P1.1.
func Order(x uint64) uint64 {
	if x&signBit != 0 {
		return ^x
	}
	return x | signBit
}

// Back: P1.1.
func Back(o uint64) uint64 {
	// Orders with the highest bit set are those of marks without it, so the two cases stand the other way round than in Order.
	if o&signBit != 0 {
		return o &^ signBit
	}
	return ^o
}

// Same: P1.1.
func Same(a, b uint64) bool {
	return math.Float64frombits(a) == math.Float64frombits(b)
}

// Apply: P1.2.
func Apply(x uint64, s Step) (uint64, api.Errno) {
	does := doing(s)
	if does == nil {
		return 0, api.ErrArg
	}
	return does(x), api.OK
}

// doing is what the step does with a mark; nil, if it is no step.
func doing(s Step) func(uint64) uint64 {
	switch s.Op {
	case Set:
		return func(uint64) uint64 { return Quiet(s.By) }
	case Add:
		return onFloats(s.By, func(x, by float64) float64 { return x + by })
	case Greatest:
		return func(x uint64) uint64 { return greater(Quiet(x), Quiet(s.By)) }
	case Least:
		return func(x uint64) uint64 { return lesser(Quiet(x), Quiet(s.By)) }
	case Times:
		return onFloats(s.By, func(x, by float64) float64 { return x * by })
	}
	return nil
}

// onFloats makes of a reckoning with two floats one of marks. Its outcome is made quiet because which NaN comes out of a sum or product hangs on the machine.
func onFloats(by uint64, reckon func(x, by float64) float64) func(uint64) uint64 {
	return func(x uint64) uint64 {
		outcome := reckon(math.Float64frombits(x), math.Float64frombits(by))
		return Quiet(math.Float64bits(outcome))
	}
}

func greater(a, b uint64) uint64 {
	if Order(a) > Order(b) {
		return a
	}
	return b
}

func lesser(a, b uint64) uint64 {
	if Order(a) < Order(b) {
		return a
	}
	return b
}
