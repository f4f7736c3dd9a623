package tests

import (
	"testing"

	"loop.example/g01222/impl"
)

func TestNumbersExampleOfBits(t *testing.T) {
	if got := impl.BitsOf(1); got != 1065353216 {
		t.Errorf("bits of 1: %d", got)
	}
	if got, ok := impl.NumbersText([]float32{1}); got != "3f800000" || !ok {
		t.Errorf("text of 1: %q, %v", got, ok)
	}
}

func TestNumbersExampleOfFlushing(t *testing.T) {
	x, ok := impl.FromBits(1)
	if !ok || x == 0 {
		t.Errorf("the number with the bits 1: %v, %v", x, ok)
	}
	wantNumber(t, "flushed", impl.FlushNumber(x), 0)
}

func TestNumbersExamplesOfFunctions(t *testing.T) {
	wantNumber(t, "sine of 0.25", impl.SineTurns(0.25), 1)
	wantNumber(t, "angle of 1 and 0", impl.AngleTurns(1, 0), 0.25)
	wantNumber(t, "angle of 0 and -2", impl.AngleTurns(0, -2), 0.5)
}

func TestNumbersExamplesOfVectors(t *testing.T) {
	wantVector(t, "cross", impl.CrossOf(impl.Vector{X: 1}, impl.Vector{Y: 1}), impl.Vector{Z: 1})
	wantNumber(t, "length", impl.LongOf(impl.Vector{X: 3, Y: 4}), 5)
}
