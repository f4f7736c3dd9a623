package tests

import (
	"testing"

	"loop.example/g01222/impl"
)

func TestHoldsExampleOfTheForce(t *testing.T) {
	line := impl.Hold{Kind: impl.HoldLine, Way: vec(1, 0, 0)}
	left, ok := impl.HoldForce(line, vec(3, 4, 5))
	wantOk(t, "left on a line", left, ok, vec(3, 0, 0))
	plane := impl.Hold{Kind: impl.HoldPlane, Way: vec(1, 0, 0)}
	left, ok = impl.HoldForce(plane, vec(3, 4, 5))
	wantOk(t, "left on a plane", left, ok, vec(0, 4, 5))
}

func TestGasesExampleOfThePressure(t *testing.T) {
	pressure, ok := impl.PressureOf(6, 2)
	wantSum(t, "pressure", pressure, ok, 3)
}
