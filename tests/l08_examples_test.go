package tests

import (
	"testing"

	"loop.example/g01222/impl"
)

func TestFilmsExampleOfTheFunctions(t *testing.T) {
	wantNumber(t, "CoshNumber of 0", impl.CoshNumber(0), 1)
	wantNumber(t, "SinhNumber of 0", impl.SinhNumber(0), 0)
}

func TestFilmsExampleOfTheBubbles(t *testing.T) {
	wall, ok := impl.WallRadius(1, 2)
	wantSum(t, "wall between 1 and 2", wall, ok, 2)
	pressure, ok := impl.BubblePressure(1, 2)
	wantSum(t, "pressure of a film of 1", pressure, ok, 2)
}
