package tests

import (
	"testing"

	"loop.example/g01222/impl"
)

func TestModesExampleOfTheSpring(t *testing.T) {
	b := bodyOf(impl.Mesh{Places: []impl.Vector{vec(0, 0, 0), vec(1, 0, 0)}}, spring(0, 1, 1, 2))
	v := []impl.Vector{{}, vec(1, 0, 0)}
	for _, step := range []float32{0.5, 0.25, 1.0 / 1024} {
		list, ok := impl.StiffTimes(b, []int64{0}, v, step)
		wantOk(t, told("stiffness with", step), list, ok, []impl.Vector{{}, vec(2, 0, 0)})
		stiff, ok := impl.RayleighOf(b, []int64{0}, v, step)
		wantSum(t, told("stiffness along it with", step), stiff, ok, 2)
	}
}
