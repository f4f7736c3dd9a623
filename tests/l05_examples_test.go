package tests

import (
	"testing"

	"loop.example/g01222/impl"
)

func TestDescentExampleOfTheSpring(t *testing.T) {
	b := bodyOf(impl.Mesh{Places: []impl.Vector{vec(0, 0, 0), vec(3, 0, 0)}}, spring(0, 1, 1, 1))
	held := []int64{0}
	pull, ok := impl.PullOf(b, 0)
	wantOk(t, "pull", pull, ok, vec(2, 0, 0))
	forces, ok := impl.FreeForces(b, held)
	wantVectors(t, "free forces", forces, ok, []impl.Vector{vec(0, 0, 0), vec(-2, 0, 0)})
	rest, ok := impl.RestOf(b, held)
	wantSum(t, "free force", rest, ok, 2)
	next, halves, less, ok := impl.StepDown(b, held, 1)
	wantStep(t, "step of 1", next, halves, less, ok, bar(1, 1), 0)
	energy, ok := impl.EnergyOf(next)
	wantSum(t, "energy", energy, ok, 0)
	rest, ok = impl.RestOf(next, held)
	wantSum(t, "free force at rest", rest, ok, 0)
}
