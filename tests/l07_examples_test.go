package tests

import (
	"testing"

	"loop.example/g01222/impl"
)

func TestWorkersExampleOfTheColours(t *testing.T) {
	b := bodyOf(meshOf(4), spring(0, 1, 1, 1), spring(1, 2, 1, 1), spring(2, 3, 1, 1))
	colours, ok := impl.ColoursOf(b)
	wantOk(t, "colours", colours, ok, []int64{0, 1, 0})
	count, ok := impl.CountColours(b)
	wantOk(t, "count", count, ok, 2)
}

func TestWorkersExampleOfTheSpring(t *testing.T) {
	b := bodyOf(impl.Mesh{Places: []impl.Vector{vec(0, 0, 0), vec(3, 0, 0)}}, spring(0, 1, 1, 1))
	next, ok := impl.ProjectSpring(b, nil, 0)
	wantBody(t, "projected", next, ok, movedTo(b, vec(1, 0, 0), vec(2, 0, 0)))
}
