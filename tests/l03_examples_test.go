package tests

import (
	"testing"

	"loop.example/g01222/impl"
)

func TestEnergiesExampleOfTheSpring(t *testing.T) {
	m := impl.Mesh{Places: []impl.Vector{vec(1, 1, 1), vec(4, 1, 1)}}
	b := bodyOf(m, spring(0, 1, 1, 2))
	energy, ok := impl.EnergyOf(b)
	wantSum(t, "energy", energy, ok, 4)
	pull, ok := impl.PullOf(b, 0)
	wantOk(t, "pull", pull, ok, vec(4, 0, 0))
	wantNumber(t, "length of the pull", impl.LongOf(pull), 4)
	forces, ok := impl.ForcesOf(b)
	wantVectors(t, "forces", forces, ok, []impl.Vector{vec(4, 0, 0), vec(-4, 0, 0)})
}

func TestEnergiesExampleOfTheFilm(t *testing.T) {
	m := impl.Mesh{Places: []impl.Vector{vec(0, 0, 0), vec(1, 0, 0), vec(0, 1, 0)}, Triangles: [][]int64{tri(0, 1, 2)}}
	b := bodyOf(m)
	b.Film = 1
	energy, ok := impl.EnergyOf(b)
	wantSum(t, "energy", energy, ok, 0.5)
	parts, ok := impl.PartsOf(b)
	wantOk(t, "parts", parts, ok, []float32{0, 0.5, 0, 0})
}
