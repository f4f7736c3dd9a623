package tests

import (
	"testing"

	"loop.example/g01222/impl"
)

func TestMeshesExampleOfTheGrid(t *testing.T) {
	grid, ok := impl.GridMesh(1, 1, 2)
	if !ok || len(grid.Places) != 4 {
		t.Errorf("grid 1 wide and 1 high: %d places, %v", len(grid.Places), ok)
	}
	edges, ok := impl.EdgesOf(grid)
	wantOk(t, "number of edges", len(edges), ok, 5)
	euler, ok := impl.EulerOf(grid)
	wantOk(t, "number of Euler", euler, ok, 1)
	area, ok := impl.AreaOf(grid)
	wantSum(t, "area", area, ok, 4)
}

func TestMeshesExampleOfBoxesAndBalls(t *testing.T) {
	for _, size := range []float32{num(1), 0.3, 1, 7, 1e30} {
		box, ok := impl.BoxMesh(size)
		wantEuler(t, "box", box, ok, 2)
		for rounds := range int64(2) {
			ball, ok := impl.BallMesh(rounds, size)
			wantEuler(t, "ball", ball, ok, 2)
		}
	}
}

func wantEuler(t *testing.T, what string, m impl.Mesh, ok bool, expected int64) {
	t.Helper()
	if !ok {
		t.Errorf("%s failed", what)
	}
	euler, ok := impl.EulerOf(m)
	wantOk(t, "number of Euler of a "+what, euler, ok, expected)
}
