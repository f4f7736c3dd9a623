package tests

import (
	"testing"

	"loop.example/g01222/impl"
)

func TestMendingExampleOfTheGrid(t *testing.T) {
	grid, _ := impl.GridMesh(1, 1, 1)
	want(t, "can 0 3 be flipped", impl.CanFlip(grid, 0, 3), true)
	gain, ok := impl.FlipGain(grid, 0, 3)
	wantSum(t, "gain", gain, ok, 0)
	flipped, ok := impl.FlipEdge(grid, 0, 3)
	wantMesh(t, "flipped", flipped, ok, grid.Places, [][]int64{{1, 3, 2}, {0, 1, 2}})
}
