package tests

import (
	"testing"

	"loop.example/g01222/impl"
)

func TestClothExampleOfTheThread(t *testing.T) {
	c := threadAt(vec(0, 0, 0), vec(2, 0, 0), 1)
	pulled, ok := impl.PullThread(c, 0)
	wantCloth(t, "a thread of the length 1", pulled, ok, withPlaces(c, vec(0.5, 0, 0), vec(1.5, 0, 0)))
}

func TestClothExampleOfTheGrid(t *testing.T) {
	c, ok := impl.GridCloth(2, 1, 1)
	wantOk(t, "places", len(c.Places), ok, 6)
	want(t, "threads", len(c.Threads), 7)
}
