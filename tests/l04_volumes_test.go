package tests

import (
	"fmt"
	"math"
	"testing"

	"loop.example/g01222/impl"
)

func TestKeepVolume(t *testing.T) {
	m, _ := impl.TurnMesh(mixedBody().Mesh)
	kept, ok := impl.KeepVolume(m, 2.5)
	wantMesh(t, "a greater volume", kept, ok, vectorsOfBits(
		0xbe9fa8f2, 0x3be3cd40, 0x3e8c6bd8, 0x3fe84b32, 0xbf8736ea, 0x3f20f266, 0x3f4060f5, 0x4041426a, 0xbfa90d1e,
		0xc01c0fd6, 0x3f88fe85, 0x3fab35ad, 0x405a39a4, 0x40088c9e, 0x40305751, 0x3f1302b9, 0xc01e57f0, 0xbfd66b5b), m.Triangles)
	kept, ok = impl.KeepVolume(m, 0.01)
	wantMesh(t, "a lesser volume", kept, ok, vectorsOfBits(
		0x3ef772b7, 0x3ec2642d, 0x3ea5dd92, 0x3f52251a, 0x3e57f0db, 0x3ec2ac27, 0x3f26ef3b, 0x3f5ba010, 0x3d90efcc,
		0x3e153672, 0x3f0c67f6, 0x3efc4950, 0x3f897af5, 0x3f379dd5, 0x3f37c1d2, 0x3f1fbb96, 0xbc683ce0, 0x3c6dabe0), m.Triangles)
	// A size of 1 keeps places, but for what is rounded.
	ball, _ := impl.BallMesh(0, 1)
	volume, _ := impl.VolumeOf(ball)
	kept, ok = impl.KeepVolume(ball, volume)
	wantMesh(t, "the same volume", kept, ok, []impl.Vector{vec(1, 0, 0), vec(-1, 0, 0), vec(0, 1, 0), vec(0, -1, 0), vec(0, 0, 1), vec(0, 0, -1)}, ball.Triangles)
}

// TestKeepVolumeOfAnyMesh has open meshes, and volumes that are no lengths.
func TestKeepVolumeOfAnyMesh(t *testing.T) {
	volumes := append(oddNumbers(), 0.001, 0.7, 12, 5e20, 3e38, 1e-40)
	for i, m := range append(append(oddMeshes(), closedMeshes()...), openMeshes()...) {
		for _, volume := range volumes {
			what := fmt.Sprintf("mesh %d with the volume %v", i, volume)
			places, exists := slowKept(m, volume)
			kept, ok := impl.KeepVolume(m, volume)
			if exists {
				wantMesh(t, what, kept, ok, places, m.Triangles)
			} else {
				wantNone(t, what, kept, ok)
			}
		}
	}
	for i, m := range invalidMeshes() {
		kept, ok := impl.KeepVolume(m, 1)
		wantNone(t, named("the invalid mesh", i), kept, ok)
	}
}

func TestKeepVolumeNeedsVolumes(t *testing.T) {
	box, _ := impl.BoxMesh(2)
	for _, volume := range oddLengths() {
		kept, ok := impl.KeepVolume(box, volume)
		wantNone(t, told("a box with the volume", volume), kept, ok)
	}
	turned, _ := impl.TurnMesh(box)
	flat, _ := impl.GridMesh(2, 2, 1)
	others := map[string]impl.Mesh{
		"no places": {}, "no triangles": meshOf(5), "a box turned over": turned, "a grid through 0, 0, 0": flat, "a negative volume": wedges(-6),
		"an infinite volume": wedges(3e38, 3e38, 3e38, 3e38, 3e38, 3e38, 3e38), "a volume that is no number": wedges(6, num(nan)),
		"a volume of -0": wedges(num(minusZ)), "a volume that is too small": wedges(num(3)),
	}
	for what, m := range others {
		kept, ok := impl.KeepVolume(m, 1)
		wantNone(t, what, kept, ok)
	}
	// Quotients of volumes that are infinite make the size infinite as well, but those that are +0 make it +0.
	small := wedges(num(6))
	kept, ok := impl.KeepVolume(small, 1)
	wantNone(t, "an infinite size", kept, ok)
	great := wedges(3e38)
	centre := vec(num(0x7e96769a), num(0x3eaaaaab), num(0x3eaaaaab))
	kept, ok = impl.KeepVolume(great, num(1))
	wantMesh(t, "no size", kept, ok, []impl.Vector{centre, centre, centre}, great.Triangles)
	// A place that no triangle has moves the centre, even to where no place can be.
	odd := wedges(6)
	odd.Places = append(odd.Places, vec(num(nan), num(inf), 0))
	kept, ok = impl.KeepVolume(odd, 1)
	n := num(nan)
	wantOk(t, "a centre that is no place", len(kept.Places), ok, 4)
	for i, place := range kept.Places {
		wantVector(t, named("place", i), vec(place.X, place.Y, 0), vec(n, n, 0))
	}
}

func TestClosedMeshesGetTheirVolumes(t *testing.T) {
	for i, m := range closedMeshes()[:6] {
		centre, _ := impl.CentreOf(m)
		for _, volume := range []float32{1e-3, 0.2, 1, 7.5, 300, 1e9} {
			kept, ok := impl.KeepVolume(m, volume)
			now, _ := impl.VolumeOf(kept)
			if off := now/volume - 1; !ok || !(max(off, -off) < 1e-2) {
				t.Errorf("closed mesh %d: the volume %v instead of %v", i, now, volume)
			}
			where, _ := impl.CentreOf(kept)
			size := float32(math.Cbrt(float64(volume))) + impl.LongOf(centre)
			if off := impl.LongOf(impl.LessVectors(where, centre)); !(off < 1e-5*size) {
				t.Errorf("closed mesh %d: the centre moves by %v", i, off)
			}
			again, ok := impl.KeepVolume(kept, volume)
			for j, place := range again.Places {
				if off := impl.LongOf(impl.LessVectors(place, kept.Places[j])); !ok || !(off < 1e-5*size) {
					t.Errorf("closed mesh %d: the place %d moves again, by %v", i, j, off)
				}
			}
		}
	}
}

// wideVolume computes the volume of places that are not rounded.
func wideVolume(m impl.Mesh, places []widePoint) float64 {
	volume := 0.0
	for _, c := range m.Triangles {
		volume += wideInner(places[c[0]], wideCross(places[c[1]], places[c[2]])) / 6
	}
	return volume
}

// volumeSlope tells how the volume changes with a place. The volume is linear in it, so any step does.
func volumeSlope(m impl.Mesh, place, axis int) float64 {
	at := func(step float64) float64 {
		places := widePlaces(impl.Body{Mesh: m})
		places[place][axis] += step
		return wideVolume(m, places)
	}
	return (at(1) - at(-1)) / 2
}

// shaken are meshes whose places are moved by a little.
func shaken(list []impl.Mesh) []impl.Mesh {
	d := dice(10)
	for i, m := range list {
		m = spare(m)
		for j, place := range m.Places {
			m.Places[j] = impl.AddVectors(place, impl.ScaleVector(d.vector(), 0.03))
		}
		list[i] = m
	}
	return list
}

// borderPlaces tells which places the border has.
func borderPlaces(m impl.Mesh) map[int64]bool {
	places := map[int64]bool{}
	edges, at := countedEdges(m)
	for i, e := range edges {
		if len(at[i]) == 1 {
			places[e[0]], places[e[1]] = true, true
		}
	}
	return places
}

// normalsSize tells how long all normals are.
func normalsSize(m impl.Mesh) float64 {
	size := 0.0
	for i := range m.Triangles {
		normal, _ := impl.NormalOf(m, int64(i))
		size += float64(impl.LongOf(normal))
	}
	return size
}

func TestForcesOfGasesAreTheSlopesOfVolumes(t *testing.T) {
	meshes := append(shaken(closedMeshes()), shaken(forms())...)
	inner := 0
	for i, m := range meshes {
		border := borderPlaces(m)
		for _, pressure := range []float32{1, -2.5, 0.3, 100} {
			forces, ok := impl.GasForces(m, pressure)
			if !ok {
				t.Fatalf("forces in mesh %d failed", i)
			}
			near := 1e-5 * math.Abs(float64(pressure)) * normalsSize(m)
			for place, force := range forces {
				// The volume at a border is that of the wedges to 0, 0, 0, on which no gas presses.
				if border[int64(place)] {
					continue
				}
				inner++
				for axis := range 3 {
					slope := float64(pressure) * volumeSlope(m, place, axis)
					if got := axisOf(force, axis); math.Abs(got-slope) > near {
						t.Errorf("mesh %d, place %d, axis %d: the force %v is not nearly the slope %v", i, place, axis, got, slope)
					}
				}
			}
		}
	}
	if inner < 500 {
		t.Errorf("only %d places are inside", inner)
	}
}

// TestForcesOfGasesAreNearlySlopesOfVolumeOf uses the volumes of the program, and the rule for the pressure of an amount.
func TestForcesOfGasesAreNearlySlopesOfVolumeOf(t *testing.T) {
	const step, amount = 1.0 / 256, 3
	for i, m := range shaken(closedMeshes()[:6]) {
		volume, _ := impl.VolumeOf(m)
		pressure, _ := impl.PressureOf(amount, volume)
		forces, _ := impl.GasForces(m, pressure)
		for place := range m.Places {
			up, down := spare(m), spare(m)
			up.Places[place].Y += step
			down.Places[place].Y -= step
			more, _ := impl.VolumeOf(up)
			less, _ := impl.VolumeOf(down)
			energyUp, one := impl.GasEnergy(amount, more)
			energyDown, two := impl.GasEnergy(amount, less)
			force := float64(forces[place].Y)
			if slope := float64(pressure*(more-less)) / (2 * step); math.Abs(slope-force) > 2e-3 {
				t.Errorf("closed mesh %d, place %d: the force %v is not nearly the slope %v", i, place, force, slope)
			}
			if slope := float64(energyUp-energyDown) / (2 * step); !one || !two || math.Abs(slope+force) > 2e-3 {
				t.Errorf("closed mesh %d, place %d: the force %v is not nearly the slope %v of the energy", i, place, force, slope)
			}
		}
	}
}

// TestClosedGasesPressNowhereInAll adds up the forces and what they turn.
func TestClosedGasesPressNowhereInAll(t *testing.T) {
	for i, m := range shaken(closedMeshes()) {
		const pressure = 4
		forces, _ := impl.GasForces(m, pressure)
		net, one := impl.NetForce(forces)
		torque, two := impl.TorqueOf(m, forces)
		far, _ := impl.LongestOf(m.Places)
		size := pressure * normalsSize(m) * (1 + float64(far))
		if !one || !two || float64(impl.LongOf(net)) > 1e-5*size || float64(impl.LongOf(torque)) > 1e-5*size {
			t.Errorf("closed mesh %d: forces of about %v are %v in all and turn by %v", i, size, net, torque)
		}
		volume, _ := impl.VolumeOf(m)
		moved, _ := impl.MoveMesh(m, vec(0.5, -0.75, 1))
		again, ok := impl.VolumeOf(moved)
		if !ok || math.Abs(float64(again-volume)) > 1e-5*size {
			t.Errorf("closed mesh %d: the volume %v becomes %v when it is moved", i, volume, again)
		}
	}
}

// TestOpenGasesPressSomewhere shows that the rules for closed meshes need them: the volume of an open one depends
// on where it is, and its border is pressed otherwise than the slopes tell.
func TestOpenGasesPressSomewhere(t *testing.T) {
	grid, _ := impl.GridMesh(2, 2, 1)
	forces, ok := impl.GasForces(grid, 6)
	wantVectors(t, "a grid", forces, ok, []impl.Vector{
		vec(0, 0, 2), vec(0, 0, 3), vec(0, 0, 1), vec(0, 0, 3), vec(0, 0, 6), vec(0, 0, 3), vec(0, 0, 1), vec(0, 0, 3), vec(0, 0, 2)})
	net, ok := impl.NetForce(forces)
	wantOk(t, "net force", net, ok, vec(0, 0, 24))
	torque, ok := impl.TorqueOf(grid, forces)
	wantOk(t, "torque", torque, ok, vec(24, -24, 0))
	volume, ok := impl.VolumeOf(grid)
	wantSum(t, "volume", volume, ok, 0)
	lifted, _ := impl.MoveMesh(grid, vec(0, 0, 3))
	volume, ok = impl.VolumeOf(lifted)
	wantSum(t, "volume of a lifted grid", volume, ok, 4)
	kept, ok := impl.KeepVolume(lifted, 4)
	wantMesh(t, "a lifted grid", kept, ok, lifted.Places, lifted.Triangles)
}
