package tests

import (
	"fmt"
	"math"
	"testing"

	"loop.example/g01222/impl"
)

// closedMeshes are closed in many ways.
func closedMeshes() []impl.Mesh {
	box, _ := impl.BoxMesh(1.3)
	small, _ := impl.BallMesh(0, 0.9)
	ball, _ := impl.BallMesh(1, 1.1)
	both, _ := impl.JoinMeshes(small, box)
	more, _ := impl.JoinMeshes(box, meshOf(3))
	// A ring whose first and last rows get a lid each.
	drum, _ := impl.RingMesh(3, 2, 1.5, 0.75)
	drum.Triangles = append(drum.Triangles, tri(0, 2, 1), tri(6, 7, 8))
	return []impl.Mesh{
		box, small, ball, both, more, drum,
		meshOf(3, tri(0, 1, 2), tri(1, 0, 2)), meshOf(4, tri(0, 1, 2), tri(0, 2, 3), tri(0, 3, 1), tri(3, 2, 1)),
	}
}

// openMeshes lack what makes a mesh closed, each in another way.
func openMeshes() []impl.Mesh {
	grid, _ := impl.GridMesh(3, 2, 0.5)
	ring, _ := impl.RingMesh(5, 2, 1, 0.25)
	box, _ := impl.BoxMesh(1)
	both, _ := impl.JoinMeshes(box, grid)
	list := []impl.Mesh{
		{}, meshOf(1), meshOf(64), meshOf(3, tri(0, 1, 2)), fan(2), fan(3), grid, ring, both,
		// These have no border, but no sheet either.
		meshOf(3, tri(0, 1, 2), tri(0, 1, 2)), meshOf(3, tri(0, 1, 2), tri(1, 2, 0), tri(2, 0, 1)),
		meshOf(3, tri(0, 1, 2), tri(1, 0, 2), tri(0, 1, 2), tri(1, 0, 2)), meshOf(4, tri(0, 1, 2), tri(0, 2, 3), tri(0, 3, 1), tri(1, 2, 3)),
	}
	for i := range box.Triangles {
		hole, turned, twice := spare(box), spare(box), spare(box)
		hole.Triangles = append(hole.Triangles[:i], hole.Triangles[i+1:]...)
		turned.Triangles[i][0], turned.Triangles[i][1] = turned.Triangles[i][1], turned.Triangles[i][0]
		twice.Triangles = append(twice.Triangles, box.Triangles[i])
		list = append(list, hole, turned, twice)
	}
	return list
}

func TestIsClosed(t *testing.T) {
	for i, m := range closedMeshes() {
		want(t, named("closed mesh", i), impl.IsClosed(m), true)
		turned, _ := impl.TurnMesh(m)
		want(t, named("turned mesh", i), impl.IsClosed(turned), true)
	}
	for i, m := range openMeshes() {
		want(t, named("open mesh", i), impl.IsClosed(m), false)
	}
	for i, m := range invalidMeshes() {
		want(t, named("invalid mesh", i), impl.IsClosed(m), false)
	}
	box, _ := impl.BoxMesh(1)
	box.Places[3] = vec(num(nan), num(inf), 0)
	want(t, "numbers that are not finite", impl.IsClosed(box), true)
	for i, m := range validMeshes() {
		edges, at := countedEdges(m)
		closed := len(edges) > 0
		for j, e := range edges {
			closed = closed && len(at[j]) == 2 &&
				goesAlong(m.Triangles[at[j][0]], e[0], e[1]) != goesAlong(m.Triangles[at[j][1]], e[0], e[1])
		}
		want(t, named("mesh", i), impl.IsClosed(m), closed)
	}
}

// wedges makes a triangle for each volume of a list, times 6, none of which meets another.
func wedges(list ...float32) impl.Mesh {
	var m impl.Mesh
	for i, volume := range list {
		at := int64(3 * i)
		m.Places = append(m.Places, vec(volume, 0, 0), vec(0, 1, 0), vec(0, 0, 1))
		m.Triangles = append(m.Triangles, tri(at, at+1, at+2))
	}
	return m
}

func TestVolumesAreSummedFromTheLeft(t *testing.T) {
	cases := []struct {
		m      impl.Mesh
		volume float32
	}{
		{impl.Mesh{}, 0}, {meshOf(64), 0}, {wedges(6), 1}, {wedges(1), num(0x3e2aaaab)}, {wedges(-3), -0.5}, {wedges(num(minusZ)), 0},
		{wedges(6, 12, -9), 1.5},
		{wedges(6e8, 6, -6e8), 0}, {wedges(6, 6e8, -6e8), 0}, {wedges(6e8, -6e8, 6), 1},
		{wedges(0x1p26*1.5, 6, 6), 0x1p24}, {wedges(6, 6, 0x1p26*1.5), 0x1p24 + 2},
		// Each volume is divided on its own: the sum would be rounded otherwise.
		{wedges(1, 1, 1), 0.5}, {wedges(1, 1, 1, 1, 1), num(0x3f555556)}, {wedges(3e38, 3e38), 1e38}, {wedges(3e38, -3e38, 6), 1},
		{wedges(num(1)), 0}, {wedges(num(3)), 0}, {wedges(num(4)), num(1)}, {wedges(num(4), num(4)), num(2)},
		{wedges(num(inf), 6), num(inf)}, {wedges(num(inf), num(negInf)), num(nan)}, {wedges(6, num(nan)), num(nan)}, {wedges(num(nan), 6), num(nan)},
	}
	for i, c := range cases {
		volume, ok := impl.VolumeOf(c.m)
		wantSum(t, named("volume", i), volume, ok, c.volume)
	}
	unused := wedges(6)
	unused.Places = append(unused.Places, vec(num(nan), num(inf), 1))
	volume, ok := impl.VolumeOf(unused)
	wantSum(t, "volume beside a place without triangles", volume, ok, 1)
	m := mixedBody().Mesh
	volume, ok = impl.VolumeOf(m)
	wantSum(t, "volume of the mixed mesh", volume, ok, num(0xbee5f92d))
	turned, _ := impl.TurnMesh(m)
	volume, ok = impl.VolumeOf(turned)
	wantSum(t, "volume of the mixed mesh turned over", volume, ok, num(0x3ee5f92d))
}

// TestVolumesOfAnyMesh has many meshes that are not closed.
func TestVolumesOfAnyMesh(t *testing.T) {
	for i, m := range append(append(oddMeshes(), closedMeshes()...), openMeshes()...) {
		volume, ok := impl.VolumeOf(m)
		wantSum(t, named("volume of mesh", i), volume, ok, slowVolume(m))
		for _, pressure := range nums(0x3f800000, 0xc0200000, 0, minusZ, 0x3dcccccd, inf, nan) {
			forces, ok := impl.GasForces(m, pressure)
			wantVectors(t, fmt.Sprintf("mesh %d with the pressure %v", i, pressure), forces, ok, slowGas(m, pressure))
		}
	}
	for i, m := range invalidMeshes() {
		volume, ok := impl.VolumeOf(m)
		wantNoSum(t, named("volume of the invalid mesh", i), volume, ok)
		forces, ok := impl.GasForces(m, 1)
		wantNone(t, named("gas in the invalid mesh", i), forces, ok)
	}
}

func TestVolumesOfForms(t *testing.T) {
	for _, size := range []float32{0.5, 1, 2, 16} {
		box, _ := impl.BoxMesh(size)
		volume, ok := impl.VolumeOf(box)
		if off := volume/(size*size*size) - 1; !ok || !(max(off, -off) < 1e-6) {
			t.Errorf("volume of a box of the size %v: %v", size, volume)
		}
		ball, _ := impl.BallMesh(0, size)
		volume, ok = impl.VolumeOf(ball)
		if off := volume/(size*size*size*4/3) - 1; !ok || !(max(off, -off) < 1e-6) {
			t.Errorf("volume of a ball with the radius %v: %v", size, volume)
		}
	}
	for i, m := range closedMeshes() {
		volume, _ := impl.VolumeOf(m)
		turned, _ := impl.TurnMesh(m)
		opposite, ok := impl.VolumeOf(turned)
		// Products are added in another order.
		if !ok || math.Abs(float64(volume+opposite)) > 1e-5*math.Abs(float64(volume)) {
			t.Errorf("closed mesh %d: the volume %v, turned over %v", i, volume, opposite)
		}
	}
}

func TestGasForces(t *testing.T) {
	m := impl.Mesh{
		Places:    []impl.Vector{vec(0, 0, 0), vec(3, 0, 0), vec(0, 2, 0), vec(0, 0, 1), vec(9, 9, 9)},
		Triangles: [][]int64{tri(0, 1, 2), tri(3, 1, 0)},
	}
	// The normals are 0, 0, 6 and 0, 3, 0.
	forces, ok := impl.GasForces(m, 2)
	wantVectors(t, "two triangles", forces, ok, []impl.Vector{vec(0, 1, 2), vec(0, 1, 2), vec(0, 0, 2), vec(0, 1, 0), vec(0, 0, 0)})
	forces, ok = impl.GasForces(m, -2)
	wantVectors(t, "a pull", forces, ok, []impl.Vector{vec(0, -1, -2), vec(0, -1, -2), vec(0, 0, -2), vec(0, -1, 0), vec(0, 0, 0)})
	forces, ok = impl.GasForces(m, 0)
	wantVectors(t, "no pressure", forces, ok, make([]impl.Vector, 5))
	forces, ok = impl.GasForces(m, num(inf))
	n, far := num(nan), num(inf)
	wantVectors(t, "an infinite pressure", forces, ok, []impl.Vector{vec(n, n, n), vec(n, n, n), vec(n, n, far), vec(n, far, n), vec(0, 0, 0)})
	forces, ok = impl.GasForces(m, n)
	wantVectors(t, "no number", forces, ok, []impl.Vector{vec(n, n, n), vec(n, n, n), vec(n, n, n), vec(n, n, n), vec(0, 0, 0)})
	forces, ok = impl.GasForces(mixedBody().Mesh, 1.7)
	wantVectors(t, "the mixed mesh", forces, ok, vectorsOfBits(
		0x3eff513c, 0x3f0b4395, 0x3fae147a, 0xbfa4a691, 0x3ed53f7e, 0x3fc947ae, 0xbf58263a, 0x3f1ed917, 0x401028f6,
		0x3ee24dd2, 0x3e50e561, 0x3f2e147a, 0xbfabe76c, 0x3d9cac0e, 0x3f647ae2, 0, 0, 0))
	forces, ok = impl.GasForces(impl.Mesh{}, 1)
	wantVectors(t, "no places", forces, ok, nil)
	forces, ok = impl.GasForces(meshOf(64), num(nan))
	wantVectors(t, "no triangles", forces, ok, make([]impl.Vector, 64))
}

func TestPressureAndEnergyOfGases(t *testing.T) {
	cases := []struct{ amount, volume, pressure, energy float32 }{
		{6, 2, 3, num(0xc0851592)}, {6, 1, 6, num(minusZ)}, {-6, 1, -6, 0}, {0, 5, 0, num(minusZ)}, {num(minusZ), 5, num(minusZ), 0},
		{1.7, 0.3, num(0x40b55555), num(0x4002fe04)}, {-2.5, 7, num(0xbeb6db6e), num(0x409bac3d)},
		{3e38, 0.5, num(inf), num(0x7f1c7096)}, {-3e38, 0.5, num(negInf), num(0xff1c7096)}, {3e38, 1e30, 3e8, num(negInf)},
		{1, num(1), num(inf), num(0x42ce8ed0)}, {num(1), num(1), 1, num(103)}, {num(1), 4, 0, num(0x80000001)}, {0, num(1), 0, 0},
	}
	for _, c := range cases {
		what := told("gas", c.amount, c.volume)
		pressure, ok := impl.PressureOf(c.amount, c.volume)
		wantSum(t, what+"pressure", pressure, ok, c.pressure)
		energy, ok := impl.GasEnergy(c.amount, c.volume)
		wantSum(t, what+"energy", energy, ok, c.energy)
	}
	for _, amount := range oddNumbers() {
		for _, volume := range oddNumbers() {
			what := told("gas", amount, volume)
			pressure, hasPressure := impl.PressureOf(amount, volume)
			energy, hasEnergy := impl.GasEnergy(amount, volume)
			if !(amount-amount == 0 && volume-volume == 0 && volume > 0) {
				wantNoSum(t, what, pressure, hasPressure)
				wantNoSum(t, what, energy, hasEnergy)
				continue
			}
			wantSum(t, what+"pressure", pressure, hasPressure, float32(float64(amount)/float64(volume)))
			wantSum(t, what+"energy", energy, hasEnergy, -float32(float64(amount)*float64(impl.LogNumber(volume))))
		}
	}
}

func TestCentreOf(t *testing.T) {
	cases := []struct {
		places []impl.Vector
		centre impl.Vector
	}{
		{[]impl.Vector{vec(3, -4, 0.5)}, vec(3, -4, 0.5)},
		{[]impl.Vector{vec(num(minusZ), num(minusZ), num(minusZ))}, vec(0, 0, 0)},
		{[]impl.Vector{vec(1, 2, 3), vec(3, 6, -3)}, vec(2, 4, 0)},
		{[]impl.Vector{vec(1, 1, 1), vec(1, 1, 1), vec(5, 5, 8)}, vec(num(0x40155556), num(0x40155556), num(0x40555556))},
		{[]impl.Vector{vec(1e8, 1, 1), vec(1, 1e8, -1e8), vec(-1e8, -1e8, 1e8), vec(0, 0, 0)}, vec(0, 0, 0)},
		{[]impl.Vector{vec(1e8, 0, 0), vec(-1e8, 0, 0), vec(1, 0, 0), vec(0, 0, 0)}, vec(0.25, 0, 0)},
		{[]impl.Vector{vec(3e38, 1, num(nan)), vec(3e38, num(inf), 1)}, vec(num(inf), num(inf), num(nan))},
		{mixedBody().Mesh.Places, vectorsOfBits(0x3f222222, 0x3ee66667, 0x3eaaaaab)[0]},
	}
	for i, c := range cases {
		centre, ok := impl.CentreOf(impl.Mesh{Places: c.places})
		wantOk(t, named("centre", i), centre, ok, c.centre)
	}
	for i, m := range oddMeshes() {
		centre, ok := impl.CentreOf(m)
		if len(m.Places) == 0 {
			wantNone(t, "centre of no places", centre, ok)
		} else {
			wantOk(t, named("centre of mesh", i), centre, ok, vectorOf(slowCentre(m)))
		}
	}
	for i, m := range invalidMeshes() {
		centre, ok := impl.CentreOf(m)
		wantNone(t, named("centre of the invalid mesh", i), centre, ok)
	}
}

// forcesWithBadSums are so many forces whose sum depends on the order.
func forcesWithBadSums(count int) []impl.Vector {
	list := make([]impl.Vector, count)
	for i := range list {
		list[i] = vec(1e8/float32(i+1), -0.1*float32(i), 1e-3)
	}
	return list
}

func TestNetForce(t *testing.T) {
	z := num(minusZ)
	cases := []struct {
		forces []impl.Vector
		net    impl.Vector
	}{
		{nil, vec(0, 0, 0)}, {[]impl.Vector{}, vec(0, 0, 0)}, {[]impl.Vector{vec(z, z, z)}, vec(0, 0, 0)}, {[]impl.Vector{vec(1, -2, 3)}, vec(1, -2, 3)},
		{[]impl.Vector{vec(1, 1e8, 0.5), vec(1e8, 1, 2), vec(-1e8, -1e8, 3)}, vec(0, 0, 5.5)},
		{[]impl.Vector{vec(num(inf), num(nan), 1), vec(num(negInf), 1, num(inf))}, vec(num(nan), num(nan), num(inf))},
	}
	for i, c := range cases {
		net, ok := impl.NetForce(c.forces)
		wantOk(t, named("net force", i), net, ok, c.net)
	}
	for _, count := range []int{0, 1, 2, 63, 64, 65, 66, 256, 257, 5000} {
		list := forcesWithBadSums(count)
		net, ok := impl.NetForce(list)
		if count > 64 {
			wantNone(t, told(count, "forces"), net, ok)
		} else {
			wantOk(t, told(count, "forces"), net, ok, vectorOf(slowTotal(list)))
		}
	}
	gas, _ := impl.GasForces(mixedBody().Mesh, 1.7)
	net, ok := impl.NetForce(gas)
	wantOk(t, "net force of a gas", net, ok, vectorsOfBits(0xc0221cab, 0x3fee45a3, 0x40d83d70)[0])
}

func TestTorqueOf(t *testing.T) {
	m := impl.Mesh{Places: []impl.Vector{vec(1, 0, 0), vec(0, 2, 0), vec(1, 2, 3)}}
	torque, ok := impl.TorqueOf(m, []impl.Vector{vec(0, 5, 0), vec(0, 0, 3), vec(1, 2, 3)})
	wantOk(t, "torque", torque, ok, vec(6, 0, 5))
	torque, ok = impl.TorqueOf(m, []impl.Vector{vec(0, 0, 0), vec(0, 0, 0), vec(0, num(inf), 0)})
	wantOk(t, "torque of an infinite force", torque, ok, vec(num(negInf), 0, num(inf)))
	torque, ok = impl.TorqueOf(m, []impl.Vector{vec(0, 0, 0), vec(num(inf), 0, 0), vec(num(inf), 0, 0)})
	wantOk(t, "torque of infinite forces", torque, ok, vec(0, num(nan), num(negInf)))
	torque, ok = impl.TorqueOf(impl.Mesh{}, nil)
	wantOk(t, "torque of nothing", torque, ok, vec(0, 0, 0))
	mixed := mixedBody().Mesh
	gas, _ := impl.GasForces(mixed, 1.7)
	torque, ok = impl.TorqueOf(mixed, gas)
	wantOk(t, "torque of a gas", torque, ok, vectorsOfBits(0x40ace910, 0xc0db0854, 0x405f6715)[0])
	for i, m := range oddMeshes() {
		forces := manyForces(m)
		torque, ok := impl.TorqueOf(m, forces)
		wantOk(t, named("torque of mesh", i), torque, ok, slowTorque(m, forces))
	}
	for i, m := range invalidMeshes() {
		torque, ok := impl.TorqueOf(m, make([]impl.Vector, len(m.Places)))
		wantNone(t, named("torque of the invalid mesh", i), torque, ok)
	}
}
