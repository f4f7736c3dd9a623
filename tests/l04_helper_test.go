package tests

import (
	"fmt"
	"math"

	"loop.example/g01222/impl"
)

func fixedAt(place int64, at impl.Vector) impl.Hold { return impl.Hold{Place: place, At: at} }

func onLine(place int64, at, way impl.Vector) impl.Hold {
	return impl.Hold{Place: place, Kind: 1, At: at, Way: way}
}

func onPlane(place int64, at, way impl.Vector) impl.Hold {
	return impl.Hold{Place: place, Kind: 2, At: at, Way: way}
}

// Ways along one axis: the squares of shortWay and lowWay are the least and the greatest numbers, those of
// noWay and greatWay, which are next to them, are +0 and the infinity.
const (
	noWay    = 0x1p-75
	shortWay = 0x1.000002p-75
	longWay  = 0x1.fffffep63
	greatWay = 0x1p64
)

// validHolds are holds of each kind, in all sizes.
func validHolds() []impl.Hold {
	list := []impl.Hold{
		{}, {Place: math.MaxInt64}, {Way: vec(num(minusZ), 0, num(minusZ))}, {Way: vec(1, 2, 3)},
		{At: vec(num(minusZ), num(1), 0x1p127), Way: vec(noWay, 0, 0)}, {Place: 63, Way: vec(math.MaxFloat32, -math.MaxFloat32, math.MaxFloat32)},
		{At: vec(math.MaxFloat32, -math.MaxFloat32, math.MaxFloat32), Way: vec(greatWay, 0, 0)},
	}
	at := vec(0.25, -1.5, 2)
	ways := []impl.Vector{
		vec(1, 0, 0), vec(0, -1, 0), vec(0, 0, 1), vec(num(minusZ), num(minusZ), -3), vec(0.3, -0.7, 1.1), vec(1e-9, 1e9, 1), vec(num(1), num(1), 1),
		vec(shortWay, 0, 0), vec(0, -shortWay, 0), vec(0, 0, shortWay), vec(longWay, 0, 0), vec(0, -longWay, 0), vec(0, 0, longWay),
		vec(0x1p63, -0x1p63, 0x1p63), vec(noWay, noWay, shortWay),
	}
	for i, way := range ways {
		list = append(list, onLine(0, at, way), onPlane(int64(i), at, way))
	}
	return append(list, onLine(math.MaxInt64, impl.Vector{}, vec(1, 1, 1)), onPlane(5, vec(-math.MaxFloat32, num(1), num(minusZ)), vec(1, 1, 1)))
}

// invalidHolds break one rule each.
func invalidHolds() []impl.Hold {
	right := vec(1, 2, 3)
	var list []impl.Hold
	for _, kind := range []int64{-1, 3, 4, 255, 256, 258, 1 << 32, 1<<32 + 1, math.MinInt64, math.MaxInt64} {
		list = append(list, impl.Hold{Kind: kind, Way: right})
	}
	ways := []impl.Vector{
		{}, vec(num(minusZ), num(minusZ), num(minusZ)), vec(num(1), num(1), num(1)), vec(0x1p-100, 0, 0), vec(noWay, noWay, noWay),
		vec(0, -noWay, 0), vec(greatWay, 0, 0), vec(0, 0, -greatWay), vec(0x1p63, 0x1.8p63, 0x1p63), vec(math.MaxFloat32, 0, 0), vec(0, 1e38, 1e38),
	}
	for kind := range int64(3) {
		for _, place := range []int64{-1, -2, math.MinInt64} {
			list = append(list, impl.Hold{Place: place, Kind: kind, Way: right})
		}
		for _, x := range nums(inf, negInf, nan, 0xffc00001) {
			for _, v := range []impl.Vector{vec(x, 1, 1), vec(1, x, 1), vec(1, 1, x), vec(x, x, x)} {
				list = append(list, impl.Hold{Kind: kind, At: v, Way: right}, impl.Hold{Kind: kind, Way: v})
			}
		}
		for _, way := range ways {
			if kind != 0 {
				list = append(list, impl.Hold{Kind: kind, At: right, Way: way})
			}
		}
	}
	return list
}

// heldMesh is a mesh with holds.
type heldMesh struct {
	m     impl.Mesh
	holds []impl.Hold
}

// hold returns a valid hold of a place.
func (d *dice) hold(place int64) impl.Hold {
	return impl.Hold{Place: place, Kind: int64(d.below(3)), At: d.vector(), Way: d.vector()}
}

// validHeld are meshes with as many holds as there can be, with some, and with none.
func validHeld() []heldMesh {
	d := dice(4)
	var list []heldMesh
	for _, m := range validMeshes() {
		var all, some []impl.Hold
		for place := range int64(len(m.Places)) {
			h := d.hold(place)
			all = append(all, h)
			if d.below(3) == 0 {
				some = append(some, h)
			}
		}
		list = append(list, heldMesh{m, nil}, heldMesh{m, all}, heldMesh{m, some})
	}
	return append(list, mixedHeld())
}

// mixedHeld has a hold of each kind, and places without one.
func mixedHeld() heldMesh {
	return heldMesh{mixedBody().Mesh, []impl.Hold{
		onLine(1, vec(0.2, -1.4, 3.1), vec(0.3, -0.7, 1.1)),
		onPlane(3, vec(0.1, 0.1, 0.1), vec(-0.2, 0.5, 0.9)),
		fixedAt(5, vec(0.7, -1.1, -0.9)),
	}}
}

// invalidHeld break one rule each.
func invalidHeld() []heldMesh {
	m := mixedBody().Mesh
	places := func(list ...int64) heldMesh {
		h := heldMesh{m: m}
		for _, place := range list {
			h.holds = append(h.holds, onLine(place, impl.Vector{}, vec(1, 0, 0)))
		}
		return h
	}
	list := []heldMesh{
		places(6), places(0, 6), places(7), places(256), places(1 << 32), places(math.MaxInt64), places(0, 1, 2, 3, 4, 5, 6),
		places(-1), places(math.MinInt64), places(-1, 0), places(3, -1),
		places(0, 0), places(5, 5), places(0, 2, 2), places(2, 2, 5), places(3, 1), places(1, 0), places(0, 3, 1, 5), places(4, 5, 0),
		{m, repeat(fixedAt(2, impl.Vector{}), 2)}, {m, repeat(fixedAt(0, impl.Vector{}), 5000)},
		{impl.Mesh{}, []impl.Hold{{}}}, {meshOf(64), []impl.Hold{fixedAt(64, impl.Vector{})}},
	}
	for _, h := range invalidHolds() {
		before, behind := heldMesh{m: m}, heldMesh{m, []impl.Hold{h}}
		if h.Place == 0 {
			before.holds = []impl.Hold{h, fixedAt(1, impl.Vector{})}
			h.Place = 4
			behind.holds = []impl.Hold{fixedAt(2, impl.Vector{}), h}
		} else {
			before.holds = []impl.Hold{h, fixedAt(0, impl.Vector{})}
		}
		list = append(list, before, behind)
	}
	for _, m := range invalidMeshes() {
		list = append(list, heldMesh{m, nil}, heldMesh{m, []impl.Hold{{}}})
	}
	return list
}

// slowAlong computes what a line leaves from the document's text.
func slowAlong(h impl.Hold, force point) point {
	way := pointOf(h.Way)
	return way.times(rounded(force.inner(way) / way.inner(way)))
}

// slowLeft computes what a hold leaves of a force.
func slowLeft(h impl.Hold, force impl.Vector) impl.Vector {
	f := pointOf(force)
	switch h.Kind {
	case 1:
		return vectorOf(slowAlong(h, f))
	case 2:
		return vectorOf(f.minus(slowAlong(h, f)))
	}
	return vec(0, 0, 0)
}

// slowPut computes where a hold puts a place.
func slowPut(h impl.Hold, place impl.Vector) impl.Vector {
	p, at := pointOf(place), pointOf(h.At)
	switch h.Kind {
	case 1:
		return vectorOf(at.plus(slowAlong(h, p.minus(at))))
	case 2:
		return vectorOf(p.minus(slowAlong(h, p.minus(at))))
	}
	return h.At
}

// slowVolume computes the volume.
func slowVolume(m impl.Mesh) float32 {
	at := pointsOf(m.Places)
	sum := 0.0
	for _, c := range m.Triangles {
		sum = rounded(sum + rounded(at[c[0]].inner(at[c[1]].cross(at[c[2]]))/6))
	}
	return float32(sum)
}

// slowGas computes the forces of a gas, place by place.
func slowGas(m impl.Mesh, pressure float32) []impl.Vector {
	at := pointsOf(m.Places)
	var list []impl.Vector
	for place := range int64(len(at)) {
		var force point
		for _, triangle := range countedAt(m, place, place) {
			c := m.Triangles[triangle]
			n := at[c[1]].minus(at[c[0]]).cross(at[c[2]].minus(at[c[0]]))
			force = force.plus(n.times(rounded(float64(pressure) / 6)))
		}
		list = append(list, vectorOf(force))
	}
	return list
}

// slowTotal computes a sum of vectors.
func slowTotal(list []impl.Vector) point {
	var sum point
	for _, v := range list {
		sum = sum.plus(pointOf(v))
	}
	return sum
}

func slowCentre(m impl.Mesh) point {
	return slowTotal(m.Places).times(rounded(1 / float64(len(m.Places))))
}

// slowKept computes the mesh with a volume, of the functions of chapter 1. It tells nothing where the document asks for a failure.
func slowKept(m impl.Mesh, volume float32) ([]impl.Vector, bool) {
	now := slowVolume(m)
	if !(volume > 0 && volume <= math.MaxFloat32 && now > 0 && now <= math.MaxFloat32) {
		return nil, false
	}
	size := float64(impl.ExpNumber(float32(float64(impl.LogNumber(float32(float64(volume)/float64(now)))) / 3)))
	if math.IsInf(size, 0) || math.IsNaN(size) {
		return nil, false
	}
	centre := slowCentre(m)
	var places []impl.Vector
	for _, p := range pointsOf(m.Places) {
		places = append(places, vectorOf(centre.plus(p.minus(centre).times(size))))
	}
	return places, true
}

func slowTorque(m impl.Mesh, forces []impl.Vector) impl.Vector {
	var torques []impl.Vector
	for i, p := range pointsOf(m.Places) {
		torques = append(torques, vectorOf(p.cross(pointOf(forces[i]))))
	}
	return vectorOf(slowTotal(torques))
}

// named tells which mesh of a list it is.
func named(what string, i int) string { return fmt.Sprintf("%s %d", what, i) }

// oddMeshes have triangles of all kinds, and numbers of all kinds.
func oddMeshes() []impl.Mesh {
	list := validMeshes()
	for _, b := range append(anyBodies(), oddBodies()...) {
		list = append(list, b.Mesh)
	}
	return list
}
