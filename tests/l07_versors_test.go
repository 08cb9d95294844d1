package tests

import (
	"math/bits"
	"slices"
	"testing"

	"loop.example/g01124/impl"
)

// knownVersor is a multivector that is made of vectors with norms other than 0.
type knownVersor struct {
	list [][]int64
	x    []int64
}

// versorFrom multiplies the vectors, one after the other.
func versorFrom(s impl.Space, list [][]int64) knownVersor {
	x := blade(s, 0, 1)
	for _, v := range list {
		x = geometric(s, x, vectorPart(s, v))
	}
	return knownVersor{list, x}
}

// vectorsWithNorms returns vectors of a regular space with norms other than 0.
func (r *source) vectorsWithNorms(s impl.Space, count int) [][]int64 {
	var list [][]int64
	for len(list) < count {
		if v := r.vector(s.P, len(s.Squares)); pairing(s, v, v) != 0 {
			list = append(list, v)
		}
	}
	return list
}

func (r *source) versor(s impl.Space, count int) knownVersor {
	return versorFrom(s, r.vectorsWithNorms(s, count))
}

func normsOf(s impl.Space, list [][]int64) int64 {
	norm := int64(1)
	for _, v := range list {
		norm = norm * pairing(s, v, v) % s.P
	}
	return norm
}

// reciprocal looks for the number whose product with a is 1.
func reciprocal(p int64, a int64) int64 {
	for b := range p {
		if a*b%p == 1 {
			return b
		}
	}
	return 0
}

// reflectionsIn returns the matrix of the reflections in the vectors of a list, the last one done first.
func reflectionsIn(t *testing.T, s impl.Space, list [][]int64) [][]int64 {
	t.Helper()
	matrix := unit(len(s.Squares))
	for _, v := range list {
		matrix = product(s.P, matrix, reflection(t, s, v))
	}
	return matrix
}

// conditions tells which ones of the document's conditions for a versor hold: that the spinor norm is
// not 0, that the product with the reverse has no other parts, that all grades are even or all odd, and
// that vectors are led to vectors.
func conditions(s impl.Space, x []int64) [4]bool {
	norm := geometric(s, x, turned(s, 0, x))
	found := [4]bool{norm[0] != 0, isZero(norm[1:]), false, true}
	involute := turned(s, 1, x)
	found[2] = slices.Equal(involute, x) || slices.Equal(involute, multipleOf(s.P, -1, x))
	for i := range s.Squares {
		image := geometric(s, geometric(s, involute, blade(s, 1<<i, 1)), turned(s, 0, x))
		for mask, a := range image {
			found[3] = found[3] && (a == 0 || bits.OnesCount(uint(mask)) == 1)
		}
	}
	return found
}

func isVersorOf(s impl.Space, x []int64) bool {
	return conditions(s, x) == [4]bool{true, true, true, true}
}

// callsOfVersors are the calls of which x has to be a versor.
func callsOfVersors(s impl.Space, x []int64, y []int64, v []int64) map[string]result {
	return map[string]result{
		"VersorInverse":         ofVector(impl.VersorInverse(s, x)),
		"SandwichOf":            ofVector(impl.SandwichOf(s, x, v)),
		"UnitVersor":            ofVector(impl.UnitVersor(s, x)),
		"SandwichOfMultivector": ofVector(impl.SandwichOfMultivector(s, x, y)),
	}
}

// callsOfMotions are all calls, with one argument of each kind.
func callsOfMotions(s impl.Space, x []int64, v []int64, list [][]int64) map[string]result {
	calls := callsOfVersors(s, x, x, v)
	calls["VersorOf"] = ofVector(impl.VersorOf(s, list))
	calls["IsVersor"] = ofBool(impl.IsVersor(s, x))
	calls["SpinorNormOf"] = ofNumber(impl.SpinorNormOf(s, x))
	calls["ReflectIn"] = ofVector(impl.ReflectIn(s, v, v))
	calls["VersorBetween"] = ofVector(impl.VersorBetween(s, v, v))
	calls["IsRotor"] = ofBool(impl.IsRotor(s, x))
	return calls
}

// checkNoVersor tests that a multivector that is none is refused wherever a versor has to be.
func checkNoVersor(t *testing.T, s impl.Space, x []int64) {
	t.Helper()
	returnsBool(t, false)(impl.IsVersor(s, x))
	returnsBool(t, false)(impl.IsRotor(s, x))
	returns(t, scalarProduct(s, x, x))(impl.SpinorNormOf(s, x))
	for call, got := range callsOfVersors(s, x, blade(s, 0, 1), make([]int64, len(s.Squares))) {
		refuses(t, call, got, impl.ErrState)
	}
}

// checkVersor tests what a versor is known to be, and what it makes of some vectors and multivectors.
func checkVersor(t *testing.T, s impl.Space, known knownVersor, vectors [][]int64, multivectors [][]int64) {
	t.Helper()
	x, norm, even := known.x, normsOf(s, known.list), len(known.list)%2 == 0
	inverse := multipleOf(s.P, reciprocal(s.P, norm), turned(s, 0, x))
	returnsBool(t, true)(impl.IsVersor(s, x))
	returnsBool(t, even)(impl.IsRotor(s, x))
	returns(t, norm)(impl.SpinorNormOf(s, x))
	returnsVector(t, inverse)(impl.VersorInverse(s, x))
	returnsVector(t, blade(s, 0, 1))(geometric(s, x, inverse), impl.ErrNone)
	returnsVector(t, blade(s, 0, 1))(geometric(s, inverse, x), impl.ErrNone)
	matrix := reflectionsIn(t, s, known.list)
	for _, v := range vectors {
		image := apply(s.P, matrix, v)
		returnsVector(t, image)(impl.SandwichOf(s, x, v))
		returnsVector(t, vectorPart(s, image))(impl.SandwichOfMultivector(s, x, vectorPart(s, v)))
	}
	for _, y := range multivectors {
		inner := y
		if !even {
			inner = turned(s, 1, y)
		}
		returnsVector(t, geometric(s, geometric(s, x, inner), inverse))(impl.SandwichOfMultivector(s, x, y))
	}
	checkUnit(t, s, x, norm)
}

// checkUnit tries the roots from the least one on.
func checkUnit(t *testing.T, s impl.Space, x []int64, norm int64) {
	t.Helper()
	root, square := rootOf(s.P, norm)
	if !square {
		refuses(t, "UnitVersor", ofVector(impl.UnitVersor(s, x)), impl.ErrState)
		return
	}
	got := must[[]int64](t)(impl.UnitVersor(s, x))
	returnsVector(t, x)(multipleOf(s.P, root, got), impl.ErrNone)
	returns(t, 1)(impl.SpinorNormOf(s, got))
	returnsBool(t, true)(impl.IsVersor(s, got))
}

func TestVersorsOfThePlane(t *testing.T) {
	t.Parallel()
	plane, one, rotor := space(5, 1, 1), []int64{1, 0, 0, 0}, []int64{1, 0, 0, 1}
	returnsVector(t, rotor)(impl.VersorOf(plane, [][]int64{{1, 0}, {1, 1}}))
	returnsVector(t, []int64{1, 0, 0, 4})(impl.VersorOf(plane, [][]int64{{1, 1}, {1, 0}}))
	returnsVector(t, []int64{0, 3, 2, 0})(impl.VersorOf(plane, [][]int64{{3, 2}, {1, 1}, {3, 3}}))
	returnsVector(t, one)(impl.VersorOf(plane, nil))
	returnsVector(t, []int64{3, 0, 0, 0})(impl.VersorOf(plane, [][]int64{{2, 0}, {4, 0}}))
	for _, list := range [][][]int64{{{1, 2}}, {{0, 0}}, {{1, 0}, {2, 1}}, {{2, 4}, {1, 0}}, {{1, 1}, {3, 1}, {0, 1}}} {
		refuses(t, "VersorOf", ofVector(impl.VersorOf(plane, list)), impl.ErrState)
	}
	for _, x := range [][]int64{one, {3, 0, 0, 0}, rotor, {0, 0, 0, 4}, {0, 3, 3, 0}, {0, 0, 2, 0}} {
		returnsBool(t, true)(impl.IsVersor(plane, x))
		returnsBool(t, x[1] == 0 && x[2] == 0)(impl.IsRotor(plane, x))
	}
	// The spinor norms of e0 + 2 e1 and 1 + 2 e0 e1 are 0.
	for _, x := range [][]int64{{0, 0, 0, 0}, {1, 1, 0, 0}, {0, 1, 0, 1}, {0, 1, 2, 0}, {1, 0, 0, 2}, {1, 2, 3, 4}} {
		checkNoVersor(t, plane, x)
	}
	returns(t, 2)(impl.SpinorNormOf(plane, rotor))
	returns(t, 0)(impl.SpinorNormOf(plane, []int64{1, 2, 3, 4}))
	returns(t, 3)(impl.SpinorNormOf(plane, []int64{1, 1, 1, 0}))
	returnsVector(t, []int64{3, 0, 0, 2})(impl.VersorInverse(plane, rotor))
	returnsVector(t, []int64{2, 0, 0, 0})(impl.VersorInverse(plane, []int64{3, 0, 0, 0}))
	returnsVector(t, []int64{0, 1, 1, 0})(impl.VersorInverse(plane, []int64{0, 3, 3, 0}))
	returnsVector(t, []int64{2, 4})(impl.SandwichOf(plane, []int64{0, 1, 0, 0}, []int64{3, 4}))
	// The reflection in e0 + e1, and then that in e0, leads e0 to -e1, and e1 to e0.
	returnsVector(t, []int64{4, 2})(impl.SandwichOf(plane, rotor, []int64{3, 4}))
	returnsVector(t, []int64{2, 4})(impl.ReflectIn(plane, []int64{1, 0}, []int64{3, 4}))
	returnsVector(t, []int64{1, 2})(impl.ReflectIn(plane, []int64{2, 2}, []int64{3, 4}))
	refuses(t, "ReflectIn", ofVector(impl.ReflectIn(plane, []int64{1, 2}, []int64{1, 1})), impl.ErrState)
	refuses(t, "ReflectIn", ofVector(impl.ReflectIn(plane, []int64{0, 0}, []int64{1, 1})), impl.ErrState)
	returnsVector(t, []int64{0, 4, 1, 0})(impl.VersorBetween(plane, []int64{1, 0}, []int64{0, 1}))
	returnsVector(t, []int64{2, 0, 0, 0})(impl.VersorBetween(plane, []int64{1, 0}, []int64{1, 0}))
	returnsVector(t, []int64{0, 3, 0, 0})(impl.VersorBetween(plane, []int64{1, 0}, []int64{4, 0}))
	for _, pair := range [][2][]int64{{{1, 0}, {1, 1}}, {{1, 2}, {1, 2}}, {{1, 2}, {1, 3}}, {{0, 0}, {0, 0}}, {{0, 0}, {1, 0}}} {
		refuses(t, "VersorBetween", ofVector(impl.VersorBetween(plane, pair[0], pair[1])), impl.ErrState)
	}
	refuses(t, "UnitVersor", ofVector(impl.UnitVersor(plane, rotor)), impl.ErrState)
	returnsVector(t, []int64{0, 1, 0, 0})(impl.UnitVersor(plane, []int64{0, 2, 0, 0}))
	returnsVector(t, []int64{0, 0, 4, 0})(impl.UnitVersor(plane, []int64{0, 0, 3, 0}))
	returnsVector(t, []int64{4, 0, 0, 0})(impl.UnitVersor(plane, []int64{3, 0, 0, 0}))
	returnsVector(t, []int64{1, 0, 0, 4})(impl.SandwichOfMultivector(plane, []int64{0, 1, 0, 0}, rotor))
	returnsVector(t, []int64{1, 3, 3, 4})(impl.SandwichOfMultivector(plane, rotor, []int64{1, 2, 3, 4}))
	returnsVector(t, []int64{1, 3, 3, 1})(impl.SandwichOfMultivector(plane, []int64{0, 1, 0, 0}, []int64{1, 2, 3, 4}))
}

// TestVersorsOfOneSquare has all multivectors: the versors are the numbers and the vectors other than 0.
func TestVersorsOfOneSquare(t *testing.T) {
	t.Parallel()
	for _, p := range primes {
		for square := int64(1); square < p; square++ {
			s := space(p, square)
			allVectors(p, 2, func(x []int64) {
				if (x[0] == 0) == (x[1] == 0) {
					checkNoVersor(t, s, x)
					return
				}
				known := knownVersor{[][]int64{{x[1]}}, x}
				if x[1] == 0 {
					// The product of e0 and this multiple of it.
					known.list = [][]int64{{1}, {x[0] * reciprocal(p, square) % p}}
				}
				returnsVector(t, x)(impl.VersorOf(s, known.list))
				checkVersor(t, s, known, [][]int64{{0}, {1}, {p - 1}}, [][]int64{{0, 0}, {1, 1}, {2, p - 1}})
			})
		}
	}
}

// TestProductsOfVectorsAreVersors has lists of up to MaxRows vectors, and of one more.
func TestProductsOfVectorsAreVersors(t *testing.T) {
	t.Parallel()
	regularSpaces(func(s impl.Space, r *source) {
		n := len(s.Squares)
		for _, count := range []int{0, 1, 2, n, 16} {
			known := r.versor(s, count)
			returnsVector(t, known.x)(impl.VersorOf(s, known.list))
			vectors := [][]int64{unit(n)[r.below(int64(n))], r.vector(s.P, n)}
			checkVersor(t, s, known, vectors, someMultivectors(s, r)[:1])
		}
		tooMany := r.vectorsWithNorms(s, 17)
		refuses(t, "VersorOf", ofVector(impl.VersorOf(s, tooMany)), impl.ErrRange)
		tooMany[16] = make([]int64, n)
		refuses(t, "VersorOf", ofVector(impl.VersorOf(s, tooMany)), impl.ErrRange)
		returnsVector(t, blade(s, 0, 1))(impl.VersorOf(s, [][]int64{}))
	})
}

// TestVectorsWithoutNorms puts vectors with the norm 0 among others.
func TestVectorsWithoutNorms(t *testing.T) {
	t.Parallel()
	regularSpaces(func(s impl.Space, r *source) {
		n := len(s.Squares)
		null := [][]int64{make([]int64, n)}
		if v, code := impl.IsotropicVector(s); code == impl.ErrNone {
			null = append(null, v, multipleOf(s.P, s.P-1, v))
		}
		for _, v := range null {
			for _, count := range []int{0, 1, 5, 15} {
				list := slices.Insert(r.vectorsWithNorms(s, count), int(r.below(int64(count)+1)), v)
				refuses(t, "VersorOf", ofVector(impl.VersorOf(s, list)), impl.ErrState)
			}
			checkNoVersor(t, s, vectorPart(s, v))
			for _, w := range append(null, r.vectorsWithNorms(s, 1)...) {
				refuses(t, "ReflectIn", ofVector(impl.ReflectIn(s, v, w)), impl.ErrState)
				refuses(t, "VersorBetween", ofVector(impl.VersorBetween(s, v, w)), impl.ErrState)
				refuses(t, "VersorBetween", ofVector(impl.VersorBetween(s, w, v)), impl.ErrState)
			}
		}
	})
}

func TestNumbersAreVersors(t *testing.T) {
	t.Parallel()
	regularSpaces(func(s impl.Space, r *source) {
		v, y := r.vector(s.P, len(s.Squares)), r.vector(s.P, bladesOf(s))
		for a := int64(1); a < s.P; a++ {
			x := blade(s, 0, a)
			returnsBool(t, true)(impl.IsVersor(s, x))
			returnsBool(t, true)(impl.IsRotor(s, x))
			returns(t, a*a%s.P)(impl.SpinorNormOf(s, x))
			returnsVector(t, blade(s, 0, reciprocal(s.P, a)))(impl.VersorInverse(s, x))
			returnsVector(t, v)(impl.SandwichOf(s, x, v))
			returnsVector(t, y)(impl.SandwichOfMultivector(s, x, y))
			// The least root of a a is a up to (p - 1) / 2, and its opposite above.
			sign := int64(1)
			if a > (s.P-1)/2 {
				sign = s.P - 1
			}
			returnsVector(t, blade(s, 0, sign))(impl.UnitVersor(s, x))
		}
		checkNoVersor(t, s, make([]int64, bladesOf(s)))
		// The reflections in all basis vectors lead each vector to its opposite.
		whole := blade(s, bladesOf(s)-1, 1+r.below(s.P-1))
		returnsBool(t, true)(impl.IsVersor(s, whole))
		returnsVector(t, multipleOf(s.P, -1, v))(impl.SandwichOf(s, whole, v))
	})
}

// allVersorsOf multiplies by vectors until nothing new comes, and keeps a list of vectors for each
// product.
func allVersorsOf(s impl.Space) map[string]knownVersor {
	var vectors [][]int64
	allVectors(s.P, len(s.Squares), func(v []int64) {
		if pairing(s, v, v) != 0 {
			vectors = append(vectors, slices.Clone(v))
		}
	})
	one := versorFrom(s, nil)
	all, rest := map[string]knownVersor{key(one.x): one}, []knownVersor{one}
	for len(rest) > 0 {
		known := rest[0]
		rest = rest[1:]
		for _, v := range vectors {
			x := geometric(s, known.x, vectorPart(s, v))
			if _, old := all[key(x)]; !old {
				next := knownVersor{append(slices.Clip(known.list), v), x}
				all[key(x)] = next
				rest = append(rest, next)
			}
		}
	}
	return all
}

// TestAllSmallVersors has all multivectors of some spaces.
func TestAllSmallVersors(t *testing.T) {
	t.Parallel()
	for _, s := range []impl.Space{space(3, 1, 1), space(3, 1, 2), space(5, 1, 1), space(5, 2, 1), space(7, 1, 1), space(7, 3, 1), space(3, 1, 1, 1), space(3, 2, 1, 2)} {
		all, found := allVersorsOf(s), 0
		var r source
		allVectors(s.P, bladesOf(s), func(x []int64) {
			known, isVersor := all[key(x)]
			if !isVersor {
				checkNoVersor(t, s, x)
				return
			}
			found++
			checkVersor(t, s, known, unit(len(s.Squares)), [][]int64{r.vector(s.P, bladesOf(s))})
		})
		if found != len(all) {
			t.Errorf("%d of %d versors of %v were met", found, len(all), s)
		}
	}
}

// TestAllVersorsOfOneParity has all even and all odd multivectors of some spaces.
func TestAllVersorsOfOneParity(t *testing.T) {
	t.Parallel()
	for _, s := range []impl.Space{space(11, 1, 2), space(13, 2, 5), space(5, 1, 2, 1), space(7, 1, 1, 3), space(3, 1, 1, 1, 1), space(3, 1, 1, 1, 2), space(3, 1, 2, 2, 1)} {
		all, found, half := allVersorsOf(s), 0, bladesOf(s)/2
		for parity := range 2 {
			allVectors(s.P, half, func(coefficients []int64) {
				x, place := make([]int64, 2*half), 0
				for mask := range x {
					if bits.OnesCount(uint(mask))%2 == parity {
						x[mask] = coefficients[place]
						place++
					}
				}
				known, isVersor := all[key(x)]
				returnsBool(t, isVersor)(impl.IsVersor(s, x))
				returnsBool(t, isVersor && parity == 0)(impl.IsRotor(s, x))
				if isVersor {
					found++
					returns(t, normsOf(s, known.list))(impl.SpinorNormOf(s, x))
				}
			})
		}
		if found != len(all) {
			t.Errorf("%d of %d versors of %v were met", found, len(all), s)
		}
	}
}

// TestOneConditionFails has multivectors for which all conditions for a versor but one hold. That on
// even and odd grades follows from the others.
func TestOneConditionFails(t *testing.T) {
	t.Parallel()
	met := [4]int{}
	regularSpaces(func(s impl.Space, r *source) {
		n := len(s.Squares)
		list := [][]int64{make([]int64, bladesOf(s))}
		if v, code := impl.IsotropicVector(s); code == impl.ErrNone {
			list = append(list, vectorPart(s, v))
		}
		// The square of a number and a blade of grade 4 has both in it; vectors stay vectors only if they
		// are four. A number and a blade of grade 6 make the number of its reverse, but not of vectors.
		for mask := range bladesOf(s) {
			if grade := bits.OnesCount(uint(mask)); n == 4 && grade == 4 || grade == 6 {
				list = append(list, plus(s.P, blade(s, 0, 1+r.below(s.P-1)), 1+r.below(s.P-1), blade(s, mask, 1)))
			}
		}
		for _, x := range list {
			holds := conditions(s, x)
			if isVersorOf(s, x) {
				t.Errorf("%v of %v is a versor", x, s)
			}
			checkNoVersor(t, s, x)
			// A versor times it has the same faults.
			other := geometric(s, x, r.versor(s, 3).x)
			checkNoVersor(t, s, other)
			for i := range met {
				rest := holds
				if rest[i] = true; !holds[i] && rest == [4]bool{true, true, true, true} {
					met[i]++
				}
			}
		}
	})
	if met[0] < 100 || met[1] < 20 || met[2] != 0 || met[3] < 20 {
		t.Errorf("single conditions fail for %v multivectors", met)
	}
}

// TestChangedVersors changes coefficients of versors, and adds versors of the same and of different
// parities.
func TestChangedVersors(t *testing.T) {
	t.Parallel()
	yes, no := 0, 0
	regularSpaces(func(s impl.Space, r *source) {
		n := int64(len(s.Squares))
		list := append(someMultivectors(s, r), r.vector(s.P, bladesOf(s)))
		for count := range int(n) + 1 {
			x := r.versor(s, count).x
			mask := r.below(int64(bladesOf(s)))
			list = append(list, plus(s.P, x, 1+r.below(s.P-1), blade(s, int(mask), 1)))
			list = append(list, plus(s.P, x, 1, r.versor(s, count).x))
			list = append(list, plus(s.P, x, 1, r.versor(s, count+1).x))
			list = append(list, plus(s.P, x, 1+r.below(s.P-1), blade(s, 0, 1)))
		}
		for _, x := range list {
			if !isVersorOf(s, x) {
				no++
				checkNoVersor(t, s, x)
				continue
			}
			yes++
			returnsBool(t, true)(impl.IsVersor(s, x))
			returnsBool(t, slices.Equal(turned(s, 1, x), x))(impl.IsRotor(s, x))
			inverse := must[[]int64](t)(impl.VersorInverse(s, x))
			returnsVector(t, blade(s, 0, 1))(geometric(s, x, inverse), impl.ErrNone)
		}
	})
	if yes < 500 || no < 500 {
		t.Errorf("%d multivectors are versors, and %d are not", yes, no)
	}
}

func TestSpinorNorms(t *testing.T) {
	t.Parallel()
	regularSpaces(func(s impl.Space, r *source) {
		for _, x := range append(someMultivectors(s, r), make([]int64, bladesOf(s))) {
			returns(t, scalarProduct(s, x, x))(impl.SpinorNormOf(s, x))
			returns(t, geometric(s, x, turned(s, 0, x))[0])(impl.SpinorNormOf(s, x))
		}
		for mask := range bladesOf(s) {
			factor, norm := 1+r.below(s.P-1), int64(1)
			for _, i := range indicesOf(mask) {
				norm = norm * s.Squares[i] % s.P
			}
			returns(t, norm*factor%s.P*factor%s.P)(impl.SpinorNormOf(s, blade(s, mask, factor)))
		}
	})
}

// TestProductsOfVersors tests that the sandwich of a product is that of the second factor, and then that
// of the first one.
func TestProductsOfVersors(t *testing.T) {
	t.Parallel()
	regularSpaces(func(s impl.Space, r *source) {
		n := len(s.Squares)
		for range 3 {
			first, second := r.versor(s, int(r.below(5))), r.versor(s, int(r.below(5)))
			x, y := first.x, second.x
			z := must[[]int64](t)(impl.GeometricProduct(s, x, y))
			returnsVector(t, z)(impl.VersorOf(s, slices.Concat(first.list, second.list)))
			norms := [2]int64{must[int64](t)(impl.SpinorNormOf(s, x)), must[int64](t)(impl.SpinorNormOf(s, y))}
			returns(t, norms[0]*norms[1]%s.P)(impl.SpinorNormOf(s, z))
			v, w := r.vector(s.P, n), r.vector(s.P, bladesOf(s))
			inner := must[[]int64](t)(impl.SandwichOf(s, y, v))
			returnsVector(t, must[[]int64](t)(impl.SandwichOf(s, z, v)))(impl.SandwichOf(s, x, inner))
			inner = must[[]int64](t)(impl.SandwichOfMultivector(s, y, w))
			returnsVector(t, must[[]int64](t)(impl.SandwichOfMultivector(s, z, w)))(impl.SandwichOfMultivector(s, x, inner))
			inverse := must[[]int64](t)(impl.VersorInverse(s, z))
			returnsVector(t, inverse)(impl.GeometricProduct(s, must[[]int64](t)(impl.VersorInverse(s, y)), must[[]int64](t)(impl.VersorInverse(s, x))))
			returnsVector(t, v)(impl.SandwichOf(s, inverse, must[[]int64](t)(impl.SandwichOf(s, z, v))))
			returnsVector(t, z)(impl.VersorInverse(s, inverse))
		}
	})
}

// TestSandwichesKeepProducts has norms and products of vectors, and geometric products.
func TestSandwichesKeepProducts(t *testing.T) {
	t.Parallel()
	regularSpaces(func(s impl.Space, r *source) {
		n := len(s.Squares)
		one, whole := blade(s, 0, 1), blade(s, bladesOf(s)-1, 1)
		for count := range 5 {
			x := r.versor(s, count).x
			v, w := r.vector(s.P, n), r.vector(s.P, n)
			a, b := must[[]int64](t)(impl.SandwichOf(s, x, v)), must[[]int64](t)(impl.SandwichOf(s, x, w))
			returns(t, pairing(s, v, v))(impl.NormOf(s, a))
			returns(t, pairing(s, v, w))(impl.PairOf(s, a, b))
			sum := must[[]int64](t)(impl.SandwichOf(s, x, plus(s.P, v, 3, w)))
			returnsVector(t, plus(s.P, a, 3, b))(sum, impl.ErrNone)
			product := geometric(s, vectorPart(s, v), vectorPart(s, w))
			returnsVector(t, geometric(s, vectorPart(s, a), vectorPart(s, b)))(impl.SandwichOfMultivector(s, x, product))
			y, z := r.vector(s.P, bladesOf(s)), someMultivectors(s, r)[1]
			c, d := must[[]int64](t)(impl.SandwichOfMultivector(s, x, y)), must[[]int64](t)(impl.SandwichOfMultivector(s, x, z))
			returnsVector(t, geometric(s, c, d))(impl.SandwichOfMultivector(s, x, geometric(s, y, z)))
			returnsVector(t, one)(impl.SandwichOfMultivector(s, x, one))
			returnsVector(t, make([]int64, bladesOf(s)))(impl.SandwichOfMultivector(s, x, make([]int64, bladesOf(s))))
			// Each reflection changes the sign of the pseudoscalar.
			returnsVector(t, multipleOf(s.P, 1-2*int64(count%2), whole))(impl.SandwichOfMultivector(s, x, whole))
		}
	})
}

// reflected follows the definition of the reflection in u.
func reflected(s impl.Space, u []int64, v []int64) []int64 {
	factor := 2 * pairing(s, u, v) * reciprocal(s.P, pairing(s, u, u)) % s.P
	return plus(s.P, v, -factor, u)
}

func TestReflections(t *testing.T) {
	t.Parallel()
	regularSpaces(func(s impl.Space, r *source) {
		n := len(s.Squares)
		for _, u := range append(unit(n), r.vectorsWithNorms(s, 4)...) {
			v := r.vector(s.P, n)
			image := reflected(s, u, v)
			returnsVector(t, image)(impl.ReflectIn(s, u, v))
			returnsVector(t, image)(impl.SandwichOf(s, vectorPart(s, u), v))
			returnsVector(t, v)(impl.ReflectIn(s, u, image))
			returns(t, pairing(s, v, v))(impl.NormOf(s, image))
			returnsVector(t, multipleOf(s.P, -1, u))(impl.ReflectIn(s, u, u))
			returnsVector(t, image)(impl.ReflectIn(s, multipleOf(s.P, 1+r.below(s.P-1), u), v))
			returnsVector(t, make([]int64, n))(impl.ReflectIn(s, u, make([]int64, n)))
			for _, w := range must[[][]int64](t)(impl.OrthogonalTo(s, [][]int64{u})) {
				returnsVector(t, w)(impl.ReflectIn(s, u, w))
			}
			// The reflection in the line of u keeps u instead of what is orthogonal to it.
			returnsVector(t, multipleOf(s.P, -1, image))(impl.ReflectInBlade(s, vectorPart(s, u), v))
		}
	})
	for _, s := range []impl.Space{space(3, 2), space(13, 5), space(3, 1, 2), space(5, 1, 1), space(7, 1, 3), space(3, 1, 2, 1)} {
		allVectors(s.P, len(s.Squares), func(u []int64) {
			allVectors(s.P, len(s.Squares), func(v []int64) {
				if pairing(s, u, u) == 0 {
					refuses(t, "ReflectIn", ofVector(impl.ReflectIn(s, u, v)), impl.ErrState)
				} else {
					returnsVector(t, reflected(s, u, v))(impl.ReflectIn(s, u, v))
				}
			})
		})
	}
}

// checkBetween tests the versor between two vectors, or that there is none; it tells whether the
// difference has a norm other than 0.
func checkBetween(t *testing.T, s impl.Space, u []int64, v []int64) bool {
	t.Helper()
	if pairing(s, u, u) != pairing(s, v, v) || pairing(s, u, u) == 0 {
		refuses(t, "VersorBetween", ofVector(impl.VersorBetween(s, u, v)), impl.ErrState)
		return false
	}
	difference := plus(s.P, v, -1, u)
	direct := pairing(s, difference, difference) != 0
	want := vectorPart(s, difference)
	if !direct {
		want = geometric(s, vectorPart(s, v), vectorPart(s, plus(s.P, v, 1, u)))
	}
	returnsVector(t, want)(impl.VersorBetween(s, u, v))
	returnsBool(t, true)(impl.IsVersor(s, want))
	returnsBool(t, !direct)(impl.IsRotor(s, want))
	returnsVector(t, v)(impl.SandwichOf(s, want, u))
	return direct
}

func TestVersorsBetweenAllVectors(t *testing.T) {
	t.Parallel()
	for _, s := range []impl.Space{space(3, 1), space(5, 2), space(13, 6), space(3, 1, 1), space(3, 1, 2), space(5, 1, 1), space(5, 1, 2), space(7, 3, 6), space(3, 1, 1, 2)} {
		allVectors(s.P, len(s.Squares), func(u []int64) {
			allVectors(s.P, len(s.Squares), func(v []int64) { checkBetween(t, s, u, v) })
		})
	}
}

// isotropicBeside returns a vector of the norm 0 that is orthogonal to u, other than 0, if there is one.
func isotropicBeside(s impl.Space, u []int64) []int64 {
	return firstVector(s, func(w []int64) bool { return !isZero(w) && pairing(s, w, w) == 0 && pairing(s, w, u) == 0 })
}

func TestVersorsBetween(t *testing.T) {
	t.Parallel()
	direct, isotropic := 0, 0
	regularSpaces(func(s impl.Space, r *source) {
		n := len(s.Squares)
		for _, u := range r.vectorsWithNorms(s, 3) {
			v := apply(s.P, reflectionsIn(t, s, r.vectorsWithNorms(s, 2)), u)
			if checkBetween(t, s, u, v) {
				direct++
			}
			if checkBetween(t, s, u, u) || !checkBetween(t, s, u, multipleOf(s.P, -1, u)) {
				t.Errorf("%v of %v and itself, or its opposite", u, s)
			}
			checkBetween(t, s, u, r.vector(s.P, n))
			refuses(t, "VersorBetween", ofVector(impl.VersorBetween(s, u, make([]int64, n))), impl.ErrState)
			refuses(t, "VersorBetween", ofVector(impl.VersorBetween(s, make([]int64, n), u)), impl.ErrState)
		}
		// All vectors would have to be tried where there is none.
		if powerOf(s.P, n) > 5000 {
			return
		}
		u := r.vectorsWithNorms(s, 1)[0]
		if w := isotropicBeside(s, u); w != nil {
			isotropic++
			if checkBetween(t, s, u, plus(s.P, u, 1+r.below(s.P-1), w)) {
				t.Errorf("the norm of %v in %v is not 0", w, s)
			}
		}
	})
	if direct < 500 || isotropic < 50 {
		t.Errorf("%d versors are differences, and %d differences are isotropic", direct, isotropic)
	}
	// Both vectors differ by one with the norm 0, in the greatest spaces.
	for _, p := range primes {
		s := space(p, 1, p-1, 1, p-1, 1, 1)
		for place := 4; place < 6; place++ {
			u := unit(6)[place]
			checkBetween(t, s, u, plus(p, u, 1, []int64{1, 1, 0, 0, 0, 0}))
			checkBetween(t, s, plus(p, u, 2, []int64{0, 0, 1, p - 1, 0, 0}), u)
		}
	}
}

// TestUnitVersors has spinor norms that are squares, and others; 0 is refused before its root is looked
// for.
func TestUnitVersors(t *testing.T) {
	t.Parallel()
	squares, others := 0, 0
	regularSpaces(func(s impl.Space, r *source) {
		for count := range 4 {
			known := r.versor(s, count)
			norm := normsOf(s, known.list)
			checkUnit(t, s, known.x, norm)
			if _, square := rootOf(s.P, norm); !square {
				others++
				continue
			}
			squares++
			v, got := r.vector(s.P, len(s.Squares)), must[[]int64](t)(impl.UnitVersor(s, known.x))
			returnsVector(t, must[[]int64](t)(impl.SandwichOf(s, known.x, v)))(impl.SandwichOf(s, got, v))
			returnsVector(t, got)(impl.UnitVersor(s, got))
			returnsVector(t, turned(s, 0, got))(impl.VersorInverse(s, got))
		}
	})
	if squares < 500 || others < 500 {
		t.Errorf("%d spinor norms are squares, and %d are not", squares, others)
	}
}

// TestSpacesWithoutVersors has one square that is 0, at each place, and more of them. Whatever is wrong
// with other arguments is told before.
func TestSpacesWithoutVersors(t *testing.T) {
	t.Parallel()
	allSpaces(func(s impl.Space, r *source) {
		if regularOf(s) {
			return
		}
		n := len(s.Squares)
		one, zero := blade(s, 0, 1), make([]int64, bladesOf(s))
		for _, x := range append(someMultivectors(s, r), one, zero, blade(s, bladesOf(s)-1, 1)) {
			for _, list := range [][][]int64{nil, unit(n), zeros(1, n), r.matrix(s.P, 16, n)} {
				for _, v := range [][]int64{make([]int64, n), r.vector(s.P, n), unit(n)[0]} {
					for call, got := range callsOfMotions(s, x, v, list) {
						refuses(t, call, got, impl.ErrState)
					}
				}
			}
		}
		for call, got := range callsOfMotions(s, blade(s, 0, s.P), slices.Repeat([]int64{-1}, n), zeros(17, n)) {
			refuses(t, call, got, impl.ErrRange)
		}
		u := space(s.P, append(slices.Clone(s.Squares[1:]), s.P)...)
		for call, got := range callsOfMotions(u, blade(s, 0, s.P), slices.Repeat([]int64{-1}, n), zeros(17, n)) {
			refuses(t, call, got, impl.ErrInvalid)
		}
	})
}

// TestVersorsOfNoSpaces gives other arguments that are right, and some that are wrong, too.
func TestVersorsOfNoSpaces(t *testing.T) {
	t.Parallel()
	for _, s := range notSpaces() {
		n := len(s.Squares)
		for _, length := range []int{0, 4, 1 << min(n, 7)} {
			for _, number := range []int64{0, 1} {
				x := slices.Repeat([]int64{number}, length)
				for _, v := range [][]int64{make([]int64, n), slices.Repeat([]int64{1}, n), {-1}, nil} {
					for call, got := range callsOfMotions(s, x, v, [][]int64{v}) {
						refuses(t, call, got, impl.ErrInvalid)
					}
				}
			}
		}
		for _, list := range [][][]int64{nil, unit(n), zeros(1, n), zeros(17, 2), {nil}, {{-1, 1}}, {{1, 0}, {1}}} {
			refuses(t, "VersorOf", ofVector(impl.VersorOf(s, list)), impl.ErrInvalid)
		}
	}
}

// TestVersorsOfNoMultivectors has, beside what is none, a versor and a multivector that is no versor, in
// regular spaces and in others.
func TestVersorsOfNoMultivectors(t *testing.T) {
	t.Parallel()
	for _, p := range primes {
		for n := 1; n <= 6; n++ {
			for _, square := range []int64{0, 1} {
				s := space(p, slices.Repeat([]int64{square}, n)...)
				for _, bad := range notMultivectors(s) {
					refuses(t, "IsVersor", ofBool(impl.IsVersor(s, bad)), impl.ErrRange)
					refuses(t, "IsRotor", ofBool(impl.IsRotor(s, bad)), impl.ErrRange)
					refuses(t, "SpinorNormOf", ofNumber(impl.SpinorNormOf(s, bad)), impl.ErrRange)
					for _, y := range [][]int64{blade(s, 0, 1), make([]int64, bladesOf(s)), bad} {
						refuses(t, "SandwichOfMultivector", ofVector(impl.SandwichOfMultivector(s, y, bad)), impl.ErrRange)
						for call, got := range callsOfVersors(s, bad, y, make([]int64, n)) {
							refuses(t, call, got, impl.ErrRange)
						}
					}
				}
			}
		}
	}
}

func TestVersorsOfNoVectors(t *testing.T) {
	t.Parallel()
	for _, p := range primes {
		for n := 1; n <= 6; n++ {
			for _, square := range []int64{0, 1} {
				s := space(p, slices.Repeat([]int64{square}, n)...)
				for _, bad := range notVectors(s) {
					for _, v := range [][]int64{make([]int64, n), unit(n)[0], bad} {
						refuses(t, "ReflectIn", ofVector(impl.ReflectIn(s, v, bad)), impl.ErrRange)
						refuses(t, "ReflectIn", ofVector(impl.ReflectIn(s, bad, v)), impl.ErrRange)
						refuses(t, "VersorBetween", ofVector(impl.VersorBetween(s, v, bad)), impl.ErrRange)
						refuses(t, "VersorBetween", ofVector(impl.VersorBetween(s, bad, v)), impl.ErrRange)
					}
					for _, x := range [][]int64{blade(s, 0, 1), make([]int64, bladesOf(s)), blade(s, 0, p), nil} {
						refuses(t, "SandwichOf", ofVector(impl.SandwichOf(s, x, bad)), impl.ErrRange)
					}
					for length := range 17 {
						for _, place := range []int{0, length / 2, length} {
							list := slices.Insert(zeros(length, n), place, bad)
							refuses(t, "VersorOf", ofVector(impl.VersorOf(s, list)), impl.ErrRange)
						}
					}
				}
				for length := 17; length <= 40; length++ {
					refuses(t, "VersorOf", ofVector(impl.VersorOf(s, zeros(length, n))), impl.ErrRange)
				}
			}
		}
	}
}

// listsOfVersors are the results of the calls that return lists.
func listsOfVersors(t *testing.T, s impl.Space, list [][]int64, versors [][]int64, y []int64) map[string][]int64 {
	t.Helper()
	u, v, zero, one := list[0], list[1], list[2], blade(s, 0, 1)
	lists := map[string][]int64{
		"VersorOf":                   must[[]int64](t)(impl.VersorOf(s, list[:2])),
		"VersorOf one":               must[[]int64](t)(impl.VersorOf(s, list[:1])),
		"VersorOf no one":            must[[]int64](t)(impl.VersorOf(s, list[:0])),
		"ReflectIn":                  must[[]int64](t)(impl.ReflectIn(s, u, v)),
		"ReflectIn itself":           must[[]int64](t)(impl.ReflectIn(s, u, u)),
		"ReflectIn 0":                must[[]int64](t)(impl.ReflectIn(s, u, zero)),
		"VersorBetween":              must[[]int64](t)(impl.VersorBetween(s, u, multipleOf(s.P, -1, u))),
		"VersorBetween itself":       must[[]int64](t)(impl.VersorBetween(s, u, u)),
		"UnitVersor even":            must[[]int64](t)(impl.UnitVersor(s, versors[0])),
		"UnitVersor a number":        must[[]int64](t)(impl.UnitVersor(s, versors[2])),
		"SandwichOf 1":               must[[]int64](t)(impl.SandwichOf(s, one, v)),
		"SandwichOfMultivector by 1": must[[]int64](t)(impl.SandwichOfMultivector(s, one, y)),
	}
	for i, kind := range []string{" even", " odd", " a number"} {
		x := versors[i]
		lists["VersorInverse"+kind] = must[[]int64](t)(impl.VersorInverse(s, x))
		lists["SandwichOf"+kind] = must[[]int64](t)(impl.SandwichOf(s, x, v))
		lists["SandwichOfMultivector"+kind] = must[[]int64](t)(impl.SandwichOfMultivector(s, x, y))
	}
	return lists
}

// TestVersorsAreNewMemory overwrites all results, and then calls everything again. Two of the versors have
// the spinor norm 1, so that they could be given back as they are.
func TestVersorsAreNewMemory(t *testing.T) {
	t.Parallel()
	regularSpaces(func(kept impl.Space, r *source) {
		var g guard
		s := impl.Space{P: kept.P, Squares: g.keep([][]int64{kept.Squares})[0]}
		list := g.keep(append(r.vectorsWithNorms(s, 2), make([]int64, len(s.Squares))))
		even := r.versor(s, 2)
		square := geometric(s, even.x, even.x)
		one := multipleOf(s.P, reciprocal(s.P, normsOf(s, even.list)), square)
		versors := g.keep([][]int64{one, r.versor(s, 3).x, blade(s, 0, s.P-1)})
		rows := g.keep([][]int64{r.vector(s.P, bladesOf(s)), make([]int64, bladesOf(s))})
		y, zero := rows[0], rows[1]
		before := map[string][]int64{}
		for call, row := range listsOfVersors(t, s, list, versors, y) {
			g.check(t, call)
			before[call] = slices.Clone(row)
			overwrite(t, call, [][]int64{row})
			g.check(t, "overwriting the result of "+call)
		}
		for call, row := range listsOfVersors(t, s, list, versors, y) {
			if !slices.Equal(row, before[call]) {
				t.Errorf("%s of %v returns something else the second time", call, s)
			}
		}
		for _, x := range versors {
			must[bool](t)(impl.IsVersor(s, x))
			must[bool](t)(impl.IsRotor(s, x))
			must[int64](t)(impl.SpinorNormOf(s, x))
			impl.UnitVersor(s, x)
		}
		callsOfMotions(s, zero, list[2], list)
		callsOfMotions(s, y, list[1], list[:2])
		impl.VersorBetween(s, list[0], list[1])
		g.check(t, "a call that returns no list")
	})
}
