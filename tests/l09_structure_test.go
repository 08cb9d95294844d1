package tests

import (
	"slices"
	"testing"

	"loop.example/g01124/impl"
)

func TestMaxStructure(t *testing.T) {
	t.Parallel()
	if impl.MaxStructure != 4 {
		t.Errorf("MaxStructure is %d", impl.MaxStructure)
	}
}

// algebra has the numbers of a structure.
type algebra struct{ parts, rows, degree int64 }

func (a algebra) least() int64 { return a.rows * a.degree }

func ofStructure(b int64, r int64, d int64, code int64) result {
	return result{code, b == 0 && r == 0 && d == 0}
}

func returnsStructure(t *testing.T, want algebra) func(b int64, r int64, d int64, code int64) {
	t.Helper()
	return func(b int64, r int64, d int64, code int64) {
		t.Helper()
		if got := (algebra{b, r, d}); got != want || code != impl.ErrNone {
			t.Errorf("structure %v, code %d; it has to be %v, code 0", got, code, want)
		}
	}
}

// callsOfElements are the calls with a multivector.
func callsOfElements(s impl.Space, x []int64) map[string]result {
	return map[string]result{
		"LeftMatrix":        ofMatrix(impl.LeftMatrix(s, x)),
		"RightMatrix":       ofMatrix(impl.RightMatrix(s, x)),
		"IsCentral":         ofBool(impl.IsCentral(s, x)),
		"MinimalPolynomial": ofVector(impl.MinimalPolynomial(s, x)),
		"IsIdempotent":      ofBool(impl.IsIdempotent(s, x)),
		"LeftIdealOf":       ofMatrix(impl.LeftIdealOf(s, x)),
		"LeftAnnihilatorOf": ofMatrix(impl.LeftAnnihilatorOf(s, x)),
		"VectorIdempotent":  ofVector(impl.VectorIdempotent(s, x)),
		"HasInverse":        ofBool(impl.HasInverse(s, x)),
	}
}

// callsOfAlgebras are the calls with a space alone.
func callsOfAlgebras(s impl.Space) map[string]result {
	return map[string]result{
		"CentreBasis":      ofMatrix(impl.CentreBasis(s)),
		"StructureOf":      ofStructure(impl.StructureOf(s)),
		"MinimalIdealSize": ofNumber(impl.MinimalIdealSize(s)),
		"EvenBasis":        ofVector(impl.EvenBasis(s)),
	}
}

// allAlgebras calls do with those of allSpaces that have at most MaxStructure squares.
func allAlgebras(do func(s impl.Space, r *source)) {
	allSpaces(func(s impl.Space, r *source) {
		if len(s.Squares) <= 4 {
			do(s, r)
		}
	})
}

func regularAlgebras(do func(s impl.Space, r *source)) {
	regularSpaces(func(s impl.Space, r *source) {
		if len(s.Squares) <= 4 {
			do(s, r)
		}
	})
}

// fewAlgebras are spaces of which all multivectors can be gone through.
func fewAlgebras() []impl.Space {
	var list []impl.Space
	for _, p := range primes {
		for square := range p {
			list = append(list, space(p, square))
		}
	}
	allVectors(3, 2, func(squares []int64) { list = append(list, space(3, squares...)) })
	list = append(list, space(5, 1, 1), space(5, 1, 2), space(5, 2, 0), space(7, 1, 1), space(7, 1, 6))
	return append(list, space(3, 1, 1, 1), space(3, 1, 1, 2), space(3, 0, 1, 2), space(3, 0, 0, 0))
}

// elementsOf are numbers, vectors, products of vectors, and other multivectors, some of them without an
// inverse.
func elementsOf(s impl.Space, r *source) [][]int64 {
	n, one := len(s.Squares), blade(s, 0, 1)
	list := append(someMultivectors(s, r), make([]int64, bladesOf(s)), one, blade(s, 0, s.P-1), blade(s, bladesOf(s)-1, 1))
	v, w := vectorPart(s, r.vector(s.P, n)), vectorPart(s, r.vector(s.P, n))
	list = append(list, v, plus(s.P, v, r.below(s.P), one), geometric(s, v, w), geometric(s, plus(s.P, v, 1, one), w))
	for _, norm := range []int64{0, 1} {
		fits := func(v []int64) bool { return !isZero(v) && pairing(s, v, v) == norm }
		if v := firstVector(s, fits); v != nil {
			x := plus(s.P, vectorPart(s, v), norm, one)
			list = append(list, x, geometric(s, r.vector(s.P, bladesOf(s)), x))
		}
	}
	return list
}

// productsOf are the products of x with all blades, x being the first factor, or the second one.
func productsOf(s impl.Space, x []int64, first bool) [][]int64 {
	list := make([][]int64, bladesOf(s))
	for mask := range list {
		if first {
			list[mask] = geometric(s, x, blade(s, mask, 1))
		} else {
			list[mask] = geometric(s, blade(s, mask, 1), x)
		}
	}
	return list
}

// isIn reports whether v is a sum of multiples of the vectors of a reduced basis.
func isIn(p int64, basis [][]int64, v []int64) bool {
	for _, w := range basis {
		place := slices.IndexFunc(w, func(a int64) bool { return a != 0 })
		v = plus(p, v, -v[place], w)
	}
	return isZero(v)
}

func TestStructureOfThePlane(t *testing.T) {
	t.Parallel()
	line, plane, x, e := space(5, 1), space(5, 1, 1), []int64{1, 2, 3, 4}, []int64{3, 3, 0, 0}
	returnsMatrix(t, [][]int64{{2, 3}, {3, 2}})(impl.LeftMatrix(line, []int64{2, 3}))
	returnsMatrix(t, [][]int64{{2, 1}, {3, 2}})(impl.LeftMatrix(space(5, 2), []int64{2, 3}))
	returnsMatrix(t, [][]int64{{1, 2, 3, 1}, {2, 1, 4, 2}, {3, 1, 1, 2}, {4, 2, 2, 1}})(impl.LeftMatrix(plane, x))
	returnsMatrix(t, [][]int64{{1, 2, 3, 1}, {2, 1, 1, 3}, {3, 4, 1, 3}, {4, 3, 3, 1}})(impl.RightMatrix(plane, x))
	returnsMatrix(t, [][]int64{{1, 0, 0, 0}})(impl.CentreBasis(plane))
	returnsMatrix(t, unit(2))(impl.CentreBasis(line))
	returnsBool(t, true)(impl.IsCentral(plane, []int64{3, 0, 0, 0}))
	returnsBool(t, true)(impl.IsCentral(plane, []int64{0, 0, 0, 0}))
	returnsBool(t, true)(impl.IsCentral(line, []int64{2, 3}))
	for _, other := range [][]int64{{0, 1, 0, 0}, {0, 0, 1, 0}, {0, 0, 0, 1}, {1, 1, 0, 0}, {1, 2, 3, 4}} {
		returnsBool(t, false)(impl.IsCentral(plane, other))
	}
	returnsVector(t, []int64{1, 0, 1})(impl.MinimalPolynomial(plane, []int64{0, 0, 0, 1}))
	returnsVector(t, []int64{0, 1})(impl.MinimalPolynomial(plane, []int64{0, 0, 0, 0}))
	returnsVector(t, []int64{2, 1})(impl.MinimalPolynomial(plane, []int64{3, 0, 0, 0}))
	returnsVector(t, []int64{0, 0, 1})(impl.MinimalPolynomial(plane, []int64{0, 1, 2, 0}))
	returnsVector(t, []int64{0, 4, 1})(impl.MinimalPolynomial(plane, e))
	// The square of x - 1 is 2 2 + 3 3 - 4 4, which is 2.
	returnsVector(t, []int64{4, 3, 1})(impl.MinimalPolynomial(plane, x))
	returnsVector(t, e)(impl.VectorIdempotent(plane, []int64{0, 1, 0, 0}))
	returnsVector(t, e)(impl.VectorIdempotent(plane, []int64{0, 2, 0, 0}))
	returnsVector(t, []int64{3, 2, 0, 0})(impl.VectorIdempotent(plane, []int64{0, 3, 0, 0}))
	refuses(t, "VectorIdempotent", ofVector(impl.VectorIdempotent(plane, []int64{0, 1, 1, 0})), impl.ErrState)
	refuses(t, "VectorIdempotent", ofVector(impl.VectorIdempotent(plane, []int64{0, 1, 2, 0})), impl.ErrState)
	for _, yes := range [][]int64{e, {3, 2, 0, 0}, {1, 0, 0, 0}, {0, 0, 0, 0}, {3, 0, 0, 1}} {
		returnsBool(t, true)(impl.IsIdempotent(plane, yes))
	}
	for _, no := range [][]int64{{4, 0, 0, 0}, {0, 1, 0, 0}, {1, 1, 0, 0}, {0, 1, 2, 0}, x} {
		returnsBool(t, false)(impl.IsIdempotent(plane, no))
	}
	returnsMatrix(t, [][]int64{{1, 1, 0, 0}, {0, 0, 1, 4}})(impl.LeftIdealOf(plane, e))
	returnsMatrix(t, [][]int64{{1, 4, 0, 0}, {0, 0, 1, 1}})(impl.LeftAnnihilatorOf(plane, e))
	returnsMatrix(t, nil)(impl.LeftIdealOf(plane, []int64{0, 0, 0, 0}))
	returnsMatrix(t, unit(4))(impl.LeftAnnihilatorOf(plane, []int64{0, 0, 0, 0}))
	returnsMatrix(t, unit(4))(impl.LeftIdealOf(plane, x))
	returnsMatrix(t, nil)(impl.LeftAnnihilatorOf(plane, x))
	returnsBool(t, false)(impl.HasInverse(plane, e))
	returnsBool(t, false)(impl.HasInverse(plane, []int64{0, 0, 0, 0}))
	returnsBool(t, true)(impl.HasInverse(plane, x))
	returnsBool(t, true)(impl.HasInverse(plane, []int64{0, 1, 1, 0}))
	returnsStructure(t, algebra{1, 2, 1})(impl.StructureOf(plane))
	returnsStructure(t, algebra{2, 1, 1})(impl.StructureOf(line))
	returnsStructure(t, algebra{1, 1, 2})(impl.StructureOf(space(5, 2)))
	returns(t, 2)(impl.MinimalIdealSize(plane))
	returns(t, 1)(impl.MinimalIdealSize(line))
	returns(t, 2)(impl.MinimalIdealSize(space(5, 2)))
}

func TestLeftAndRightMatrices(t *testing.T) {
	t.Parallel()
	allAlgebras(func(s impl.Space, r *source) {
		size := bladesOf(s)
		y := r.vector(s.P, size)
		left, right := must[[][]int64](t)(impl.LeftMatrix(s, y)), must[[][]int64](t)(impl.RightMatrix(s, y))
		for _, x := range elementsOf(s, r) {
			a, b := must[[][]int64](t)(impl.LeftMatrix(s, x)), must[[][]int64](t)(impl.RightMatrix(s, x))
			returnsMatrix(t, flip(productsOf(s, x, true)))(a, impl.ErrNone)
			returnsMatrix(t, flip(productsOf(s, x, false)))(b, impl.ErrNone)
			xy := geometric(s, x, y)
			returnsVector(t, xy)(apply(s.P, a, y), impl.ErrNone)
			returnsVector(t, xy)(apply(s.P, right, x), impl.ErrNone)
			returnsMatrix(t, product(s.P, a, left))(impl.LeftMatrix(s, xy))
			returnsMatrix(t, product(s.P, right, b))(impl.RightMatrix(s, xy))
			if !equalRows(product(s.P, a, right), product(s.P, right, a)) {
				t.Errorf("the left matrix of %v and the right one of %v in %v do not commute", x, y, s)
			}
		}
		for _, k := range []int64{0, 1, s.P - 1} {
			number := diagonal(slices.Repeat([]int64{k}, size)...)
			returnsMatrix(t, number)(impl.LeftMatrix(s, blade(s, 0, k)))
			returnsMatrix(t, number)(impl.RightMatrix(s, blade(s, 0, k)))
		}
	})
}

// commutes compares the products with all blades.
func commutes(s impl.Space, x []int64) bool {
	return equalRows(productsOf(s, x, true), productsOf(s, x, false))
}

// TestCentres uses that the bracket with a basis vector leads different blades to multiples of different
// blades, so that the centre is made of blades.
func TestCentres(t *testing.T) {
	t.Parallel()
	allAlgebras(func(s impl.Space, r *source) {
		size := bladesOf(s)
		var want [][]int64
		sum := make([]int64, size)
		for mask := range size {
			if x := blade(s, mask, 1); commutes(s, x) {
				want = append(want, x)
				sum[mask] = 1 + r.below(s.P-1)
			} else {
				returnsBool(t, false)(impl.IsCentral(s, x))
			}
		}
		returnsMatrix(t, want)(impl.CentreBasis(s))
		returnsBool(t, true)(impl.IsCentral(s, sum))
		for mask := range size {
			other := plus(s.P, sum, 1+r.below(s.P-1), blade(s, mask, 1))
			returnsBool(t, commutes(s, blade(s, mask, 1)))(impl.IsCentral(s, other))
		}
		for k := range s.P {
			returnsBool(t, true)(impl.IsCentral(s, blade(s, 0, k)))
		}
		if regularOf(s) {
			want := [][]int64{blade(s, 0, 1), blade(s, size-1, 1)}[:1+len(s.Squares)%2]
			returnsMatrix(t, want)(impl.CentreBasis(s))
		}
	})
	// With squares that are 0, blades can be central beside the pseudoscalar.
	returnsMatrix(t, [][]int64{{1, 0, 0, 0}, {0, 0, 0, 1}})(impl.CentreBasis(space(5, 0, 0)))
	returnsMatrix(t, [][]int64{{1, 0, 0, 0}})(impl.CentreBasis(space(5, 1, 0)))
	s := space(7, 0, 0, 0, 1)
	returnsMatrix(t, [][]int64{blade(s, 0, 1), blade(s, 3, 1), blade(s, 5, 1), blade(s, 6, 1)})(impl.CentreBasis(s))
}

// valueAt puts x into a polynomial.
func valueAt(s impl.Space, polynomial []int64, x []int64) []int64 {
	value, power := make([]int64, len(x)), blade(s, 0, 1)
	for _, coefficient := range polynomial {
		value, power = plus(s.P, value, coefficient, power), geometric(s, power, x)
	}
	return value
}

// checkMinimal tests that x is put in 0, and that the powers below the degree are independent, so that
// no other polynomial has this degree or a lower one.
func checkMinimal(t *testing.T, s impl.Space, x []int64) []int64 {
	t.Helper()
	polynomial := must[[]int64](t)(impl.MinimalPolynomial(s, x))
	degree := len(polynomial) - 1
	if degree < 1 || polynomial[degree] != 1 || slices.Min(polynomial) < 0 || slices.Max(polynomial) >= s.P {
		t.Fatalf("%v in %v has the minimal polynomial %v", x, s, polynomial)
	}
	if !isZero(valueAt(s, polynomial, x)) {
		t.Errorf("%v of %v is not 0 in %v", x, s, polynomial)
	}
	powers := [][]int64{blade(s, 0, 1)}
	for len(powers) < degree {
		powers = append(powers, geometric(s, powers[len(powers)-1], x))
	}
	returns(t, int64(degree))(impl.RankOf(s.P, powers))
	return polynomial
}

// firstPolynomial goes through the polynomials of one degree after the other.
func firstPolynomial(s impl.Space, x []int64) []int64 {
	for degree := 1; ; degree++ {
		var found []int64
		allVectors(s.P, degree, func(lower []int64) {
			if polynomial := slices.Concat(lower, []int64{1}); found == nil && isZero(valueAt(s, polynomial, x)) {
				found = polynomial
			}
		})
		if found != nil {
			return found
		}
	}
}

func TestMinimalPolynomials(t *testing.T) {
	t.Parallel()
	met := [5][5]int{}
	allAlgebras(func(s impl.Space, r *source) {
		n := len(s.Squares)
		for _, x := range append(elementsOf(s, r), r.vector(s.P, bladesOf(s))) {
			polynomial := checkMinimal(t, s, x)
			met[n][len(polynomial)-1]++
			// What has an inverse has products other than 0 with all but 0.
			returnsBool(t, polynomial[0] != 0)(impl.HasInverse(s, x))
		}
		for k := range s.P {
			returnsVector(t, []int64{(s.P - k) % s.P, 1})(impl.MinimalPolynomial(s, blade(s, 0, k)))
			v := r.vector(s.P, n)
			if isZero(v) {
				continue
			}
			norm := pairing(s, v, v)
			returnsVector(t, []int64{(s.P - norm) % s.P, 0, 1})(impl.MinimalPolynomial(s, vectorPart(s, v)))
			x := plus(s.P, vectorPart(s, v), k, blade(s, 0, 1))
			want := []int64{(k*k + s.P - norm) % s.P, (2 * (s.P - k)) % s.P, 1}
			returnsVector(t, want)(impl.MinimalPolynomial(s, x))
		}
	})
	for n, greatest := range []int{0, 2, 2, 4, 4} {
		for degree := 1; degree <= greatest; degree++ {
			if met[n][degree] < 10 {
				t.Errorf("%d minimal polynomials of spaces with %d squares have the degree %d", met[n][degree], n, degree)
			}
		}
	}
}

func TestMinimalPolynomialsOfNilpotents(t *testing.T) {
	t.Parallel()
	for _, p := range primes {
		s := space(p, 0, 0, 0, 0)
		// e0 e1 + e2 e3 has the square 2 e0 e1 e2 e3.
		returnsVector(t, []int64{0, 0, 0, 1})(impl.MinimalPolynomial(s, plus(p, blade(s, 3, 1), 1, blade(s, 12, 1))))
		returnsVector(t, []int64{0, 0, 1})(impl.MinimalPolynomial(s, plus(p, blade(s, 3, 1), 1, blade(s, 6, 1))))
		returnsVector(t, []int64{0, 0, 1})(impl.MinimalPolynomial(s, blade(s, 15, p-1)))
		x := plus(p, blade(s, 3, 1), 1, plus(p, blade(s, 12, 1), 1, blade(s, 0, 1)))
		returnsVector(t, []int64{p - 1, 3 % p, p - 3, 1})(impl.MinimalPolynomial(s, x))
		// With a = e0 + e1 and b = e0 - e1, whose squares are 0, and t = e2 e3, the square of a + t b is
		// t (a b + b a), which is 4 t, and its third power is 4 t a.
		s = space(p, 1, p-1, 0, 0)
		x = blade(s, 1, 1)
		x[2], x[13], x[14] = 1, 1, p-1
		returnsVector(t, []int64{0, 0, 0, 0, 1})(impl.MinimalPolynomial(s, x))
		checkMinimal(t, s, x)
	}
}

// checkIdeals tests the left ideal and the left annihilator of x, and whether it has an inverse. It
// returns how many vectors the basis of the left ideal has.
func checkIdeals(t *testing.T, s impl.Space, x []int64) int64 {
	t.Helper()
	size, products := int64(bladesOf(s)), productsOf(s, x, false)
	rank := must[int64](t)(impl.RankOf(s.P, products))
	ideal := must[[][]int64](t)(impl.LeftIdealOf(s, x))
	// As many vectors as the rank, of which all products are made, make nothing else.
	isOther := func(y []int64) bool { return !isIn(s.P, ideal, y) }
	if int64(len(ideal)) != rank || !isReduced(s.P, ideal) || slices.ContainsFunc(products, isOther) {
		t.Errorf("the left ideal of %v in %v has the basis %v", x, s, ideal)
	}
	annihilator := must[[][]int64](t)(impl.LeftAnnihilatorOf(s, x))
	isOther = func(y []int64) bool { return !isZero(geometric(s, y, x)) }
	if int64(len(annihilator)) != size-rank || !isReduced(s.P, annihilator) || slices.ContainsFunc(annihilator, isOther) {
		t.Errorf("the left annihilator of %v in %v has the basis %v", x, s, annihilator)
	}
	returnsBool(t, rank == size)(impl.HasInverse(s, x))
	if rank == size {
		y := must[[]int64](t)(impl.InverseOf(s, x))
		returnsVector(t, blade(s, 0, 1))(geometric(s, x, y), impl.ErrNone)
		returnsVector(t, blade(s, 0, 1))(geometric(s, y, x), impl.ErrNone)
		returnsMatrix(t, unit(int(size)))(ideal, impl.ErrNone)
	} else {
		refuses(t, "InverseOf", ofVector(impl.InverseOf(s, x)), impl.ErrState)
	}
	return rank
}

func TestIdeals(t *testing.T) {
	t.Parallel()
	yes, no := 0, 0
	allAlgebras(func(s impl.Space, r *source) {
		size := bladesOf(s)
		for _, x := range elementsOf(s, r) {
			if checkIdeals(t, s, x) == int64(size) {
				yes++
			} else {
				no++
			}
			returnsBool(t, hasInverse(t, s, x))(impl.HasInverse(s, x))
			returnsBool(t, slices.Equal(geometric(s, x, x), x))(impl.IsIdempotent(s, x))
		}
		zero := make([]int64, size)
		returnsMatrix(t, nil)(impl.LeftIdealOf(s, zero))
		returnsMatrix(t, unit(size))(impl.LeftAnnihilatorOf(s, zero))
		returnsBool(t, false)(impl.HasInverse(s, zero))
		returnsBool(t, true)(impl.IsIdempotent(s, zero))
		for k := int64(1); k < s.P; k++ {
			returnsMatrix(t, unit(size))(impl.LeftIdealOf(s, blade(s, 0, k)))
			returnsMatrix(t, nil)(impl.LeftAnnihilatorOf(s, blade(s, 0, k)))
			returnsBool(t, true)(impl.HasInverse(s, blade(s, 0, k)))
			returnsBool(t, k == 1)(impl.IsIdempotent(s, blade(s, 0, k)))
		}
	})
	if yes < 1000 || no < 1000 {
		t.Errorf("%d multivectors have inverses, and %d have none", yes, no)
	}
}

// TestLeftIsNotRight has a multivector whose right ideal and right annihilator are others.
func TestLeftIsNotRight(t *testing.T) {
	t.Parallel()
	plane, x := space(5, 1, 1), []int64{3, 3, 0, 0}
	right := must[[][]int64](t)(impl.SpanBasis(5, productsOf(plane, x, true)))
	left := must[[][]int64](t)(impl.LeftIdealOf(plane, x))
	if equalRows(left, right) || len(left) != len(right) {
		t.Errorf("the ideals of %v are %v and %v", x, left, right)
	}
	right = must[[][]int64](t)(impl.KernelBasis(5, flip(productsOf(plane, x, true))))
	left = must[[][]int64](t)(impl.LeftAnnihilatorOf(plane, x))
	if equalRows(left, right) || len(left) != len(right) {
		t.Errorf("the annihilators of %v are %v and %v", x, left, right)
	}
}

// TestAllElements goes through all multivectors of small spaces.
func TestAllElements(t *testing.T) {
	t.Parallel()
	for _, s := range fewAlgebras() {
		var centre, idempotents int64
		least, size := int64(bladesOf(s)), bladesOf(s)
		allVectors(s.P, size, func(x []int64) {
			central, idempotent := commutes(s, x), slices.Equal(geometric(s, x, x), x)
			returnsBool(t, central)(impl.IsCentral(s, x))
			returnsBool(t, idempotent)(impl.IsIdempotent(s, x))
			if central {
				centre++
				if idempotent {
					idempotents++
				}
			}
			if dimension := checkIdeals(t, s, x); dimension > 0 {
				least = min(least, dimension)
			}
			if size <= 4 {
				returnsVector(t, firstPolynomial(s, x))(impl.MinimalPolynomial(s, x))
			} else {
				checkMinimal(t, s, x)
			}
		})
		basis := must[[][]int64](t)(impl.CentreBasis(s))
		returns(t, centre)(int64(powerOf(s.P, len(basis))), impl.ErrNone)
		if !regularOf(s) {
			continue
		}
		returns(t, least)(impl.MinimalIdealSize(s))
		// Each part has one idempotent other than 0 in its centre, or none of it.
		b, r, d, _ := impl.StructureOf(s)
		if b*r*r*d != int64(size) || b*d != int64(len(basis)) || int64(powerOf(2, int(b))) != idempotents || least != r*d {
			t.Errorf("%v has %d central idempotents and the structure %d, %d, %d", s, idempotents, b, r, d)
		}
	}
}

// TestAllIdeals compares with the lists of all products.
func TestAllIdeals(t *testing.T) {
	t.Parallel()
	for _, s := range append(fewAlgebras()[:39], space(3, 1, 1), space(3, 1, 2), space(3, 2, 0), space(3, 0, 0)) {
		size := bladesOf(s)
		allVectors(s.P, size, func(x []int64) {
			products, annihilated := map[string]bool{}, map[string]bool{}
			inverse := false
			allVectors(s.P, size, func(y []int64) {
				z := geometric(s, y, x)
				products[key(z)] = true
				if isZero(z) {
					annihilated[key(y)] = true
				}
				inverse = inverse || slices.Equal(z, blade(s, 0, 1)) && slices.Equal(geometric(s, x, y), z)
			})
			returnsBool(t, inverse)(impl.HasInverse(s, x))
			ideal := spanOf(s.P, must[[][]int64](t)(impl.LeftIdealOf(s, x)), size)
			annihilator := spanOf(s.P, must[[][]int64](t)(impl.LeftAnnihilatorOf(s, x)), size)
			if !sameKeys(ideal, products) || !sameKeys(annihilator, annihilated) {
				t.Errorf("%v in %v has a left ideal with %d and a left annihilator with %d multivectors", x, s, len(ideal), len(annihilator))
			}
		})
	}
}

func sameKeys(a map[string]bool, b map[string]bool) bool {
	for k := range a {
		if !b[k] {
			return false
		}
	}
	return len(a) == len(b)
}

// wholeSquare is the square of the pseudoscalar.
func wholeSquare(s impl.Space) int64 {
	whole := blade(s, bladesOf(s)-1, 1)
	return geometric(s, whole, whole)[0]
}

// algebraOf writes the rule out for each number of squares.
func algebraOf(s impl.Space) algebra {
	_, square := rootOf(s.P, wholeSquare(s))
	switch n := len(s.Squares); {
	case n == 2:
		return algebra{1, 2, 1}
	case n == 4:
		return algebra{1, 4, 1}
	case square:
		return algebra{2, int64(n+1) / 2, 1}
	default:
		return algebra{1, int64(n+1) / 2, 2}
	}
}

func TestStructures(t *testing.T) {
	t.Parallel()
	met := map[int64]map[algebra]int{}
	check := func(s impl.Space) {
		want := algebraOf(s)
		returnsStructure(t, want)(impl.StructureOf(s))
		returns(t, want.least())(impl.MinimalIdealSize(s))
		centre := must[[][]int64](t)(impl.CentreBasis(s))
		size := want.parts * want.rows * want.rows * want.degree
		if int64(len(centre)) != want.parts*want.degree || size != int64(bladesOf(s)) {
			t.Errorf("%v has the centre %v and the structure %v", s, centre, want)
		}
		if met[s.P] == nil {
			met[s.P] = map[algebra]int{}
		}
		met[s.P][want]++
	}
	regularAlgebras(func(s impl.Space, r *source) { check(s) })
	for _, p := range []int64{5, 7} {
		allVectors(p, 3, func(squares []int64) {
			if s := space(p, squares...); regularOf(s) {
				check(s)
			}
		})
	}
	for _, p := range primes {
		for _, want := range []algebra{{2, 1, 1}, {1, 1, 2}, {1, 2, 1}, {2, 2, 1}, {1, 2, 2}, {1, 4, 1}} {
			if met[p][want] == 0 {
				t.Errorf("no spaces of %d have the structure %v", p, want)
			}
		}
	}
	// The square of e0 e1 e2 is the opposite of the product of the squares, and -1 is a square for 5 and 13.
	for _, p := range primes {
		want := algebra{1, 2, 2}
		if p%4 == 1 {
			want = algebra{2, 2, 1}
		}
		returnsStructure(t, want)(impl.StructureOf(space(p, 1, 1, 1)))
		returnsStructure(t, algebra{2, 2, 1})(impl.StructureOf(space(p, 1, p-1, 1)))
		returnsStructure(t, algebra{2, 1, 1})(impl.StructureOf(space(p, 1)))
		returnsStructure(t, algebra{1, 1, 2})(impl.StructureOf(space(p, nonSquare(p))))
		returns(t, 4)(impl.MinimalIdealSize(space(p, 1, 1, 1, 1)))
	}
}

// TestCentralIdempotents counts them: the centre has one field for each part.
func TestCentralIdempotents(t *testing.T) {
	t.Parallel()
	regularAlgebras(func(s impl.Space, r *source) {
		centre, count := must[[][]int64](t)(impl.CentreBasis(s)), 0
		if len(centre) > 2 {
			t.Fatalf("%v has the centre %v", s, centre)
		}
		allVectors(s.P, len(centre), func(factors []int64) {
			x := make([]int64, bladesOf(s))
			for i, y := range centre {
				x = plus(s.P, x, factors[i], y)
			}
			if must[bool](t)(impl.IsIdempotent(s, x)) {
				count++
			}
		})
		if parts, _, _, _ := impl.StructureOf(s); count != powerOf(2, int(parts)) {
			t.Errorf("%v has %d parts and %d central idempotents", s, parts, count)
		}
	})
}

// descend replaces x by products y x as long as their left ideals are less, but not 0, until the left
// ideal has the least number of vectors, and calls do with each of them.
func descend(t *testing.T, s impl.Space, r *source, x []int64, least int64, do func(dimension int64)) {
	t.Helper()
	dimension := int64(bladesOf(s))
	for try := 0; dimension > least; try++ {
		if try == 10000 {
			t.Fatalf("no left ideal in %v with fewer vectors than %d", s, dimension)
		}
		y := geometric(s, r.vector(s.P, bladesOf(s)), x)
		less := must[int64](t)(impl.RankOf(s.P, productsOf(s, y, false)))
		if less > 0 && less < dimension {
			x, dimension = y, checkIdeals(t, s, y)
			do(dimension)
		}
	}
}

// TestSizesOfIdeals finds multivectors whose left ideals have the least size, and all multiples of it.
func TestSizesOfIdeals(t *testing.T) {
	t.Parallel()
	met := map[algebra]map[int64]int{}
	regularAlgebras(func(s impl.Space, r *source) {
		kind := algebraOf(s)
		least := must[int64](t)(impl.MinimalIdealSize(s))
		if met[kind] == nil {
			met[kind] = map[int64]int{}
		}
		check := func(dimension int64) {
			met[kind][dimension/least]++
			if dimension%least != 0 {
				t.Errorf("a left ideal in %v has %d vectors", s, dimension)
			}
		}
		for _, x := range elementsOf(s, r) {
			check(checkIdeals(t, s, x))
		}
		if s.P <= 5 || r.below(5) == 0 {
			descend(t, s, r, blade(s, 0, 1), least, check)
		}
	})
	if len(met) != 6 {
		t.Errorf("the structures are %v", met)
	}
	for kind, counts := range met {
		for multiple := range kind.parts*kind.rows + 1 {
			if counts[multiple] == 0 {
				t.Errorf("no left ideal has %d times %d vectors, with the structure %v", multiple, kind.least(), kind)
			}
		}
	}
}

// checkIdempotent tests what VectorIdempotent makes of the vector v, or that it makes nothing.
func checkIdempotent(t *testing.T, s impl.Space, v []int64) bool {
	t.Helper()
	x, norm := vectorPart(s, v), pairing(s, v, v)
	root, square := rootOf(s.P, norm)
	if norm == 0 || !square {
		refuses(t, "VectorIdempotent", ofVector(impl.VectorIdempotent(s, x)), impl.ErrState)
		return false
	}
	// Twice the root times the idempotent is the root and v, added.
	e := must[[]int64](t)(impl.VectorIdempotent(s, x))
	returnsVector(t, plus(s.P, x, root, blade(s, 0, 1)))(multipleOf(s.P, 2*root, e), impl.ErrNone)
	if !slices.Equal(geometric(s, e, e), e) || slices.Min(e) < 0 || slices.Max(e) >= s.P {
		t.Errorf("%v in %v is not idempotent", e, s)
	}
	returnsBool(t, true)(impl.IsIdempotent(s, e))
	returnsVector(t, []int64{0, s.P - 1, 1})(impl.MinimalPolynomial(s, e))
	returns(t, int64(bladesOf(s)/2))(checkIdeals(t, s, e), impl.ErrNone)
	other := plus(s.P, blade(s, 0, 1), -1, e)
	returnsMatrix(t, must[[][]int64](t)(impl.LeftIdealOf(s, other)))(impl.LeftAnnihilatorOf(s, e))
	return true
}

func TestIdempotentsOfVectors(t *testing.T) {
	t.Parallel()
	met := [5]int{}
	allAlgebras(func(s impl.Space, r *source) {
		n := len(s.Squares)
		for _, v := range append(unit(n), r.vector(s.P, n), r.vector(s.P, n), r.vector(s.P, n), make([]int64, n)) {
			if checkIdempotent(t, s, v) {
				met[n]++
			}
		}
	})
	for _, s := range []impl.Space{space(3, 1), space(7, 2), space(13, 4), space(5, 2, 1), space(11, 1, 3), space(13, 1, 0), space(3, 1, 1, 2), space(3, 1, 0, 2, 1)} {
		allVectors(s.P, len(s.Squares), func(v []int64) { checkIdempotent(t, s, slices.Clone(v)) })
	}
	if slices.Min(met[1:]) < 10 {
		t.Errorf("%v vectors have idempotents", met)
	}
	// The least root of 4 is 2, and not 5 or 11.
	returnsVector(t, []int64{4, 2})(impl.VectorIdempotent(space(7, 4), []int64{0, 1}))
	returnsVector(t, []int64{7, 10})(impl.VectorIdempotent(space(13, 4), []int64{0, 1}))
}

// TestNoIdempotentsOfVectors has what is not of grade 1, beside a vector whose norm is a square, and alone.
func TestNoIdempotentsOfVectors(t *testing.T) {
	t.Parallel()
	allAlgebras(func(s impl.Space, r *source) {
		fits := func(v []int64) bool { return pairing(s, v, v) == 1 }
		v := firstVector(s, fits)
		if v == nil {
			return
		}
		if !checkIdempotent(t, s, v) {
			t.Errorf("%v in %v has no idempotent", v, s)
		}
		x := vectorPart(s, v)
		for mask := range bladesOf(s) {
			if len(indicesOf(mask)) == 1 {
				continue
			}
			for _, other := range [][]int64{blade(s, mask, 1), plus(s.P, x, 1, blade(s, mask, 1)), plus(s.P, x, -1, blade(s, mask, 1))} {
				refuses(t, "VectorIdempotent", ofVector(impl.VectorIdempotent(s, other)), impl.ErrState)
			}
		}
		refuses(t, "VectorIdempotent of 0", ofVector(impl.VectorIdempotent(s, make([]int64, bladesOf(s)))), impl.ErrState)
	})
}

func TestEvenBasis(t *testing.T) {
	t.Parallel()
	allAlgebras(func(s impl.Space, r *source) {
		want := []int64{0, 3, 5, 6, 9, 10, 12, 15}[:bladesOf(s)/2]
		returnsVector(t, want)(impl.EvenBasis(s))
	})
}

// TestAlgebrasThatAreNotRegular have no structure, but everything else.
func TestAlgebrasThatAreNotRegular(t *testing.T) {
	t.Parallel()
	allAlgebras(func(s impl.Space, r *source) {
		if regularOf(s) {
			return
		}
		refuses(t, "StructureOf", ofStructure(impl.StructureOf(s)), impl.ErrState)
		refuses(t, "MinimalIdealSize", ofNumber(impl.MinimalIdealSize(s)), impl.ErrState)
		for _, x := range [][]int64{blade(s, 0, 1), r.vector(s.P, bladesOf(s))} {
			for call, got := range callsOfElements(s, x) {
				if got.code != impl.ErrNone && call != "VectorIdempotent" {
					t.Errorf("%s of %v and %v: code %d", call, s, x, got.code)
				}
			}
		}
	})
}

// TestBehindMaxStructure has five and six squares, also 0, and multivectors without idempotents.
func TestBehindMaxStructure(t *testing.T) {
	t.Parallel()
	check := func(s impl.Space, r *source) {
		if len(s.Squares) <= 4 {
			return
		}
		for call, got := range callsOfAlgebras(s) {
			refuses(t, call, got, impl.ErrLimit)
		}
		v := vectorPart(s, unit(len(s.Squares))[0])
		for _, x := range [][]int64{make([]int64, bladesOf(s)), blade(s, 0, 1), blade(s, 3, 1), v, r.vector(s.P, bladesOf(s))} {
			for call, got := range callsOfElements(s, x) {
				refuses(t, call, got, impl.ErrLimit)
			}
		}
	}
	allSpaces(check)
	var r source
	for _, p := range primes {
		for _, square := range []int64{0, 1} {
			check(space(p, square, 1, 1, 1, 1), &r)
			check(space(p, 1, 1, 1, 1, square), &r)
		}
	}
}

func TestElementsThatAreNoMultivectors(t *testing.T) {
	t.Parallel()
	for _, p := range primes {
		for n := 1; n <= 6; n++ {
			for _, square := range []int64{0, 1} {
				s := space(p, slices.Repeat([]int64{square}, n)...)
				for _, bad := range notMultivectors(s) {
					for call, got := range callsOfElements(s, bad) {
						refuses(t, call, got, impl.ErrRange)
					}
				}
			}
		}
	}
}

// TestAlgebrasOfNoSpaces gives other arguments that are right, and some that are wrong, too.
func TestAlgebrasOfNoSpaces(t *testing.T) {
	t.Parallel()
	for _, s := range notSpaces() {
		for call, got := range callsOfAlgebras(s) {
			refuses(t, call, got, impl.ErrInvalid)
		}
		for _, length := range []int{0, 4, 1 << min(len(s.Squares), 7)} {
			for call, got := range callsOfElements(s, slices.Repeat([]int64{1}, length)) {
				refuses(t, call, got, impl.ErrInvalid)
			}
		}
	}
}

// rowsOfAlgebras are the results of the calls that return lists.
func rowsOfAlgebras(t *testing.T, s impl.Space, elements [][]int64, v []int64) map[string][][]int64 {
	t.Helper()
	rows := map[string][][]int64{
		"CentreBasis": must[[][]int64](t)(impl.CentreBasis(s)),
		"EvenBasis":   {must[[]int64](t)(impl.EvenBasis(s))},
	}
	if v != nil {
		rows["VectorIdempotent"] = [][]int64{must[[]int64](t)(impl.VectorIdempotent(s, v))}
	}
	for i, kind := range []string{" any", " 0", " 1", " no inverse"} {
		x := elements[i]
		rows["LeftMatrix"+kind] = must[[][]int64](t)(impl.LeftMatrix(s, x))
		rows["RightMatrix"+kind] = must[[][]int64](t)(impl.RightMatrix(s, x))
		rows["MinimalPolynomial"+kind] = [][]int64{must[[]int64](t)(impl.MinimalPolynomial(s, x))}
		rows["LeftIdealOf"+kind] = must[[][]int64](t)(impl.LeftIdealOf(s, x))
		rows["LeftAnnihilatorOf"+kind] = must[[][]int64](t)(impl.LeftAnnihilatorOf(s, x))
	}
	return rows
}

// TestAlgebrasAreNewMemory overwrites all results, and then calls everything again.
func TestAlgebrasAreNewMemory(t *testing.T) {
	t.Parallel()
	allAlgebras(func(kept impl.Space, r *source) {
		var g guard
		s := impl.Space{P: kept.P, Squares: g.keep([][]int64{kept.Squares})[0]}
		list := elementsOf(s, r)
		elements := g.keep([][]int64{list[0], make([]int64, bladesOf(s)), blade(s, 0, 1), list[len(list)-1]})
		v := firstVector(s, func(v []int64) bool { return pairing(s, v, v) == 1 })
		if v != nil {
			v = g.keep([][]int64{vectorPart(s, v)})[0]
		}
		before := map[string][][]int64{}
		for call, rows := range rowsOfAlgebras(t, s, elements, v) {
			g.check(t, call)
			before[call] = cloneRows(rows)
			overwrite(t, call, rows)
			g.check(t, "overwriting the result of "+call)
		}
		for call, rows := range rowsOfAlgebras(t, s, elements, v) {
			if !equalRows(rows, before[call]) {
				t.Errorf("%s of %v returns something else the second time", call, s)
			}
		}
		callsOfAlgebras(s)
		for _, x := range elements {
			callsOfElements(s, x)
		}
		g.check(t, "a call that returns no lists")
	})
}
