package tests

import (
	"math/bits"
	"slices"
	"testing"

	"loop.example/g01124/impl"
)

// knownBlade is a multivector that is made of a reduced basis and a factor.
type knownBlade struct {
	basis  [][]int64
	factor int64
	wedge  []int64
	x      []int64
}

func bladeFrom(s impl.Space, basis [][]int64, factor int64) knownBlade {
	wedge := wedgeOf(s, basis)
	return knownBlade{basis, factor, wedge, multipleOf(s.P, factor, wedge)}
}

func (r *source) blade(s impl.Space, k int) knownBlade {
	return bladeFrom(s, r.reducedBasis(s.P, k, len(s.Squares)), 1+r.below(s.P-1))
}

// spanning returns vectors of which the sums of multiples are those of a basis, in any order.
func (r *source) spanning(p int64, basis [][]int64, n int, count int) [][]int64 {
	if len(basis) == 0 {
		return zeros(count, n)
	}
	rows := slices.Concat(r.regular(p, len(basis)), r.matrix(p, count-len(basis), len(basis)))
	for i := range rows {
		j := r.below(int64(i) + 1)
		rows[i], rows[j] = rows[j], rows[i]
	}
	return product(p, rows, basis)
}

func multipleOf(p int64, factor int64, x []int64) []int64 {
	return plus(p, make([]int64, len(x)), factor, x)
}

// satisfiesRelations tests the relations of Grassmann and Plücker between the coefficients of the
// blades of grade k, at least 1, which hold exactly for wedge products of k vectors, and for 0.
func satisfiesRelations(p int64, x []int64, k int) bool {
	for a := range x {
		for b := range x {
			if bits.OnesCount(uint(a)) != k-1 || bits.OnesCount(uint(b)) != k+1 {
				continue
			}
			sum := int64(0)
			for place, i := range indicesOf(b) {
				if a>>i&1 == 0 {
					sign := 1 - 2*int64((bits.OnesCount(uint(a>>i))+place)%2)
					sum += sign * x[a|1<<i] * x[b^1<<i]
				}
			}
			if sum%p != 0 {
				return false
			}
		}
	}
	return true
}

func isBladeOf(s impl.Space, x []int64) bool {
	grades := map[int]bool{}
	for mask, a := range x {
		if a != 0 {
			grades[bits.OnesCount(uint(mask))] = true
		}
	}
	for k := range grades {
		return len(grades) == 1 && (k == 0 || satisfiesRelations(s.P, x, k))
	}
	return false
}

// callsOfBlades are the calls of which x has to be a blade.
func callsOfBlades(s impl.Space, x []int64, good []int64, v []int64) map[string]result {
	return map[string]result{
		"SubspaceOf":                 ofMatrix(impl.SubspaceOf(s, x)),
		"FactorOf":                   ofNumber(impl.FactorOf(s, x)),
		"JoinOf first":               ofVector(impl.JoinOf(s, x, good)),
		"JoinOf second":              ofVector(impl.JoinOf(s, good, x)),
		"JoinOf both":                ofVector(impl.JoinOf(s, x, x)),
		"CommonBlade first":          ofVector(impl.CommonBlade(s, x, good)),
		"CommonBlade second":         ofVector(impl.CommonBlade(s, good, x)),
		"CommonBlade both":           ofVector(impl.CommonBlade(s, x, x)),
		"OrthogonalBlade":            ofVector(impl.OrthogonalBlade(s, x)),
		"BladeSquare":                ofNumber(impl.BladeSquare(s, x)),
		"AreOrthogonalBlades first":  ofBool(impl.AreOrthogonalBlades(s, x, good)),
		"AreOrthogonalBlades second": ofBool(impl.AreOrthogonalBlades(s, good, x)),
		"AreOrthogonalBlades both":   ofBool(impl.AreOrthogonalBlades(s, x, x)),
		"BladeContains":              ofBool(impl.BladeContains(s, x, v)),
		"ProjectOnto":                ofVector(impl.ProjectOnto(s, x, v)),
		"RejectFrom":                 ofVector(impl.RejectFrom(s, x, v)),
		"ReflectInBlade":             ofVector(impl.ReflectInBlade(s, x, v)),
	}
}

// callsOfSplits are the calls of which x has to be an invertible blade.
func callsOfSplits(s impl.Space, x []int64, v []int64) map[string]result {
	return map[string]result{
		"ProjectOnto":    ofVector(impl.ProjectOnto(s, x, v)),
		"RejectFrom":     ofVector(impl.RejectFrom(s, x, v)),
		"ReflectInBlade": ofVector(impl.ReflectInBlade(s, x, v)),
	}
}

// checkNoBlade tests that a multivector that is none is refused wherever a blade has to be.
func checkNoBlade(t *testing.T, s impl.Space, x []int64) {
	t.Helper()
	returnsBool(t, false)(impl.IsBlade(s, x))
	for call, got := range callsOfBlades(s, x, blade(s, 0, 1), make([]int64, len(s.Squares))) {
		refuses(t, call, got, impl.ErrState)
	}
}

// checkBlade tests what a blade is known to be, and that it is its factor times the wedge product of the
// reduced basis of its subspace.
func checkBlade(t *testing.T, s impl.Space, known knownBlade) {
	t.Helper()
	returnsBool(t, true)(impl.IsBlade(s, known.x))
	returnsMatrix(t, known.basis)(impl.SubspaceOf(s, known.x))
	returns(t, known.factor)(impl.FactorOf(s, known.x))
	basis := must[[][]int64](t)(impl.SpanBasis(s.P, must[[][]int64](t)(impl.SubspaceOf(s, known.x))))
	wedge := must[[]int64](t)(impl.WedgeOfVectors(s, basis))
	returnsVector(t, known.x)(impl.ScaleMultivector(s, wedge, must[int64](t)(impl.FactorOf(s, known.x))))
	returnsVector(t, wedge)(impl.BladeOfVectors(s, basis))
}

func TestBladesOfThePlane(t *testing.T) {
	t.Parallel()
	plane, zero, one, whole := space(5, 1, 1), make([]int64, 4), []int64{1, 0, 0, 0}, []int64{0, 0, 0, 1}
	for _, x := range [][]int64{one, {3, 0, 0, 0}, {0, 1, 2, 0}, {0, 0, 4, 0}, whole, {0, 0, 0, 2}} {
		returnsBool(t, true)(impl.IsBlade(plane, x))
	}
	for _, x := range [][]int64{zero, {1, 1, 0, 0}, {1, 0, 0, 1}, {0, 1, 0, 1}, {1, 2, 3, 4}} {
		checkNoBlade(t, plane, x)
	}
	returnsVector(t, []int64{0, 1, 2, 0})(impl.BladeOfVectors(plane, [][]int64{{2, 4}}))
	returnsVector(t, []int64{0, 1, 2, 0})(impl.BladeOfVectors(plane, [][]int64{{2, 4}, {0, 0}, {4, 3}}))
	returnsVector(t, whole)(impl.BladeOfVectors(plane, [][]int64{{3, 1}, {1, 1}}))
	returnsVector(t, one)(impl.BladeOfVectors(plane, nil))
	returnsVector(t, one)(impl.BladeOfVectors(plane, [][]int64{{0, 0}}))
	returnsMatrix(t, [][]int64{{1, 2}})(impl.SubspaceOf(plane, []int64{0, 2, 4, 0}))
	returnsMatrix(t, [][]int64{{0, 1}})(impl.SubspaceOf(plane, []int64{0, 0, 4, 0}))
	returnsMatrix(t, [][]int64{{1, 0}, {0, 1}})(impl.SubspaceOf(plane, []int64{0, 0, 0, 3}))
	returnsMatrix(t, nil)(impl.SubspaceOf(plane, []int64{3, 0, 0, 0}))
	returns(t, 2)(impl.FactorOf(plane, []int64{0, 2, 4, 0}))
	returns(t, 4)(impl.FactorOf(plane, []int64{0, 0, 4, 0}))
	returns(t, 3)(impl.FactorOf(plane, []int64{3, 0, 0, 0}))
	returns(t, 3)(impl.FactorOf(plane, []int64{0, 0, 0, 3}))
	returnsBool(t, true)(impl.BladeContains(plane, []int64{0, 2, 4, 0}, []int64{3, 1}))
	returnsBool(t, false)(impl.BladeContains(plane, []int64{0, 2, 4, 0}, []int64{3, 2}))
	returnsBool(t, true)(impl.BladeContains(plane, one, []int64{0, 0}))
	returnsBool(t, false)(impl.BladeContains(plane, one, []int64{0, 1}))
	returnsVector(t, whole)(impl.JoinOf(plane, []int64{0, 3, 0, 0}, []int64{0, 2, 2, 0}))
	returnsVector(t, one)(impl.CommonBlade(plane, []int64{0, 3, 0, 0}, []int64{0, 2, 2, 0}))
	returnsVector(t, []int64{0, 1, 1, 0})(impl.CommonBlade(plane, whole, []int64{0, 2, 2, 0}))
	returnsVector(t, []int64{0, 1, 4, 0})(impl.OrthogonalBlade(plane, []int64{0, 2, 2, 0}))
	// This vector is orthogonal to itself.
	returnsVector(t, []int64{0, 1, 2, 0})(impl.OrthogonalBlade(plane, []int64{0, 3, 1, 0}))
	returns(t, 0)(impl.BladeSquare(plane, []int64{0, 3, 1, 0}))
	returns(t, 2)(impl.BladeSquare(plane, []int64{0, 1, 1, 0}))
	returns(t, 4)(impl.BladeSquare(plane, whole))
	returns(t, 4)(impl.BladeSquare(plane, []int64{3, 0, 0, 0}))
	returnsVector(t, []int64{3, 0})(impl.ProjectOnto(plane, []int64{0, 1, 0, 0}, []int64{3, 4}))
	returnsVector(t, []int64{0, 4})(impl.RejectFrom(plane, []int64{0, 1, 0, 0}, []int64{3, 4}))
	returnsVector(t, []int64{3, 1})(impl.ReflectInBlade(plane, []int64{0, 1, 0, 0}, []int64{3, 4}))
	returnsVector(t, []int64{1, 1})(impl.ProjectOnto(plane, []int64{0, 3, 3, 0}, []int64{3, 4}))
	for call, got := range callsOfSplits(plane, []int64{0, 3, 1, 0}, []int64{3, 4}) {
		refuses(t, call, got, impl.ErrState)
	}
	returnsBool(t, true)(impl.AreOrthogonalBlades(plane, []int64{0, 1, 0, 0}, []int64{0, 0, 3, 0}))
	returnsBool(t, true)(impl.AreOrthogonalBlades(plane, []int64{0, 3, 1, 0}, []int64{0, 1, 2, 0}))
	returnsBool(t, false)(impl.AreOrthogonalBlades(plane, []int64{0, 1, 0, 0}, []int64{0, 1, 3, 0}))
	returnsBool(t, false)(impl.AreOrthogonalBlades(plane, whole, []int64{0, 1, 3, 0}))
	returnsBool(t, true)(impl.AreOrthogonalBlades(plane, whole, one))
}

// TestBladesThatAreKnown has three and four squares, and squares that are 0.
func TestBladesThatAreKnown(t *testing.T) {
	t.Parallel()
	solid := space(7, 1, 2, 0)
	// Twice the wedge product of e0 + 3 e2 and e1 + 5 e2.
	plane := []int64{0, 0, 0, 2, 0, 3, 1, 0}
	checkBlade(t, solid, knownBlade{basis: [][]int64{{1, 0, 3}, {0, 1, 5}}, factor: 2, x: plane})
	returnsVector(t, []int64{0, 0, 0, 1, 0, 5, 4, 0})(impl.BladeOfVectors(solid, [][]int64{{1, 1, 1}, {2, 3, 0}}))
	returns(t, 6)(impl.BladeSquare(solid, plane))
	returnsVector(t, []int64{0, 0, 0, 0, 1, 0, 0, 0})(impl.OrthogonalBlade(solid, plane))
	returnsVector(t, []int64{2, 4, 5})(impl.ProjectOnto(solid, plane, []int64{2, 4, 1}))
	returnsVector(t, []int64{0, 0, 3})(impl.RejectFrom(solid, plane, []int64{2, 4, 1}))
	returnsVector(t, []int64{2, 4, 2})(impl.ReflectInBlade(solid, plane, []int64{2, 4, 1}))
	returnsVector(t, blade(solid, 4, 1))(impl.CommonBlade(solid, blade(solid, 5, 3), blade(solid, 6, 2)))
	returnsVector(t, blade(solid, 7, 1))(impl.JoinOf(solid, blade(solid, 5, 3), blade(solid, 6, 2)))
	returns(t, 0)(impl.BladeSquare(solid, blade(solid, 5, 3)))
	returnsVector(t, blade(solid, 6, 1))(impl.OrthogonalBlade(solid, blade(solid, 5, 3)))
	for call, got := range callsOfSplits(solid, blade(solid, 5, 3), []int64{1, 0, 0}) {
		refuses(t, call, got, impl.ErrState)
	}
	// With one square the numbers and the vectors other than 0 are blades; nothing else is.
	line := space(5, 0)
	checkBlade(t, line, knownBlade{basis: [][]int64{{1}}, factor: 3, x: []int64{0, 3}})
	checkBlade(t, line, knownBlade{factor: 3, x: []int64{3, 0}})
	checkNoBlade(t, line, []int64{3, 3})
	checkNoBlade(t, line, []int64{0, 0})
	returnsVector(t, []int64{0, 1})(impl.OrthogonalBlade(line, []int64{0, 3}))
	// Whatever the squares are, the sum of two planes with nothing in common is no blade.
	four := space(3, 1, 1, 1, 1)
	checkNoBlade(t, four, plus(3, blade(four, 3, 1), 1, blade(four, 12, 1)))
	checkNoBlade(t, space(3, 0, 0, 0, 0), plus(3, blade(four, 3, 1), 1, blade(four, 12, 1)))
	checkBlade(t, four, bladeFrom(four, [][]int64{{1, 0, 2, 1}, {0, 1, 1, 1}}, 2))
	six := space(3, 1, 1, 1, 1, 1, 1)
	checkNoBlade(t, six, plus(3, blade(six, 7, 1), 1, blade(six, 56, 1)))
	checkNoBlade(t, six, plus(3, blade(six, 51, 1), 1, blade(six, 60, 1)))
}

// TestBladesOfBases has subspaces of all dimensions, and of each multiples of the wedge product.
func TestBladesOfBases(t *testing.T) {
	t.Parallel()
	allSpaces(func(s impl.Space, r *source) {
		n := len(s.Squares)
		for k := range n + 1 {
			known := r.blade(s, k)
			checkBlade(t, s, known)
			v := r.vector(s.P, n)
			contained := isZero(kindsOfProducts[0].of(s, vectorPart(s, v), known.x))
			returnsBool(t, contained)(impl.BladeContains(s, known.x, v))
			if k > 0 {
				member := product(s.P, r.matrix(s.P, 1, k), known.basis)[0]
				returnsBool(t, true)(impl.BladeContains(s, known.x, member))
				returnsBool(t, contained)(impl.InSpan(s.P, known.basis, v))
			}
			returnsBool(t, true)(impl.BladeContains(s, known.x, make([]int64, n)))
		}
		for factor := int64(1); factor < s.P; factor++ {
			checkBlade(t, s, bladeFrom(s, nil, factor))
			checkBlade(t, s, bladeFrom(s, unit(n), factor))
			returnsBool(t, false)(impl.BladeContains(s, blade(s, 0, factor), unit(n)[n-1]))
		}
		checkNoBlade(t, s, make([]int64, bladesOf(s)))
	})
}

// TestBladesOfMasks has all blades of basis vectors.
func TestBladesOfMasks(t *testing.T) {
	t.Parallel()
	fewSpaces(func(s impl.Space, r *source) {
		n := len(s.Squares)
		for mask := range bladesOf(s) {
			factor, basis := 1+r.below(s.P-1), [][]int64{}
			for _, i := range indicesOf(mask) {
				basis = append(basis, unit(n)[i])
			}
			checkBlade(t, s, knownBlade{basis: basis, factor: factor, x: blade(s, mask, factor)})
			for i, e := range unit(n) {
				returnsBool(t, mask>>i&1 == 1)(impl.BladeContains(s, blade(s, mask, factor), e))
			}
			other := int(r.below(int64(bladesOf(s))))
			x, y := blade(s, mask, factor), blade(s, other, 1+r.below(s.P-1))
			returnsVector(t, blade(s, mask|other, 1))(impl.JoinOf(s, x, y))
			returnsVector(t, blade(s, mask&other, 1))(impl.CommonBlade(s, x, y))
		}
	})
}

// allBladesOf has all multivectors that are wedge products of at most n vectors times numbers other
// than 0, with the vectors that each one is a wedge product of.
func allBladesOf(s impl.Space) map[string][][]int64 {
	all, n := map[string][][]int64{}, len(s.Squares)
	for factor := int64(1); factor < s.P; factor++ {
		all[key(blade(s, 0, factor))] = nil
	}
	for k := 1; k <= n; k++ {
		allMatrices(s.P, k, n, func(list [][]int64) {
			if x := wedgeOf(s, list); !isZero(x) {
				all[key(x)] = list
			}
		})
	}
	return all
}

// TestAllSmallBlades has all multivectors of some spaces, and all vectors with each one.
func TestAllSmallBlades(t *testing.T) {
	t.Parallel()
	for _, s := range []impl.Space{space(3, 0), space(3, 1), space(7, 3), space(13, 0), space(3, 1, 0), space(3, 2, 1), space(5, 1, 1), space(7, 2, 0), space(3, 1, 0, 2)} {
		all, n := allBladesOf(s), len(s.Squares)
		allVectors(s.P, bladesOf(s), func(x []int64) {
			list, isBlade := all[key(x)]
			if isBladeOf(s, x) != isBlade {
				t.Errorf("the relations of the test say that %v of %v is a blade: %v", x, s, !isBlade)
			}
			if !isBlade {
				checkNoBlade(t, s, x)
				return
			}
			basis := must[[][]int64](t)(impl.SubspaceOf(s, x))
			if !isReduced(s.P, basis) || len(basis) != len(list) {
				t.Errorf("SubspaceOf(%v, %v) = %v", s, x, basis)
			}
			checkBlade(t, s, bladeFrom(s, basis, must[int64](t)(impl.FactorOf(s, x))))
			returnsVector(t, wedgeOf(s, basis))(impl.BladeOfVectors(s, list))
			span := spanOf(s.P, list, n)
			allVectors(s.P, n, func(v []int64) {
				returnsBool(t, span[key(v)])(impl.BladeContains(s, x, v))
			})
		})
	}
}

// TestMultivectorsOfOneGrade has all of some grades of some spaces, and others that are blades but for
// one coefficient.
func TestMultivectorsOfOneGrade(t *testing.T) {
	t.Parallel()
	for _, size := range [][3]int{{5, 3, 1}, {5, 3, 2}, {3, 4, 2}, {5, 4, 2}, {3, 4, 3}, {3, 5, 1}, {3, 5, 4}, {3, 6, 5}} {
		p, n, k := int64(size[0]), size[1], size[2]
		s := space(p, slices.Repeat([]int64{p - 1}, n)...)
		var masks []int
		for mask := range bladesOf(s) {
			if bits.OnesCount(uint(mask)) == k {
				masks = append(masks, mask)
			}
		}
		allVectors(p, len(masks), func(coefficients []int64) {
			x := make([]int64, bladesOf(s))
			for i, mask := range masks {
				x[mask] = coefficients[i]
			}
			returnsBool(t, isBladeOf(s, x))(impl.IsBlade(s, x))
		})
	}
	allSpaces(func(s impl.Space, r *source) {
		for k := range len(s.Squares) + 1 {
			x, y := r.blade(s, k).x, r.blade(s, k).x
			sum := plus(s.P, x, 1, y)
			returnsBool(t, isBladeOf(s, sum))(impl.IsBlade(s, sum))
			for range 3 {
				mask := r.below(int64(bladesOf(s)))
				x[mask] = (x[mask] + 1 + r.below(s.P-1)) % s.P
				returnsBool(t, isBladeOf(s, x))(impl.IsBlade(s, x))
			}
		}
		for _, x := range someMultivectors(s, r) {
			if isBladeOf(s, x) {
				returnsBool(t, true)(impl.IsBlade(s, x))
			} else {
				checkNoBlade(t, s, x)
			}
		}
	})
}

func TestBladesOfLists(t *testing.T) {
	t.Parallel()
	allSpaces(func(s impl.Space, r *source) {
		n, one, whole := len(s.Squares), blade(s, 0, 1), blade(s, bladesOf(s)-1, 1)
		returnsVector(t, one)(impl.BladeOfVectors(s, nil))
		returnsVector(t, one)(impl.BladeOfVectors(s, [][]int64{}))
		returnsVector(t, one)(impl.BladeOfVectors(s, zeros(1, n)))
		returnsVector(t, one)(impl.BladeOfVectors(s, zeros(16, n)))
		returnsVector(t, whole)(impl.BladeOfVectors(s, unit(n)))
		returnsVector(t, whole)(impl.BladeOfVectors(s, slices.Concat(r.matrix(s.P, 16-n, n), unit(n))))
		returnsVector(t, whole)(impl.BladeOfVectors(s, r.regular(s.P, n)))
		for k := range n + 1 {
			known := r.blade(s, k)
			for _, count := range []int{k, k + 1, n, n + 1 + int(r.below(9)), 16} {
				list := r.spanning(s.P, known.basis, n, count)
				returnsVector(t, known.wedge)(impl.BladeOfVectors(s, list))
				returnsVector(t, known.wedge)(impl.BladeOfVectors(s, slices.Concat(zeros(16-count, n), list)))
			}
			list := r.spanning(s.P, known.basis, n, 17)
			refuses(t, "BladeOfVectors", ofVector(impl.BladeOfVectors(s, list)), impl.ErrRange)
		}
	})
	for _, size := range [][3]int{{3, 1, 1}, {3, 1, 3}, {3, 2, 1}, {3, 2, 2}, {3, 2, 3}, {3, 3, 2}, {5, 1, 2}, {5, 2, 2}, {7, 2, 1}, {13, 1, 2}} {
		p, n := int64(size[0]), size[1]
		s := space(p, slices.Repeat([]int64{p - 1}, n)...)
		allMatrices(p, size[2], n, func(list [][]int64) {
			basis := must[[][]int64](t)(impl.SpanBasis(p, list))
			returnsVector(t, wedgeOf(s, basis))(impl.BladeOfVectors(s, list))
		})
	}
}

// checkDimensions tests that the dimensions of join and common blade are those of x and y, together.
func checkDimensions(t *testing.T, s impl.Space, x []int64, y []int64) {
	t.Helper()
	join, common := must[[]int64](t)(impl.JoinOf(s, x, y)), must[[]int64](t)(impl.CommonBlade(s, x, y))
	dimension := func(x []int64) int { return len(must[[][]int64](t)(impl.SubspaceOf(s, x))) }
	if dimension(join)+dimension(common) != dimension(x)+dimension(y) {
		t.Errorf("join %v and common blade %v of %v and %v in %v", join, common, x, y, s)
	}
	returns(t, 1)(impl.FactorOf(s, join))
	returns(t, 1)(impl.FactorOf(s, common))
	returnsVector(t, join)(impl.JoinOf(s, y, x))
	returnsVector(t, common)(impl.CommonBlade(s, y, x))
}

// TestJoinsAndCommonBlades takes the vectors of both subspaces from one list of independent vectors;
// there is one for any two subspaces.
func TestJoinsAndCommonBlades(t *testing.T) {
	t.Parallel()
	allSpaces(func(s impl.Space, r *source) {
		n := len(s.Squares)
		for range 2 {
			var first, second, both, either [][]int64
			for _, v := range r.regular(s.P, n) {
				switch r.below(4) {
				case 0:
					first, either = append(first, v), append(either, v)
				case 1:
					second, either = append(second, v), append(either, v)
				case 2:
					first, second = append(first, v), append(second, v)
					both, either = append(both, v), append(either, v)
				}
			}
			x := multipleOf(s.P, 1+r.below(s.P-1), wedgeOf(s, first))
			y := multipleOf(s.P, 1+r.below(s.P-1), wedgeOf(s, second))
			returnsVector(t, wedgeOf(s, must[[][]int64](t)(impl.SpanBasis(s.P, either))))(impl.JoinOf(s, x, y))
			returnsVector(t, wedgeOf(s, must[[][]int64](t)(impl.SpanBasis(s.P, both))))(impl.CommonBlade(s, x, y))
			checkDimensions(t, s, x, y)
		}
		one, whole := blade(s, 0, s.P-1), blade(s, bladesOf(s)-1, s.P-1)
		for k := range n + 1 {
			known := r.blade(s, k)
			returnsVector(t, known.wedge)(impl.JoinOf(s, known.x, known.x))
			returnsVector(t, known.wedge)(impl.CommonBlade(s, known.x, known.x))
			returnsVector(t, known.wedge)(impl.JoinOf(s, known.x, one))
			returnsVector(t, blade(s, 0, 1))(impl.CommonBlade(s, known.x, one))
			returnsVector(t, blade(s, bladesOf(s)-1, 1))(impl.JoinOf(s, known.x, whole))
			returnsVector(t, known.wedge)(impl.CommonBlade(s, known.x, whole))
		}
		checkDimensions(t, s, r.blade(s, int(r.below(int64(n)+1))).x, r.blade(s, int(r.below(int64(n)+1))).x)
	})
}

// subspacesOf has each subspace of a space once, as a blade with a factor.
func subspacesOf(s impl.Space, r *source) []knownBlade {
	var list []knownBlade
	n, seen := len(s.Squares), map[string]bool{}
	allMatrices(s.P, n, n, func(rows [][]int64) {
		rows = slices.DeleteFunc(rows, isZero)
		if isReduced(s.P, rows) && !seen[key(wedgeOf(s, rows))] {
			seen[key(wedgeOf(s, rows))] = true
			list = append(list, bladeFrom(s, rows, 1+r.below(s.P-1)))
		}
	})
	return list
}

// TestAllSmallSubspaces compares with all vectors of both subspaces of each pair.
func TestAllSmallSubspaces(t *testing.T) {
	t.Parallel()
	var r source
	for _, s := range []impl.Space{space(3, 1), space(13, 0), space(3, 1, 2), space(5, 1, 1), space(5, 2, 0), space(3, 1, 1, 1), space(3, 2, 0, 1), space(3, 0, 0, 0)} {
		n, list := len(s.Squares), subspacesOf(s, &r)
		for _, a := range list {
			checkBlade(t, s, a)
			for _, b := range list {
				checkPairOfBlades(t, s, a, b)
			}
			orthogonal := must[[]int64](t)(impl.OrthogonalBlade(s, a.x))
			returns(t, 1)(impl.FactorOf(s, orthogonal))
			allVectors(s.P, n, func(v []int64) {
				isOther := func(w []int64) bool { return pairing(s, v, w) != 0 }
				returnsBool(t, !slices.ContainsFunc(a.basis, isOther))(impl.BladeContains(s, orthogonal, v))
			})
		}
	}
}

func checkPairOfBlades(t *testing.T, s impl.Space, a knownBlade, b knownBlade) {
	t.Helper()
	checkDimensions(t, s, a.x, b.x)
	n := len(s.Squares)
	first, second, sums := spanOf(s.P, a.basis, n), spanOf(s.P, b.basis, n), spanOf(s.P, slices.Concat(a.basis, b.basis), n)
	common := must[[][]int64](t)(impl.SubspaceOf(s, must[[]int64](t)(impl.CommonBlade(s, a.x, b.x))))
	join := must[[][]int64](t)(impl.SubspaceOf(s, must[[]int64](t)(impl.JoinOf(s, a.x, b.x))))
	inCommon, inJoin := spanOf(s.P, common, n), spanOf(s.P, join, n)
	orthogonal := true
	allVectors(s.P, n, func(v []int64) {
		k := key(v)
		if inCommon[k] != (first[k] && second[k]) || inJoin[k] != sums[k] {
			t.Errorf("%v, %v: common %v, join %v of %v and %v", s, v, common, join, a.basis, b.basis)
		}
		if !first[k] {
			return
		}
		for _, w := range b.basis {
			orthogonal = orthogonal && pairing(s, v, w) == 0
		}
	})
	returnsBool(t, orthogonal)(impl.AreOrthogonalBlades(s, a.x, b.x))
}

func TestOrthogonalBlades(t *testing.T) {
	t.Parallel()
	allSpaces(func(s impl.Space, r *source) {
		n := len(s.Squares)
		for k := range n + 1 {
			known, other := r.blade(s, k), r.blade(s, int(r.below(int64(n)+1)))
			basis := must[[][]int64](t)(impl.OrthogonalTo(s, known.basis))
			orthogonal := wedgeOf(s, basis)
			returnsVector(t, orthogonal)(impl.OrthogonalBlade(s, known.x))
			returnsBool(t, true)(impl.AreOrthogonalBlades(s, known.x, orthogonal))
			returnsBool(t, true)(impl.AreOrthogonalBlades(s, orthogonal, known.x))
			if regularOf(s) {
				returnsVector(t, []int64{int64(n - k)})(impl.GradesOf(s, orthogonal))
				returnsVector(t, known.wedge)(impl.OrthogonalBlade(s, orthogonal))
			}
			areOrthogonal := true
			for _, v := range known.basis {
				for _, w := range other.basis {
					areOrthogonal = areOrthogonal && pairing(s, v, w) == 0
				}
			}
			returnsBool(t, areOrthogonal)(impl.AreOrthogonalBlades(s, known.x, other.x))
			returnsBool(t, areOrthogonal)(impl.AreOrthogonalBlades(s, other.x, known.x))
			returnsBool(t, true)(impl.AreOrthogonalBlades(s, known.x, blade(s, 0, s.P-1)))
			returnsBool(t, true)(impl.AreOrthogonalBlades(s, blade(s, 0, 1), known.x))
			// A vector is orthogonal to the subspace exactly if the orthogonal blade contains it.
			if v := r.vector(s.P, n); k > 0 && !isZero(v) {
				contained := must[bool](t)(impl.BladeContains(s, orthogonal, v))
				returnsBool(t, contained)(impl.AreOrthogonalBlades(s, known.x, vectorPart(s, v)))
			}
		}
		// To no vectors, all are orthogonal; to all vectors, those of the squares that are 0.
		radical := 0
		for i, square := range s.Squares {
			if square == 0 {
				radical |= 1 << i
			}
		}
		returnsVector(t, blade(s, bladesOf(s)-1, 1))(impl.OrthogonalBlade(s, blade(s, 0, 1+r.below(s.P-1))))
		returnsVector(t, blade(s, radical, 1))(impl.OrthogonalBlade(s, blade(s, bladesOf(s)-1, 1+r.below(s.P-1))))
	})
}

// squareOf uses that the square of a blade is, but for a sign, the determinant of the products of its
// vectors, and that of its factor.
func squareOf(s impl.Space, known knownBlade) int64 {
	k := len(known.basis)
	products := zeros(k, k)
	for i, v := range known.basis {
		for j, w := range known.basis {
			products[i][j] = pairing(s, v, w)
		}
	}
	square := determinantOf(s.P, products) * known.factor % s.P * known.factor % s.P
	if k*(k-1)/2%2 == 1 {
		square = (s.P - square) % s.P
	}
	return square
}

func TestSquaresOfBlades(t *testing.T) {
	t.Parallel()
	allSpaces(func(s impl.Space, r *source) {
		for k := range len(s.Squares) + 1 {
			for range 3 {
				known := r.blade(s, k)
				square := squareOf(s, known)
				returns(t, square)(impl.BladeSquare(s, known.x))
				returnsVector(t, blade(s, 0, square))(impl.GeometricProduct(s, known.x, known.x))
			}
		}
		whole := blade(s, bladesOf(s)-1, s.P-1)
		returns(t, must[int64](t)(impl.PseudoscalarSquare(s)))(impl.BladeSquare(s, whole))
		v := r.vector(s.P, len(s.Squares))
		if isZero(v) {
			refuses(t, "BladeSquare", ofNumber(impl.BladeSquare(s, vectorPart(s, v))), impl.ErrState)
		} else {
			returns(t, pairing(s, v, v))(impl.BladeSquare(s, vectorPart(s, v)))
		}
	})
}

// checkSplit tests that the projection is in the subspace, and the rejection orthogonal to it: as the
// blade is invertible, there is only one such pair of vectors with the sum v.
func checkSplit(t *testing.T, s impl.Space, known knownBlade, v []int64) {
	t.Helper()
	projection := must[[]int64](t)(impl.ProjectOnto(s, known.x, v))
	rejection := must[[]int64](t)(impl.RejectFrom(s, known.x, v))
	returnsVector(t, v)(plus(s.P, projection, 1, rejection), impl.ErrNone)
	returnsVector(t, plus(s.P, projection, -1, rejection))(impl.ReflectInBlade(s, known.x, v))
	returnsBool(t, true)(impl.BladeContains(s, known.x, projection))
	for _, w := range known.basis {
		if pairing(s, rejection, w) != 0 {
			t.Errorf("the rejection %v of %v from %v in %v is not orthogonal to %v", rejection, v, known.x, s, w)
		}
	}
	inverse := multipleOf(s.P, must[int64](t)(impl.DivideNumbers(s.P, 1, squareOf(s, known))), known.x)
	contraction := kindsOfProducts[1].of(s, vectorPart(s, v), known.x)
	returnsVector(t, vectorPart(s, projection))(geometric(s, contraction, inverse), impl.ErrNone)
	returnsVector(t, projection)(impl.ProjectOnto(s, known.x, projection))
	returnsVector(t, make([]int64, len(v)))(impl.ProjectOnto(s, known.x, rejection))
	reflection := must[[]int64](t)(impl.ReflectInBlade(s, known.x, v))
	returnsVector(t, v)(impl.ReflectInBlade(s, known.x, reflection))
	returns(t, pairing(s, v, v))(impl.NormOf(s, reflection))
	// A multiple of the blade has the same subspace.
	returnsVector(t, projection)(impl.ProjectOnto(s, known.wedge, v))
	returnsVector(t, rejection)(impl.RejectFrom(s, known.wedge, v))
	returnsVector(t, reflection)(impl.ReflectInBlade(s, known.wedge, v))
}

func TestProjectionsRejectionsAndReflections(t *testing.T) {
	t.Parallel()
	split, refused := 0, 0
	allSpaces(func(s impl.Space, r *source) {
		n := len(s.Squares)
		for k := range n + 1 {
			for range 2 {
				known, v := r.blade(s, k), r.vector(s.P, n)
				if squareOf(s, known) != 0 {
					checkSplit(t, s, known, v)
					split++
					continue
				}
				refused++
				for _, w := range [][]int64{v, make([]int64, n)} {
					for call, got := range callsOfSplits(s, known.x, w) {
						refuses(t, call, got, impl.ErrState)
					}
				}
			}
		}
		v, zero := r.vector(s.P, n), make([]int64, n)
		number, whole := blade(s, 0, 1+r.below(s.P-1)), blade(s, bladesOf(s)-1, 1+r.below(s.P-1))
		returnsVector(t, zero)(impl.ProjectOnto(s, number, v))
		returnsVector(t, v)(impl.RejectFrom(s, number, v))
		returnsVector(t, multipleOf(s.P, -1, v))(impl.ReflectInBlade(s, number, v))
		if !regularOf(s) {
			for call, got := range callsOfSplits(s, whole, v) {
				refuses(t, call, got, impl.ErrState)
			}
			return
		}
		returnsVector(t, v)(impl.ProjectOnto(s, whole, v))
		returnsVector(t, zero)(impl.RejectFrom(s, whole, v))
		returnsVector(t, v)(impl.ReflectInBlade(s, whole, v))
	})
	if split < 1000 || refused < 1000 {
		t.Errorf("%d blades are invertible, and %d are not", split, refused)
	}
}

// TestIsotropicBlades has blades of vectors whose norms are 0, and other ones with the square 0.
func TestIsotropicBlades(t *testing.T) {
	t.Parallel()
	allSpaces(func(s impl.Space, r *source) {
		v, code := impl.IsotropicVector(s)
		if code != impl.ErrNone {
			return
		}
		x := multipleOf(s.P, 1+r.below(s.P-1), vectorPart(s, v))
		returns(t, 0)(impl.BladeSquare(s, x))
		returnsBool(t, true)(impl.AreOrthogonalBlades(s, x, x))
		returnsBool(t, true)(impl.BladeContains(s, must[[]int64](t)(impl.OrthogonalBlade(s, x)), v))
		for call, got := range callsOfSplits(s, x, v) {
			refuses(t, call, got, impl.ErrState)
		}
		y := must[[]int64](t)(impl.OrthogonalBlade(s, x))
		returns(t, 0)(impl.BladeSquare(s, y))
		for call, got := range callsOfSplits(s, y, v) {
			refuses(t, call, got, impl.ErrState)
		}
	})
}

// TestBladesOfNoSpaces gives other arguments that are right, and some that are wrong, too.
func TestBladesOfNoSpaces(t *testing.T) {
	t.Parallel()
	for _, s := range notSpaces() {
		n := len(s.Squares)
		for _, length := range []int{0, 4, 1 << min(n, 7)} {
			for _, number := range []int64{0, 1} {
				x := slices.Repeat([]int64{number}, length)
				refuses(t, "IsBlade", ofBool(impl.IsBlade(s, x)), impl.ErrInvalid)
				for _, v := range [][]int64{make([]int64, n), {-1}} {
					for call, got := range callsOfBlades(s, x, x, v) {
						refuses(t, call, got, impl.ErrInvalid)
					}
				}
			}
		}
		for _, list := range [][][]int64{nil, unit(n), zeros(1, n), zeros(n, n), zeros(17, 2), {nil}, {{-1, 1}}, {{1, 0}, {1}}} {
			refuses(t, "BladeOfVectors", ofVector(impl.BladeOfVectors(s, list)), impl.ErrInvalid)
		}
	}
}

// TestBladesOfNoMultivectors has, beside what is none, a blade, a multivector that is no blade, and a
// blade that is not invertible in one of both spaces.
func TestBladesOfNoMultivectors(t *testing.T) {
	t.Parallel()
	for _, p := range primes {
		for n := 1; n <= 6; n++ {
			for _, square := range []int64{0, 1} {
				s := space(p, slices.Repeat([]int64{square}, n)...)
				one, zero, whole := blade(s, 0, 1), make([]int64, bladesOf(s)), blade(s, bladesOf(s)-1, 1)
				for _, bad := range notMultivectors(s) {
					refuses(t, "IsBlade", ofBool(impl.IsBlade(s, bad)), impl.ErrRange)
					for _, other := range [][]int64{one, zero, whole} {
						for call, got := range callsOfBlades(s, bad, other, make([]int64, n)) {
							refuses(t, call, got, impl.ErrRange)
						}
					}
				}
				for call, got := range callsOfBlades(s, zero, one, make([]int64, n)) {
					refuses(t, call, got, impl.ErrState)
				}
			}
		}
	}
}

func TestBladesOfNoVectors(t *testing.T) {
	t.Parallel()
	for _, p := range primes {
		for n := 1; n <= 6; n++ {
			for _, square := range []int64{0, 1} {
				s := space(p, slices.Repeat([]int64{square}, n)...)
				one, zero, whole := blade(s, 0, 1), make([]int64, bladesOf(s)), blade(s, bladesOf(s)-1, 1)
				for _, bad := range notVectors(s) {
					for _, x := range [][]int64{one, zero, whole, plus(p, one, 1, whole), blade(s, 0, p), nil} {
						refuses(t, "BladeContains", ofBool(impl.BladeContains(s, x, bad)), impl.ErrRange)
						for call, got := range callsOfSplits(s, x, bad) {
							refuses(t, call, got, impl.ErrRange)
						}
					}
					for length := range 17 {
						for _, place := range []int{0, length / 2, length} {
							list := slices.Insert(zeros(length, n), place, bad)
							refuses(t, "BladeOfVectors", ofVector(impl.BladeOfVectors(s, list)), impl.ErrRange)
						}
					}
				}
				for length := range 40 {
					if list := zeros(length, n); length <= 16 {
						returnsVector(t, one)(impl.BladeOfVectors(s, list))
					} else {
						refuses(t, "BladeOfVectors", ofVector(impl.BladeOfVectors(s, list)), impl.ErrRange)
					}
				}
			}
		}
	}
}

// rowsOfBlades are the results of the calls that return lists; x has to be invertible.
func rowsOfBlades(t *testing.T, s impl.Space, list [][]int64, x []int64, y []int64) map[string][][]int64 {
	t.Helper()
	one, whole, v := blade(s, 0, 1), blade(s, bladesOf(s)-1, 1), list[0]
	vectors := map[string][]int64{
		"BladeOfVectors":           must[[]int64](t)(impl.BladeOfVectors(s, list)),
		"BladeOfVectors of one":    must[[]int64](t)(impl.BladeOfVectors(s, list[:1])),
		"BladeOfVectors of no one": must[[]int64](t)(impl.BladeOfVectors(s, list[:0])),
		"JoinOf":                   must[[]int64](t)(impl.JoinOf(s, x, y)),
		"JoinOf itself":            must[[]int64](t)(impl.JoinOf(s, y, y)),
		"JoinOf 1":                 must[[]int64](t)(impl.JoinOf(s, one, y)),
		"CommonBlade":              must[[]int64](t)(impl.CommonBlade(s, x, y)),
		"CommonBlade itself":       must[[]int64](t)(impl.CommonBlade(s, x, x)),
		"OrthogonalBlade":          must[[]int64](t)(impl.OrthogonalBlade(s, x)),
		"OrthogonalBlade of 1":     must[[]int64](t)(impl.OrthogonalBlade(s, one)),
		"ProjectOnto":              must[[]int64](t)(impl.ProjectOnto(s, x, v)),
		"RejectFrom":               must[[]int64](t)(impl.RejectFrom(s, x, v)),
		"RejectFrom 1":             must[[]int64](t)(impl.RejectFrom(s, one, v)),
		"ReflectInBlade":           must[[]int64](t)(impl.ReflectInBlade(s, x, v)),
	}
	rows := map[string][][]int64{
		"SubspaceOf":                   must[[][]int64](t)(impl.SubspaceOf(s, x)),
		"SubspaceOf the other one":     must[[][]int64](t)(impl.SubspaceOf(s, y)),
		"SubspaceOf the pseudoscalar":  must[[][]int64](t)(impl.SubspaceOf(s, whole)),
		"SubspaceOf a number":          must[[][]int64](t)(impl.SubspaceOf(s, one)),
		"SubspaceOf a blade of a mask": must[[][]int64](t)(impl.SubspaceOf(s, blade(s, bladesOf(s)/2, 1))),
	}
	for call, vector := range vectors {
		rows[call] = [][]int64{vector}
	}
	return rows
}

// invertibleBlade looks for one of half of the dimensions; a number always is one.
func invertibleBlade(s impl.Space, r *source) knownBlade {
	for range 20 {
		if known := r.blade(s, (len(s.Squares)+1)/2); squareOf(s, known) != 0 {
			return known
		}
	}
	return bladeFrom(s, nil, 1)
}

// TestBladesAreNewMemory overwrites all results, and then calls everything again.
func TestBladesAreNewMemory(t *testing.T) {
	t.Parallel()
	fewSpaces(func(kept impl.Space, r *source) {
		var g guard
		n := len(kept.Squares)
		s := impl.Space{P: kept.P, Squares: g.keep([][]int64{kept.Squares})[0]}
		list := g.keep(r.matrix(s.P, n, n))
		rows := g.keep([][]int64{invertibleBlade(s, r).x, r.blade(s, n/2).x, make([]int64, bladesOf(s))})
		x, y, zero := rows[0], rows[1], rows[2]
		before := map[string][][]int64{}
		for call, rows := range rowsOfBlades(t, s, list, x, y) {
			g.check(t, call)
			before[call] = cloneRows(rows)
			overwrite(t, call, rows)
			g.check(t, "overwriting the result of "+call)
		}
		for call, rows := range rowsOfBlades(t, s, list, x, y) {
			if !equalRows(rows, before[call]) {
				t.Errorf("%s of %v returns something else the second time", call, s)
			}
		}
		must[bool](t)(impl.IsBlade(s, x))
		must[bool](t)(impl.IsBlade(s, zero))
		must[int64](t)(impl.FactorOf(s, x))
		must[int64](t)(impl.BladeSquare(s, y))
		must[bool](t)(impl.BladeContains(s, x, list[0]))
		must[bool](t)(impl.AreOrthogonalBlades(s, x, y))
		callsOfBlades(s, zero, x, list[0])
		callsOfBlades(s, y, x, list[0])
		g.check(t, "a call that returns no list")
	})
}
