package tests

import (
	"math/bits"
	"slices"
	"testing"

	"loop.example/g01124/impl"
)

// callsOfBivectors are the calls of which x has to be a bivector, with another multivector and a vector.
func callsOfBivectors(s impl.Space, x []int64, y []int64, v []int64) map[string]result {
	return map[string]result{
		"MatrixOfBivector":        ofMatrix(impl.MatrixOfBivector(s, x)),
		"TurnVector":              ofVector(impl.TurnVector(s, x, v)),
		"BivectorBracket":         ofVector(impl.BivectorBracket(s, x, y)),
		"BivectorBracket, second": ofVector(impl.BivectorBracket(s, y, x)),
		"KillingForm":             ofNumber(impl.KillingForm(s, x, y)),
		"KillingForm, second":     ofNumber(impl.KillingForm(s, y, x)),
		"CentralizerOf":           ofMatrix(impl.CentralizerOf(s, x)),
	}
}

// callsOfSkew are the calls of which m has to be skew.
func callsOfSkew(s impl.Space, m [][]int64) map[string]result {
	return map[string]result{
		"BivectorOfMatrix": ofVector(impl.BivectorOfMatrix(s, m)),
		"CayleyOf":         ofMatrix(impl.CayleyOf(s, m)),
	}
}

// callsOfSquareMatrices are all calls with a matrix.
func callsOfSquareMatrices(s impl.Space, m [][]int64) map[string]result {
	calls := callsOfSkew(s, m)
	calls["IsSkewMatrix"] = ofBool(impl.IsSkewMatrix(s, m))
	calls["CayleyBack"] = ofMatrix(impl.CayleyBack(s, m))
	return calls
}

// callsOfTurns are all calls, with one argument of each kind.
func callsOfTurns(s impl.Space, m [][]int64, x []int64, v []int64) map[string]result {
	calls := callsOfSquareMatrices(s, m)
	for call, got := range callsOfBivectors(s, x, x, v) {
		calls[call] = got
	}
	calls["IsBivector"] = ofBool(impl.IsBivector(s, x))
	calls["BivectorOfVectors"] = ofVector(impl.BivectorOfVectors(s, v, v))
	calls["CountBivectors"] = ofNumber(impl.CountBivectors(s))
	return calls
}

// checkNotSkew tests that a matrix is refused wherever a skew one has to be.
func checkNotSkew(t *testing.T, s impl.Space, m [][]int64) {
	t.Helper()
	returnsBool(t, false)(impl.IsSkewMatrix(s, m))
	for call, got := range callsOfSkew(s, m) {
		refuses(t, call, got, impl.ErrState)
	}
}

// pairMasks are the masks of the blades of grade 2, in ascending order.
func pairMasks(s impl.Space) []int {
	var masks []int
	for mask := range bladesOf(s) {
		if bits.OnesCount(uint(mask)) == 2 {
			masks = append(masks, mask)
		}
	}
	return masks
}

// bivectorFrom has the numbers as coefficients of the blades of grade 2.
func bivectorFrom(s impl.Space, numbers []int64) []int64 {
	x := make([]int64, bladesOf(s))
	for i, mask := range pairMasks(s) {
		x[mask] = numbers[i]
	}
	return x
}

func (r *source) bivector(s impl.Space) []int64 {
	return bivectorFrom(s, r.vector(s.P, len(pairMasks(s))))
}

// someBivectors are 0, one with the greatest numbers, others with all blades, a wedge product of two
// vectors, and multiples of each blade.
func someBivectors(s impl.Space, r *source) [][]int64 {
	greatest := bivectorFrom(s, slices.Repeat([]int64{s.P - 1}, len(pairMasks(s))))
	list := [][]int64{make([]int64, bladesOf(s)), greatest, r.bivector(s), r.bivector(s)}
	list = append(list, wedgeOf(s, r.matrix(s.P, 2, len(s.Squares))))
	for _, mask := range pairMasks(s) {
		list = append(list, blade(s, mask, 1+r.below(s.P-1)))
	}
	return list
}

// halfBracket is half of the difference of both products.
func halfBracket(s impl.Space, x []int64, y []int64) []int64 {
	return multipleOf(s.P, reciprocal(s.P, 2), plus(s.P, geometric(s, x, y), -1, geometric(s, y, x)))
}

// numbersOf are the coefficients of the basis vectors.
func numbersOf(s impl.Space, x []int64) []int64 {
	var v []int64
	for i := range s.Squares {
		v = append(v, x[1<<i])
	}
	return v
}

// matrixFrom adds the matrices of blades up: that of e(i) e(k) leads e(k) to e(i) times the square of e(k),
// and e(i) to e(k) times the opposite of that of e(i).
func matrixFrom(s impl.Space, x []int64) [][]int64 {
	m := zeros(len(s.Squares), len(s.Squares))
	for _, mask := range pairMasks(s) {
		i, k := indicesOf(mask)[0], indicesOf(mask)[1]
		m[i][k] = x[mask] * s.Squares[k] % s.P
		m[k][i] = (s.P - x[mask]) * s.Squares[i] % s.P
	}
	return m
}

// isSkew tries all pairs of basis vectors.
func isSkew(s impl.Space, m [][]int64) bool {
	e, columns := unit(len(m)), flip(m)
	for i := range e {
		for k := range e {
			if (pairing(s, columns[i], e[k])+pairing(s, e[i], columns[k]))%s.P != 0 {
				return false
			}
		}
	}
	return true
}

// unitPlus is the unit matrix and a multiple of m, added.
func unitPlus(p int64, factor int64, m [][]int64) [][]int64 {
	sum := unit(len(m))
	for i := range sum {
		sum[i] = plus(p, sum[i], factor, m[i])
	}
	return sum
}

func hasTransform(p int64, m [][]int64) bool { return determinantOf(p, unitPlus(p, 1, m)) != 0 }

// matrixBracket is the product of two matrices less that in the other order.
func matrixBracket(p int64, a [][]int64, b [][]int64) [][]int64 {
	bracket, other := product(p, a, b), product(p, b, a)
	for i := range bracket {
		bracket[i] = plus(p, bracket[i], -1, other[i])
	}
	return bracket
}

func TestBivectorsOfThePlane(t *testing.T) {
	t.Parallel()
	plane, x, m := space(5, 1, 1), []int64{0, 0, 0, 1}, [][]int64{{0, 1}, {4, 0}}
	returnsMatrix(t, m)(impl.MatrixOfBivector(plane, x))
	returnsMatrix(t, [][]int64{{0, 3}, {2, 0}})(impl.MatrixOfBivector(plane, []int64{0, 0, 0, 3}))
	returnsMatrix(t, zeros(2, 2))(impl.MatrixOfBivector(plane, []int64{0, 0, 0, 0}))
	returnsVector(t, x)(impl.BivectorOfMatrix(plane, m))
	returnsVector(t, []int64{0, 0, 0, 0})(impl.BivectorOfMatrix(plane, zeros(2, 2)))
	returnsBool(t, true)(impl.IsSkewMatrix(plane, m))
	for _, other := range [][][]int64{unit(2), {{0, 1}, {1, 0}}, {{1, 1}, {4, 0}}, {{0, 1}, {4, 1}}, {{0, 1}, {0, 0}}, {{0, 0}, {4, 0}}} {
		checkNotSkew(t, plane, other)
	}
	returnsBool(t, true)(impl.IsBivector(plane, x))
	returnsBool(t, true)(impl.IsBivector(plane, []int64{0, 0, 0, 0}))
	for _, other := range [][]int64{{1, 0, 0, 0}, {1, 0, 0, 1}, {0, 1, 0, 1}, {0, 0, 4, 0}} {
		returnsBool(t, false)(impl.IsBivector(plane, other))
	}
	returnsVector(t, []int64{4, 2})(impl.TurnVector(plane, x, []int64{3, 4}))
	returnsVector(t, []int64{0, 0, 0, 0})(impl.BivectorBracket(plane, x, []int64{0, 0, 0, 3}))
	returns(t, 3)(impl.KillingForm(plane, x, x))
	returns(t, 4)(impl.KillingForm(plane, x, []int64{0, 0, 0, 3}))
	returnsMatrix(t, [][]int64{x})(impl.CentralizerOf(plane, []int64{0, 0, 0, 2}))
	returnsMatrix(t, [][]int64{x})(impl.CentralizerOf(plane, []int64{0, 0, 0, 0}))
	returnsMatrix(t, [][]int64{{0, 4}, {1, 0}})(impl.CayleyOf(plane, m))
	returnsMatrix(t, [][]int64{{0, 1}, {4, 0}})(impl.CayleyOf(plane, [][]int64{{0, 4}, {1, 0}}))
	returnsMatrix(t, unit(2))(impl.CayleyOf(plane, zeros(2, 2)))
	returnsMatrix(t, m)(impl.CayleyBack(plane, [][]int64{{0, 4}, {1, 0}}))
	returnsMatrix(t, zeros(2, 2))(impl.CayleyBack(plane, unit(2)))
	refuses(t, "CayleyOf", ofMatrix(impl.CayleyOf(plane, [][]int64{{0, 2}, {3, 0}})), impl.ErrState)
	refuses(t, "CayleyBack", ofMatrix(impl.CayleyBack(plane, diagonal(4, 4))), impl.ErrState)
	refuses(t, "CayleyBack", ofMatrix(impl.CayleyBack(plane, [][]int64{{0, 1}, {1, 0}})), impl.ErrState)
	refuses(t, "CayleyBack", ofMatrix(impl.CayleyBack(plane, diagonal(2, 2))), impl.ErrState)
	returnsVector(t, []int64{0, 0, 0, 3})(impl.BivectorOfVectors(plane, []int64{1, 2}, []int64{3, 4}))
	returnsVector(t, []int64{0, 0, 0, 0})(impl.BivectorOfVectors(plane, []int64{1, 2}, []int64{2, 4}))
	returns(t, 1)(impl.CountBivectors(plane))
}

// TestBivectorsOfOtherSquares has different squares, so that the rows of a skew matrix are not the columns
// of one.
func TestBivectorsOfOtherSquares(t *testing.T) {
	t.Parallel()
	s, x := space(7, 2, 3), []int64{0, 0, 0, 1}
	m := [][]int64{{0, 3}, {5, 0}}
	returnsMatrix(t, m)(impl.MatrixOfBivector(s, x))
	returnsVector(t, x)(impl.BivectorOfMatrix(s, m))
	checkNotSkew(t, s, flip(m))
	checkNotSkew(t, s, [][]int64{{0, 1}, {6, 0}})
	returnsVector(t, []int64{3, 5})(impl.TurnVector(s, x, []int64{1, 1}))
	returns(t, 2)(impl.KillingForm(s, x, x))
	// The determinant of 1 + m is 1 - 3 5, which is 0.
	refuses(t, "CayleyOf", ofMatrix(impl.CayleyOf(s, m)), impl.ErrState)
	// That of 1 + 2 m is 1 - 6 3, which is 4, and its reciprocal is 2.
	returnsMatrix(t, [][]int64{{3, 4}, {2, 3}})(impl.CayleyOf(s, [][]int64{{0, 6}, {3, 0}}))
	s = space(5, 1, 2, 3)
	e01, e02, e12 := blade(s, 3, 1), blade(s, 5, 1), blade(s, 6, 1)
	returnsMatrix(t, [][]int64{{0, 2, 0}, {4, 0, 0}, {0, 0, 0}})(impl.MatrixOfBivector(s, e01))
	returnsMatrix(t, [][]int64{{0, 0, 3}, {0, 0, 0}, {4, 0, 0}})(impl.MatrixOfBivector(s, e02))
	returnsMatrix(t, [][]int64{{0, 0, 0}, {0, 0, 3}, {0, 3, 0}})(impl.MatrixOfBivector(s, e12))
	returnsVector(t, blade(s, 5, 2))(impl.BivectorBracket(s, e01, e12))
	returnsVector(t, blade(s, 5, 3))(impl.BivectorBracket(s, e12, e01))
	returnsVector(t, blade(s, 6, 4))(impl.BivectorBracket(s, e01, e02))
	returnsMatrix(t, [][]int64{e02})(impl.CentralizerOf(s, multipleOf(5, 3, e02)))
	returnsMatrix(t, [][]int64{e01, e02, e12})(impl.CentralizerOf(s, make([]int64, 8)))
}

func checkBivector(t *testing.T, s impl.Space, x []int64, r *source) {
	t.Helper()
	n := len(s.Squares)
	returnsBool(t, true)(impl.IsBivector(s, x))
	m, columns := must[[][]int64](t)(impl.MatrixOfBivector(s, x)), zeros(n, n)
	for i := range columns {
		bracket := halfBracket(s, x, blade(s, 1<<i, 1))
		columns[i] = numbersOf(s, bracket)
		if !slices.Equal(bracket, vectorPart(s, columns[i])) {
			t.Errorf("the bracket of %v and e%d in %v is %v", x, i, s, bracket)
		}
	}
	returnsMatrix(t, flip(columns))(m, impl.ErrNone)
	returnsMatrix(t, matrixFrom(s, x))(m, impl.ErrNone)
	if !isSkew(s, m) {
		t.Errorf("the matrix %v of %v in %v is not skew", m, x, s)
	}
	returnsBool(t, true)(impl.IsSkewMatrix(s, m))
	returnsVector(t, x)(impl.BivectorOfMatrix(s, m))
	i, v := r.below(int64(n)), r.vector(s.P, n)
	returnsVector(t, columns[i])(impl.TurnVector(s, x, unit(n)[i]))
	returnsVector(t, numbersOf(s, halfBracket(s, x, vectorPart(s, v))))(impl.TurnVector(s, x, v))
	for _, v := range [][]int64{v, make([]int64, n), slices.Repeat([]int64{s.P - 1}, n)} {
		returnsVector(t, apply(s.P, m, v))(impl.TurnVector(s, x, v))
	}
}

func TestMatricesOfBivectors(t *testing.T) {
	t.Parallel()
	regularSpaces(func(s impl.Space, r *source) {
		for _, x := range someBivectors(s, r) {
			checkBivector(t, s, x, r)
		}
	})
}

// TestOneSquare has 0 as the only bivector, and two orthogonal matrices.
func TestOneSquare(t *testing.T) {
	t.Parallel()
	for _, p := range primes {
		for square := int64(1); square < p; square++ {
			s, zero := space(p, square), []int64{0, 0}
			allVectors(p, 2, func(x []int64) { returnsBool(t, isZero(x))(impl.IsBivector(s, x)) })
			returnsMatrix(t, [][]int64{{0}})(impl.MatrixOfBivector(s, zero))
			returnsVector(t, zero)(impl.BivectorOfMatrix(s, [][]int64{{0}}))
			returnsVector(t, zero)(impl.BivectorBracket(s, zero, zero))
			returns(t, 0)(impl.KillingForm(s, zero, zero))
			returnsMatrix(t, nil)(impl.CentralizerOf(s, zero))
			returns(t, 0)(impl.CountBivectors(s))
			returnsBool(t, true)(impl.IsSkewMatrix(s, [][]int64{{0}}))
			returnsMatrix(t, [][]int64{{1}})(impl.CayleyOf(s, [][]int64{{0}}))
			returnsMatrix(t, [][]int64{{0}})(impl.CayleyBack(s, [][]int64{{1}}))
			for a := range p {
				returnsVector(t, []int64{0})(impl.TurnVector(s, zero, []int64{a}))
				for b := range p {
					returnsVector(t, zero)(impl.BivectorOfVectors(s, []int64{a}, []int64{b}))
				}
				if a != 0 {
					checkNotSkew(t, s, [][]int64{{a}})
				}
				if a != 1 {
					refuses(t, "CayleyBack", ofMatrix(impl.CayleyBack(s, [][]int64{{a}})), impl.ErrState)
				}
			}
		}
	}
}

func TestIsBivector(t *testing.T) {
	t.Parallel()
	regularSpaces(func(s impl.Space, r *source) {
		bivector, zero, v := r.bivector(s), make([]int64, bladesOf(s)), make([]int64, len(s.Squares))
		for mask := range bladesOf(s) {
			want := slices.Contains(pairMasks(s), mask)
			part := blade(s, mask, 1+r.below(s.P-1))
			for _, x := range [][]int64{part, plus(s.P, bivector, 1, part)} {
				returnsBool(t, want)(impl.IsBivector(s, x))
				if want {
					continue
				}
				for call, got := range callsOfBivectors(s, x, zero, v) {
					refuses(t, call, got, impl.ErrState)
				}
			}
		}
		for _, x := range someMultivectors(s, r) {
			part := must[[]int64](t)(impl.GradePart(s, x, min(2, int64(len(s.Squares)))))
			want := isZero(x) || len(s.Squares) > 1 && slices.Equal(x, part)
			returnsBool(t, want)(impl.IsBivector(s, x))
		}
	})
}

// TestAllMatricesOfSmallSpaces compares with the definition, and counts.
func TestAllMatricesOfSmallSpaces(t *testing.T) {
	t.Parallel()
	list := append(smallGroups()[:12], space(7, 1, 1), space(7, 3, 5), space(7, 1, 6), space(3, 1, 1, 1), space(3, 2, 1, 2))
	for _, s := range list {
		n, skew, met := len(s.Squares), 0, map[string]bool{}
		allMatrices(s.P, n, n, func(m [][]int64) {
			if !isSkew(s, m) {
				returnsBool(t, false)(impl.IsSkewMatrix(s, m))
				return
			}
			skew++
			returnsBool(t, true)(impl.IsSkewMatrix(s, m))
			x := must[[]int64](t)(impl.BivectorOfMatrix(s, m))
			returnsMatrix(t, m)(impl.MatrixOfBivector(s, x))
			returnsBool(t, true)(impl.IsBivector(s, x))
			met[key(x)] = true
		})
		count := must[int64](t)(impl.CountBivectors(s))
		if want := powerOf(s.P, int(count)); skew != want || len(met) != want {
			t.Errorf("%v has %d skew matrices of %d bivectors, and not %d", s, skew, len(met), want)
		}
	}
}

// TestNotSkew changes one number of skew matrices, and has symmetric ones.
func TestNotSkew(t *testing.T) {
	t.Parallel()
	flipped := [2]int{}
	regularSpaces(func(s impl.Space, r *source) {
		n := len(s.Squares)
		x := r.bivector(s)
		skew := matrixFrom(s, x)
		returnsVector(t, x)(impl.BivectorOfMatrix(s, skew))
		for i := range n {
			for k := range n {
				m := cloneRows(skew)
				m[i][k] = (m[i][k] + 1 + r.below(s.P-1)) % s.P
				checkNotSkew(t, s, m)
				if i < k {
					// Both numbers are changed, and the opposite of one would fit.
					m = zeros(n, n)
					m[i][k], m[k][i] = s.Squares[k], s.Squares[i]
					checkNotSkew(t, s, m)
				}
			}
			m := zeros(n, n)
			m[i][i] = s.P - 1
			checkNotSkew(t, s, m)
		}
		for _, m := range [][][]int64{unit(n), unitPlus(s.P, -2, unit(n)), unitPlus(s.P, 1, skew)} {
			checkNotSkew(t, s, m)
		}
		if isSkew(s, flip(skew)) {
			flipped[1]++
			returnsBool(t, true)(impl.IsSkewMatrix(s, flip(skew)))
		} else {
			flipped[0]++
			checkNotSkew(t, s, flip(skew))
		}
	})
	if slices.Min(flipped[:]) < 50 {
		t.Errorf("%v flipped matrices are not skew, and are", flipped)
	}
}

func TestBracketsOfBivectors(t *testing.T) {
	t.Parallel()
	regularSpaces(func(s impl.Space, r *source) {
		list, zero := someBivectors(s, r), make([]int64, bladesOf(s))
		y := r.bivector(s)
		b := must[[][]int64](t)(impl.MatrixOfBivector(s, y))
		for _, x := range list {
			bracket := must[[]int64](t)(impl.BivectorBracket(s, x, y))
			returnsVector(t, halfBracket(s, x, y))(bracket, impl.ErrNone)
			returnsBool(t, true)(impl.IsBivector(s, bracket))
			a := must[[][]int64](t)(impl.MatrixOfBivector(s, x))
			returnsMatrix(t, matrixBracket(s.P, a, b))(impl.MatrixOfBivector(s, bracket))
			returnsVector(t, multipleOf(s.P, -1, bracket))(impl.BivectorBracket(s, y, x))
			returnsVector(t, zero)(impl.BivectorBracket(s, x, x))
			returnsVector(t, zero)(impl.BivectorBracket(s, x, zero))
			returnsVector(t, zero)(impl.BivectorBracket(s, zero, x))
			twice := must[[]int64](t)(impl.BracketOf(s, x, y))
			returnsVector(t, twice)(plus(s.P, bracket, 1, bracket), impl.ErrNone)
		}
	})
}

// bracketsOf returns the bracket of bivectors, which has to be there.
func bracketsOf(t *testing.T, s impl.Space) func(x []int64, y []int64) []int64 {
	return func(x []int64, y []int64) []int64 {
		t.Helper()
		return must[[]int64](t)(impl.BivectorBracket(s, x, y))
	}
}

func TestIdentityOfJacobi(t *testing.T) {
	t.Parallel()
	others := 0
	regularSpaces(func(s impl.Space, r *source) {
		bracket := bracketsOf(t, s)
		for _, x := range someBivectors(s, r) {
			y, z := r.bivector(s), r.bivector(s)
			a, b, c := bracket(x, bracket(y, z)), bracket(y, bracket(z, x)), bracket(z, bracket(x, y))
			if !isZero(plus(s.P, a, 1, plus(s.P, b, 1, c))) {
				t.Errorf("the identity of Jacobi does not hold for %v, %v and %v in %v", x, y, z, s)
			}
			if !isZero(a) && !isZero(b) && !isZero(c) {
				others++
			}
			// The bracket is linear, too.
			sum := bracket(plus(s.P, x, 2, y), z)
			returnsVector(t, plus(s.P, bracket(x, z), 2, bracket(y, z)))(sum, impl.ErrNone)
		}
	})
	if others < 1000 {
		t.Errorf("only %d times no part is 0", others)
	}
}

func TestKillingForms(t *testing.T) {
	t.Parallel()
	regularSpaces(func(s impl.Space, r *source) {
		bracket := bracketsOf(t, s)
		y, z := r.bivector(s), r.bivector(s)
		b := matrixFrom(s, y)
		for _, x := range append(someBivectors(s, r), y) {
			trace := int64(0)
			for i, row := range product(s.P, matrixFrom(s, x), b) {
				trace += row[i]
			}
			form := must[int64](t)(impl.KillingForm(s, x, y))
			returns(t, trace%s.P)(form, impl.ErrNone)
			returns(t, form)(impl.KillingForm(s, y, x))
			// The matrix of e(i) e(k) leads e(i) and e(k) by its square to their opposites, times both squares.
			sum := int64(0)
			for _, mask := range pairMasks(s) {
				pair := indicesOf(mask)
				sum += x[mask] * y[mask] % s.P * s.Squares[pair[0]] % s.P * s.Squares[pair[1]]
			}
			returns(t, (s.P-2)*sum%s.P)(form, impl.ErrNone)
		}
		x := r.bivector(s)
		first := must[int64](t)(impl.KillingForm(s, bracket(x, y), z))
		returns(t, first)(impl.KillingForm(s, x, bracket(y, z)))
		returns(t, 0)(impl.KillingForm(s, x, make([]int64, bladesOf(s))))
	})
}

// checkCentralizer returns the number of bivectors of the basis. It compares with all bivectors if they are
// not many, and otherwise with the rank of the brackets.
func checkCentralizer(t *testing.T, s impl.Space, x []int64) int {
	t.Helper()
	basis, count := must[[][]int64](t)(impl.CentralizerOf(s, x)), len(pairMasks(s))
	if !isReduced(s.P, basis) || !isIn(s.P, basis, x) {
		t.Errorf("the centralizer of %v in %v has the basis %v", x, s, basis)
	}
	for _, y := range basis {
		returnsBool(t, true)(impl.IsBivector(s, y))
		if !isZero(halfBracket(s, x, y)) {
			t.Errorf("the bracket of %v and %v in %v is not 0", x, y, s)
		}
	}
	if count == 0 {
		return len(basis)
	}
	if powerOf(s.P, count) > 1000 {
		var brackets [][]int64
		for _, mask := range pairMasks(s) {
			brackets = append(brackets, halfBracket(s, x, blade(s, mask, 1)))
		}
		returns(t, int64(count-len(basis)))(impl.RankOf(s.P, brackets))
		return len(basis)
	}
	commuting := 0
	allVectors(s.P, count, func(numbers []int64) {
		if isZero(halfBracket(s, x, bivectorFrom(s, numbers))) {
			commuting++
		}
	})
	if commuting != powerOf(s.P, len(basis)) {
		t.Errorf("%d bivectors commute with %v in %v, and the basis is %v", commuting, x, s, basis)
	}
	return len(basis)
}

// hasSquareDiscriminant tells of a space with four squares whether its bivectors are pairs of bivectors of
// spaces with three squares.
func hasSquareDiscriminant(s impl.Space) bool {
	product := int64(1)
	for _, square := range s.Squares {
		product = product * square % s.P
	}
	_, square := rootOf(s.P, product)
	return square
}

// halfBivector is what x leaves of the bivectors that the pseudoscalar multiplies by a root of its square. All
// of these commute with all those that it multiplies by the opposite of the root.
func halfBivector(s impl.Space, x []int64) []int64 {
	whole := blade(s, 15, 1)
	root, _ := rootOf(s.P, geometric(s, whole, whole)[0])
	return plus(s.P, multipleOf(s.P, root, x), 1, geometric(s, whole, x))
}

// TestCentralizers uses that bivectors of three squares have brackets like cross products, and that those
// of four squares are pairs of such ones over the field, or single ones over a field with a root of the
// discriminant.
func TestCentralizers(t *testing.T) {
	t.Parallel()
	met := map[int]int{}
	regularAlgebras(func(s impl.Space, r *source) {
		n := len(s.Squares)
		list := someBivectors(s, r)
		if n == 4 && hasSquareDiscriminant(s) {
			list = append(list, halfBivector(s, list[1]), halfBivector(s, list[2]), halfBivector(s, list[5]))
		}
		for _, x := range list {
			dimension := checkCentralizer(t, s, x)
			met[10*n+dimension]++
			want := []int{n * (n - 1) / 2}
			if !isZero(x) {
				want = [][]int{{0}, {1}, {1}, {2, 4}}[n-1]
			}
			if !slices.Contains(want, dimension) || dimension == 4 && !hasSquareDiscriminant(s) {
				t.Errorf("the centralizer of %v in %v has %d bivectors in its basis", x, s, dimension)
			}
		}
		var blades [][]int64
		for _, mask := range pairMasks(s) {
			blades = append(blades, blade(s, mask, 1))
		}
		returnsMatrix(t, blades)(impl.CentralizerOf(s, make([]int64, bladesOf(s))))
	})
	for _, place := range []int{10, 21, 31, 33, 42, 44, 46} {
		if met[place] < 20 {
			t.Errorf("%d centralizers of %d squares have %d bivectors in their bases", met[place], place/10, place%10)
		}
	}
}

// TestBehindFourSquares has bivectors, which are too many, and others, for which ErrState comes before.
func TestBehindFourSquares(t *testing.T) {
	t.Parallel()
	met := [7]int{}
	allSpaces(func(s impl.Space, r *source) {
		n, code := len(s.Squares), int64(impl.ErrLimit)
		if n <= 4 {
			return
		}
		if !regularOf(s) {
			code = impl.ErrState
		}
		met[n]++
		for _, x := range someBivectors(s, r) {
			refuses(t, "CentralizerOf", ofMatrix(impl.CentralizerOf(s, x)), code)
			other := plus(s.P, x, 1, blade(s, 1<<r.below(int64(n)), 1))
			refuses(t, "CentralizerOf", ofMatrix(impl.CentralizerOf(s, other)), impl.ErrState)
		}
		refuses(t, "CentralizerOf", ofMatrix(impl.CentralizerOf(s, blade(s, 3, s.P))), impl.ErrRange)
		refuses(t, "CentralizerOf", ofMatrix(impl.CentralizerOf(s, make([]int64, 16))), impl.ErrRange)
	})
	if met[5] < 50 || met[6] < 50 {
		t.Errorf("%v spaces have so many squares", met)
	}
}

// checkCayley tests the Cayley transform of a skew matrix, and the way back, and returns whether there is
// one.
func checkCayley(t *testing.T, s impl.Space, m [][]int64) bool {
	t.Helper()
	returnsBool(t, true)(impl.IsSkewMatrix(s, m))
	if !hasTransform(s.P, m) {
		refuses(t, "CayleyOf", ofMatrix(impl.CayleyOf(s, m)), impl.ErrState)
		return false
	}
	g := must[[][]int64](t)(impl.CayleyOf(s, m))
	returnsMatrix(t, unitPlus(s.P, -1, m))(product(s.P, unitPlus(s.P, 1, m), g), impl.ErrNone)
	if !isOrthogonalMatrix(s, g) || !hasTransform(s.P, g) {
		t.Errorf("the Cayley transform of %v in %v is %v", m, s, g)
	}
	returnsBool(t, true)(impl.IsOrthogonal(s, g))
	returnsBool(t, true)(impl.IsProper(s, g))
	if list := must[[][]int64](t)(impl.DecomposeOrthogonal(s, g)); len(list)%2 != 0 {
		t.Errorf("the Cayley transform of %v in %v is the product of the reflections in %v", m, s, list)
	}
	returnsMatrix(t, m)(impl.CayleyBack(s, g))
	// The opposite of m makes the inverse of g, which is led back to it.
	opposite := unitPlus(s.P, -1, unitPlus(s.P, 1, m))
	other := must[[][]int64](t)(impl.CayleyOf(s, opposite))
	returnsMatrix(t, unit(len(m)))(product(s.P, g, other), impl.ErrNone)
	returnsMatrix(t, opposite)(impl.CayleyBack(s, other))
	return true
}

// checkCayleyBack tests the Cayley transform of an orthogonal matrix, and returns whether there is one.
func checkCayleyBack(t *testing.T, s impl.Space, g [][]int64) bool {
	t.Helper()
	if !hasTransform(s.P, g) {
		refuses(t, "CayleyBack", ofMatrix(impl.CayleyBack(s, g)), impl.ErrState)
		return false
	}
	m := must[[][]int64](t)(impl.CayleyBack(s, g))
	returnsMatrix(t, unitPlus(s.P, -1, g))(product(s.P, unitPlus(s.P, 1, g), m), impl.ErrNone)
	if !isSkew(s, m) || !hasTransform(s.P, m) {
		t.Errorf("the Cayley transform of %v in %v is %v", g, s, m)
	}
	returnsBool(t, true)(impl.IsSkewMatrix(s, m))
	returnsMatrix(t, g)(impl.CayleyOf(s, m))
	returnsMatrix(t, m)(impl.MatrixOfBivector(s, must[[]int64](t)(impl.BivectorOfMatrix(s, m))))
	return true
}

func TestCayleyTransforms(t *testing.T) {
	t.Parallel()
	made, none := [7]int{}, [7]int{}
	regularSpaces(func(s impl.Space, r *source) {
		n := len(s.Squares)
		for _, x := range someBivectors(s, r) {
			if checkCayley(t, s, matrixFrom(s, x)) {
				made[n]++
			} else {
				none[n]++
			}
		}
		returnsMatrix(t, unit(n))(impl.CayleyOf(s, zeros(n, n)))
		returnsMatrix(t, zeros(n, n))(impl.CayleyBack(s, unit(n)))
		opposite := diagonal(slices.Repeat([]int64{s.P - 1}, n)...)
		refuses(t, "CayleyBack", ofMatrix(impl.CayleyBack(s, opposite)), impl.ErrState)
	})
	if slices.Min(made[1:]) < 50 || slices.Min(none[2:]) < 50 {
		t.Errorf("%v skew matrices have Cayley transforms, and %v have none", made, none)
	}
}

// TestCayleyTransformsOfOrthogonal has products of reflections: those of oddly many have none, since -1 is
// then among the roots of their characteristic polynomials.
func TestCayleyTransformsOfOrthogonal(t *testing.T) {
	t.Parallel()
	made, none := [7]int{}, [7]int{}
	regularSpaces(func(s impl.Space, r *source) {
		n := len(s.Squares)
		for count := range n + 2 {
			g := reflectionsIn(t, s, r.vectorsWithNorms(s, count))
			switch found := checkCayleyBack(t, s, g); {
			case found && count%2 == 1:
				t.Errorf("%v in %v is a product of %d reflections and has a Cayley transform", g, s, count)
			case found:
				made[n]++
			case count%2 == 0:
				none[n]++
			}
		}
		for _, sign := range []int64{1, s.P - 1} {
			signs := slices.Repeat([]int64{sign}, n)
			signs[r.below(int64(n))] = s.P - 1
			refuses(t, "CayleyBack", ofMatrix(impl.CayleyBack(s, diagonal(signs...))), impl.ErrState)
		}
	})
	if slices.Min(made[1:]) < 50 || slices.Min(none[2:]) < 20 {
		t.Errorf("%v proper matrices have Cayley transforms, and %v have none", made, none)
	}
}

// TestCayleyTransformsOfTwoSquares has a formula: with the squares a and b, and d for 1 + x x a b, the
// matrix of x e0 e1 has a transform exactly if d is not 0.
func TestCayleyTransformsOfTwoSquares(t *testing.T) {
	t.Parallel()
	for _, p := range primes {
		allVectors(p, 3, func(numbers []int64) {
			a, b, x := numbers[0], numbers[1], numbers[2]
			if a == 0 || b == 0 {
				return
			}
			s := space(p, a, b)
			norm := x * x % p * a % p * b % p
			d := (1 + norm) % p
			m := [][]int64{{0, x * b % p}, {(p - x) * a % p, 0}}
			if d == 0 {
				refuses(t, "CayleyOf", ofMatrix(impl.CayleyOf(s, m)), impl.ErrState)
				return
			}
			k := reciprocal(p, d)
			c := (1 + p - norm) * k % p
			g := [][]int64{{c, (p - 2) * m[0][1] % p * k % p}, {(p - 2) * m[1][0] % p * k % p, c}}
			returnsMatrix(t, g)(impl.CayleyOf(s, m))
			returnsMatrix(t, m)(impl.CayleyBack(s, g))
		})
	}
}

// TestAllCayleyTransforms pairs all skew and all orthogonal matrices of small spaces.
func TestAllCayleyTransforms(t *testing.T) {
	t.Parallel()
	for _, s := range append(smallGroups(), space(5, 1, 1, 1), space(5, 1, 2, 1), space(13, 1, 5)) {
		transforms, count := map[string]bool{}, 0
		allVectors(s.P, len(pairMasks(s)), func(numbers []int64) {
			m := matrixFrom(s, bivectorFrom(s, numbers))
			if checkCayley(t, s, m) {
				count++
				transforms[key(slices.Concat(must[[][]int64](t)(impl.CayleyOf(s, m))...))] = true
			}
		})
		met := map[string]bool{}
		for _, g := range must[[][][]int64](t)(impl.AllOrthogonal(s)) {
			if checkCayleyBack(t, s, g) {
				met[key(slices.Concat(g...))] = true
			}
		}
		if len(transforms) != count || !sameKeys(transforms, met) {
			t.Errorf("%v has %d Cayley transforms of %d skew matrices, and %d orthogonal matrices with one", s, len(transforms), count, len(met))
		}
	}
}

// TestNotOrthogonalForCayleyBack has skew matrices, changed orthogonal ones, and isometries to other spaces,
// for CayleyOf orthogonal ones.
func TestNotOrthogonalForCayleyBack(t *testing.T) {
	t.Parallel()
	refused := 0
	regularSpaces(func(s impl.Space, r *source) {
		n := int64(len(s.Squares))
		g := reflectionsIn(t, s, r.vectorsWithNorms(s, 2))
		list := [][][]int64{zeros(int(n), int(n)), matrixFrom(s, r.bivector(s)), unitPlus(s.P, 1, g)}
		for range 4 {
			m := cloneRows(g)
			i, k := r.below(n), r.below(n)
			m[i][k] = (m[i][k] + 1 + r.below(s.P-1)) % s.P
			list = append(list, m)
		}
		for _, m := range list {
			if !isOrthogonalMatrix(s, m) {
				refused++
				refuses(t, "CayleyBack", ofMatrix(impl.CayleyBack(s, m)), impl.ErrState)
			}
		}
		if !isSkew(s, g) {
			checkNotSkew(t, s, g)
		}
	})
	if refused < 1000 {
		t.Errorf("only %d matrices are not orthogonal", refused)
	}
	refuses(t, "CayleyBack", ofMatrix(impl.CayleyBack(space(5, 1, 4), [][]int64{{0, 4}, {1, 0}})), impl.ErrState)
}

func TestBivectorsOfVectors(t *testing.T) {
	t.Parallel()
	regularSpaces(func(s impl.Space, r *source) {
		n, zero := len(s.Squares), make([]int64, bladesOf(s))
		for range 3 {
			v, w, u := r.vector(s.P, n), r.vector(s.P, n), r.vector(s.P, n)
			x := must[[]int64](t)(impl.BivectorOfVectors(s, v, w))
			returnsVector(t, wedgeOf(s, [][]int64{v, w}))(x, impl.ErrNone)
			returnsBool(t, true)(impl.IsBivector(s, x))
			returnsVector(t, multipleOf(s.P, -1, x))(impl.BivectorOfVectors(s, w, v))
			want := plus(s.P, multipleOf(s.P, pairing(s, w, u), v), -pairing(s, v, u), w)
			returnsVector(t, want)(impl.TurnVector(s, x, u))
			for _, dependent := range [][]int64{v, make([]int64, n), multipleOf(s.P, 1+r.below(s.P-1), v)} {
				returnsVector(t, zero)(impl.BivectorOfVectors(s, v, dependent))
				returnsVector(t, zero)(impl.BivectorOfVectors(s, dependent, v))
			}
			returnsVector(t, x)(impl.BivectorOfVectors(s, v, plus(s.P, w, r.below(s.P), v)))
		}
		for i := range n {
			for k := i + 1; k < n; k++ {
				returnsVector(t, blade(s, 1<<i|1<<k, 1))(impl.BivectorOfVectors(s, unit(n)[i], unit(n)[k]))
				returnsVector(t, blade(s, 1<<i|1<<k, s.P-1))(impl.BivectorOfVectors(s, unit(n)[k], unit(n)[i]))
			}
		}
	})
}

func TestCountBivectors(t *testing.T) {
	t.Parallel()
	regularSpaces(func(s impl.Space, r *source) {
		want := []int64{0, 1, 3, 6, 10, 15}[len(s.Squares)-1]
		returns(t, want)(impl.CountBivectors(s))
		returns(t, int64(len(pairMasks(s))))(impl.CountBivectors(s))
	})
}

// notSquareMatrices have other sizes, or are no matrices.
func notSquareMatrices(s impl.Space) [][][]int64 {
	n := len(s.Squares)
	list := append(notMatrices(s.P), unit(n+1), zeros(n+1, n+1), zeros(n, n+1), zeros(n+1, n), unit(n)[1:], unit(16), unit(17))
	if n > 1 {
		list = append(list, zeros(n-1, n-1), zeros(n, n-1), zeros(n-1, n), zeros(1, n), zeros(n, 1))
	}
	ragged, short := unit(n), zeros(n, n)
	ragged[n-1] = append(ragged[n-1], 0)
	short[0] = short[0][1:]
	list = append(list, ragged, short, append(unit(n), nil))
	for i := range n {
		for k := range n {
			for _, bad := range notNumbers(s.P) {
				m := zeros(n, n)
				m[i][k] = bad
				list = append(list, m)
			}
		}
	}
	return list
}

// TestArgumentsOutOfRange has spaces that are regular, and others, for which ErrState comes behind, as it
// does for multivectors that are no bivectors.
func TestArgumentsOutOfRange(t *testing.T) {
	t.Parallel()
	for _, p := range primes {
		for n := 1; n <= 6; n++ {
			for _, square := range []int64{0, 1, p - 1} {
				s := space(p, slices.Repeat([]int64{square}, n)...)
				zero, one, v := make([]int64, bladesOf(s)), blade(s, 0, 1), make([]int64, n)
				for _, m := range notSquareMatrices(s) {
					for call, got := range callsOfSquareMatrices(s, m) {
						refuses(t, call, got, impl.ErrRange)
					}
				}
				for _, bad := range notMultivectors(s) {
					refuses(t, "IsBivector", ofBool(impl.IsBivector(s, bad)), impl.ErrRange)
					for _, y := range [][]int64{zero, one} {
						for call, got := range callsOfBivectors(s, bad, y, v) {
							refuses(t, call, got, impl.ErrRange)
						}
					}
				}
				for _, bad := range notVectors(s) {
					refuses(t, "TurnVector", ofVector(impl.TurnVector(s, zero, bad)), impl.ErrRange)
					refuses(t, "TurnVector", ofVector(impl.TurnVector(s, one, bad)), impl.ErrRange)
					refuses(t, "BivectorOfVectors", ofVector(impl.BivectorOfVectors(s, bad, v)), impl.ErrRange)
					refuses(t, "BivectorOfVectors", ofVector(impl.BivectorOfVectors(s, v, bad)), impl.ErrRange)
				}
			}
		}
	}
}

// TestTurnsOfSpacesThatAreNotRegular has one square that is 0, at each place, and more of them.
func TestTurnsOfSpacesThatAreNotRegular(t *testing.T) {
	t.Parallel()
	check := func(s impl.Space, r *source) {
		if regularOf(s) {
			return
		}
		n := len(s.Squares)
		for _, m := range [][][]int64{zeros(n, n), unit(n), matrixFrom(s, r.bivector(s)), r.matrix(s.P, n, n)} {
			for _, x := range [][]int64{make([]int64, bladesOf(s)), r.bivector(s), r.vector(s.P, bladesOf(s))} {
				for call, got := range callsOfTurns(s, m, x, r.vector(s.P, n)) {
					refuses(t, call, got, impl.ErrState)
				}
			}
		}
	}
	allSpaces(check)
	var r source
	for _, p := range primes {
		for n := 1; n <= 6; n++ {
			for place := range n {
				s := space(p, slices.Repeat([]int64{1}, n)...)
				s.Squares[place] = 0
				check(s, &r)
			}
		}
	}
}

// TestTurnsOfNoSpaces gives other arguments that are right, and some that are wrong, too.
func TestTurnsOfNoSpaces(t *testing.T) {
	t.Parallel()
	for _, s := range notSpaces() {
		n := len(s.Squares)
		for _, x := range [][]int64{nil, make([]int64, 1<<min(n, 7)), {1, 1, 1, 1}} {
			for _, m := range [][][]int64{zeros(min(n, 17), min(n, 17)), unit(min(n, 17)), nil, {{-1}}} {
				for _, v := range [][]int64{make([]int64, n), nil, {-1}} {
					for call, got := range callsOfTurns(s, m, x, v) {
						refuses(t, call, got, impl.ErrInvalid)
					}
				}
			}
		}
	}
}

// turnArguments are kept by a guard: bivectors, skew matrices, their Cayley transforms, and vectors.
type turnArguments struct {
	bivectors, vectors [][]int64
	skew, orthogonal   [][][]int64
}

// rowsOfTurns are the results of the calls that return lists.
func rowsOfTurns(t *testing.T, s impl.Space, a turnArguments) map[string][][]int64 {
	t.Helper()
	v, w := a.vectors[0], a.vectors[1]
	rows := map[string][][]int64{
		"BivectorBracket":              {must[[]int64](t)(impl.BivectorBracket(s, a.bivectors[0], a.bivectors[2]))},
		"BivectorOfVectors":            {must[[]int64](t)(impl.BivectorOfVectors(s, v, w))},
		"BivectorOfVectors, dependent": {must[[]int64](t)(impl.BivectorOfVectors(s, v, v))},
	}
	for i, kind := range []string{" any", " 0"} {
		x, m, g := a.bivectors[i], a.skew[i], a.orthogonal[i]
		rows["MatrixOfBivector"+kind] = must[[][]int64](t)(impl.MatrixOfBivector(s, x))
		rows["BivectorOfMatrix"+kind] = [][]int64{must[[]int64](t)(impl.BivectorOfMatrix(s, m))}
		rows["TurnVector"+kind] = [][]int64{must[[]int64](t)(impl.TurnVector(s, x, v))}
		rows["BivectorBracket"+kind] = [][]int64{must[[]int64](t)(impl.BivectorBracket(s, x, x))}
		rows["CayleyOf"+kind] = must[[][]int64](t)(impl.CayleyOf(s, m))
		rows["CayleyBack"+kind] = must[[][]int64](t)(impl.CayleyBack(s, g))
		if len(s.Squares) <= 4 {
			rows["CentralizerOf"+kind] = must[[][]int64](t)(impl.CentralizerOf(s, x))
		}
	}
	return rows
}

// TestTurnsAreNewMemory overwrites all results, and then calls everything again.
func TestTurnsAreNewMemory(t *testing.T) {
	t.Parallel()
	regularSpaces(func(kept impl.Space, r *source) {
		var g guard
		n := len(kept.Squares)
		s := impl.Space{P: kept.P, Squares: g.keep([][]int64{kept.Squares})[0]}
		x := r.bivector(s)
		for !hasTransform(s.P, matrixFrom(s, x)) {
			x = r.bivector(s)
		}
		a := turnArguments{bivectors: g.keep([][]int64{x, make([]int64, bladesOf(s)), r.bivector(s)}), vectors: g.keep(r.matrix(s.P, 2, n))}
		a.skew = [][][]int64{g.keep(matrixFrom(s, x)), g.keep(zeros(n, n))}
		a.orthogonal = [][][]int64{g.keep(must[[][]int64](t)(impl.CayleyOf(s, a.skew[0]))), g.keep(unit(n))}
		before := map[string][][]int64{}
		for call, rows := range rowsOfTurns(t, s, a) {
			g.check(t, call)
			before[call] = cloneRows(rows)
			overwrite(t, call, rows)
			g.check(t, "overwriting the result of "+call)
		}
		for call, rows := range rowsOfTurns(t, s, a) {
			if !equalRows(rows, before[call]) {
				t.Errorf("%s of %v returns something else the second time", call, s)
			}
		}
		for _, m := range slices.Concat(a.skew, a.orthogonal) {
			for _, x := range append(g.keep([][]int64{r.vector(s.P, bladesOf(s))}), a.bivectors...) {
				callsOfTurns(s, m, x, a.vectors[0])
			}
		}
		g.check(t, "a call that returns no lists")
	})
}
