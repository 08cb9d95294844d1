package tests

import (
	"runtime"
	"slices"
	"testing"
	"time"

	"loop.example/g01124/impl"
)

func TestMaxOrthogonal(t *testing.T) {
	t.Parallel()
	if impl.MaxOrthogonal != 500 {
		t.Errorf("MaxOrthogonal is %d", impl.MaxOrthogonal)
	}
}

func ofMatrices(list [][][]int64, code int64) result { return result{code, len(list) == 0} }

// callsOfOrthogonal are the calls of which m has to be an orthogonal matrix.
func callsOfOrthogonal(s impl.Space, m [][]int64) map[string]result {
	return map[string]result{
		"DecomposeOrthogonal": ofMatrix(impl.DecomposeOrthogonal(s, m)),
		"VersorOfMatrix":      ofVector(impl.VersorOfMatrix(s, m)),
		"IsProper":            ofBool(impl.IsProper(s, m)),
		"HasSquareNorm":       ofBool(impl.HasSquareNorm(s, m)),
		"OrthogonalOrder":     ofNumber(impl.OrthogonalOrder(s, m)),
		"FixedVectors":        ofMatrix(impl.FixedVectors(s, m)),
	}
}

// callsOfGroups are all calls, with one argument of each kind.
func callsOfGroups(s impl.Space, m [][]int64, x []int64, u []int64) map[string]result {
	calls := callsOfOrthogonal(s, m)
	calls["IsOrthogonal"] = ofBool(impl.IsOrthogonal(s, m))
	calls["MatrixOfVersor"] = ofMatrix(impl.MatrixOfVersor(s, x))
	calls["ReflectionMatrix"] = ofMatrix(impl.ReflectionMatrix(s, u))
	calls["CountOrthogonal"] = ofNumber(impl.CountOrthogonal(s))
	calls["AllOrthogonal"] = ofMatrices(impl.AllOrthogonal(s))
	return calls
}

// checkNotOrthogonal tests that a matrix, or what is none, is refused wherever an orthogonal matrix has
// to be.
func checkNotOrthogonal(t *testing.T, s impl.Space, m [][]int64) {
	t.Helper()
	returnsBool(t, false)(impl.IsOrthogonal(s, m))
	for call, got := range callsOfOrthogonal(s, m) {
		refuses(t, call, got, impl.ErrRange)
	}
}

// isOrthogonalMatrix requires a matrix with as many rows and columns as the space has squares.
func isOrthogonalMatrix(s impl.Space, m [][]int64) bool {
	return keepsNorms(s, s, m) && determinantOf(s.P, m) != 0
}

// decomposed follows the document with the matrices of reflections, and tells how many columns differ
// from the basis vectors by vectors with the norm 0.
func decomposed(t *testing.T, s impl.Space, m [][]int64) (list [][]int64, null int) {
	t.Helper()
	n := len(s.Squares)
	for i, e := range unit(n) {
		w := flip(m)[i]
		if slices.Equal(w, e) {
			continue
		}
		difference := plus(s.P, w, -1, e)
		if pairing(s, difference, difference) != 0 {
			list = append(list, difference)
			m = product(s.P, reflection(t, s, difference), m)
			continue
		}
		null++
		sum := plus(s.P, w, 1, e)
		list = append(list, sum, e)
		m = product(s.P, reflection(t, s, e), product(s.P, reflection(t, s, sum), m))
	}
	if !equalRows(m, unit(n)) {
		t.Errorf("the decomposition in %v ends with %v", s, m)
	}
	return list, null
}

// orderOf multiplies by the matrix until it is the unit matrix.
func orderOf(p int64, m [][]int64) int64 {
	order := int64(1)
	for power := m; !equalRows(power, unit(len(m))); order++ {
		power = product(p, power, m)
	}
	return order
}

// checkFixed compares with all vectors, or, if they are many, with the rank of the differences.
func checkFixed(t *testing.T, s impl.Space, m [][]int64) {
	t.Helper()
	n := len(s.Squares)
	basis := must[[][]int64](t)(impl.FixedVectors(s, m))
	if !isReduced(s.P, basis) {
		t.Errorf("the basis %v of %v in %v is not reduced", basis, m, s)
	}
	for _, v := range basis {
		returnsVector(t, v)(apply(s.P, m, v), impl.ErrNone)
	}
	if powerOf(s.P, n) > 400 {
		rows := zeros(n, n)
		for i := range rows {
			rows[i] = plus(s.P, m[i], -1, unit(n)[i])
		}
		returns(t, int64(n-len(basis)))(impl.RankOf(s.P, rows))
		return
	}
	fixed := 0
	allVectors(s.P, n, func(v []int64) {
		if slices.Equal(apply(s.P, m, v), v) {
			fixed++
		}
	})
	if fixed != powerOf(s.P, len(basis)) {
		t.Errorf("%v of %v has %d fixed vectors and the basis %v", m, s, fixed, basis)
	}
}

// checkMotion tests the matrix of the reflections in the vectors of a list, the last one done first, and
// returns how many columns differ from basis vectors by vectors with the norm 0.
func checkMotion(t *testing.T, s impl.Space, list [][]int64) int {
	t.Helper()
	m := reflectionsIn(t, s, list)
	returnsBool(t, true)(impl.IsOrthogonal(s, m))
	decomposition, null := decomposed(t, s, m)
	returnsMatrix(t, decomposition)(impl.DecomposeOrthogonal(s, m))
	returnsMatrix(t, m)(reflectionsIn(t, s, decomposition), impl.ErrNone)
	x := versorFrom(s, decomposition).x
	returnsVector(t, x)(impl.VersorOfMatrix(s, m))
	returnsMatrix(t, m)(impl.MatrixOfVersor(s, x))
	even := len(list)%2 == 0
	returnsBool(t, even)(impl.IsProper(s, m))
	if want := 1 + int64(len(list)%2)*(s.P-2); determinantOf(s.P, m) != want || even != (len(decomposition)%2 == 0) {
		t.Errorf("%v of %v has the decomposition %v", m, s, decomposition)
	}
	// The vectors of the list are others than those of the decomposition.
	_, square := rootOf(s.P, normsOf(s, list))
	returnsBool(t, square)(impl.HasSquareNorm(s, m))
	returns(t, orderOf(s.P, m))(impl.OrthogonalOrder(s, m))
	checkFixed(t, s, m)
	return null
}

func TestOrthogonalMatricesOfThePlane(t *testing.T) {
	t.Parallel()
	plane, swap, turn := space(5, 1, 1), [][]int64{{0, 1}, {1, 0}}, [][]int64{{0, 4}, {1, 0}}
	for _, m := range [][][]int64{swap, turn, unit(2), diagonal(4, 1), diagonal(4, 4)} {
		returnsBool(t, true)(impl.IsOrthogonal(plane, m))
	}
	// The columns of the last one are orthogonal, but both have the norm 2.
	for _, m := range [][][]int64{{{1, 1}, {0, 1}}, zeros(2, 2), diagonal(2, 1), diagonal(1, 2), {{1, 2}, {2, 4}}, {{0, 1}, {1, 1}}, {{1, 1}, {1, 4}}} {
		checkNotOrthogonal(t, plane, m)
	}
	returnsMatrix(t, [][]int64{{4, 0}, {0, 1}})(impl.MatrixOfVersor(plane, []int64{0, 1, 0, 0}))
	returnsMatrix(t, [][]int64{{0, 1}, {4, 0}})(impl.MatrixOfVersor(plane, []int64{1, 0, 0, 1}))
	returnsMatrix(t, [][]int64{{0, 4}, {1, 0}})(impl.MatrixOfVersor(plane, []int64{1, 0, 0, 4}))
	returnsMatrix(t, unit(2))(impl.MatrixOfVersor(plane, []int64{3, 0, 0, 0}))
	refuses(t, "MatrixOfVersor", ofMatrix(impl.MatrixOfVersor(plane, []int64{1, 1, 0, 0})), impl.ErrState)
	returnsMatrix(t, swap)(impl.ReflectionMatrix(plane, []int64{4, 1}))
	returnsMatrix(t, [][]int64{{0, 4}, {4, 0}})(impl.ReflectionMatrix(plane, []int64{2, 2}))
	refuses(t, "ReflectionMatrix", ofMatrix(impl.ReflectionMatrix(plane, []int64{1, 2})), impl.ErrState)
	returnsMatrix(t, [][]int64{{4, 1}})(impl.DecomposeOrthogonal(plane, swap))
	returnsMatrix(t, [][]int64{{4, 1}, {0, 3}})(impl.DecomposeOrthogonal(plane, turn))
	returnsMatrix(t, [][]int64{{3, 0}, {0, 3}})(impl.DecomposeOrthogonal(plane, diagonal(4, 4)))
	returnsMatrix(t, nil)(impl.DecomposeOrthogonal(plane, unit(2)))
	returnsVector(t, []int64{0, 4, 1, 0})(impl.VersorOfMatrix(plane, swap))
	returnsVector(t, []int64{3, 0, 0, 2})(impl.VersorOfMatrix(plane, turn))
	returnsVector(t, []int64{1, 0, 0, 0})(impl.VersorOfMatrix(plane, unit(2)))
	returnsVector(t, []int64{0, 0, 0, 4})(impl.VersorOfMatrix(plane, diagonal(4, 4)))
	for _, m := range [][][]int64{turn, unit(2), diagonal(4, 4)} {
		returnsBool(t, true)(impl.IsProper(plane, m))
	}
	returnsBool(t, false)(impl.IsProper(plane, swap))
	returnsBool(t, false)(impl.IsProper(plane, diagonal(1, 4)))
	for _, m := range [][][]int64{unit(2), diagonal(4, 4), diagonal(4, 1)} {
		returnsBool(t, true)(impl.HasSquareNorm(plane, m))
	}
	returnsBool(t, false)(impl.HasSquareNorm(plane, swap))
	returnsBool(t, false)(impl.HasSquareNorm(plane, turn))
	returns(t, 8)(impl.CountOrthogonal(plane))
	returns(t, 1)(impl.OrthogonalOrder(plane, unit(2)))
	returns(t, 2)(impl.OrthogonalOrder(plane, swap))
	returns(t, 4)(impl.OrthogonalOrder(plane, turn))
	returns(t, 2)(impl.OrthogonalOrder(plane, diagonal(4, 4)))
	returnsMatrix(t, [][]int64{{1, 1}})(impl.FixedVectors(plane, swap))
	returnsMatrix(t, unit(2))(impl.FixedVectors(plane, unit(2)))
	returnsMatrix(t, nil)(impl.FixedVectors(plane, turn))
	returnsMatrix(t, [][]int64{{0, 1}})(impl.FixedVectors(plane, diagonal(4, 1)))
	all := must[[][][]int64](t)(impl.AllOrthogonal(plane))
	want := [][][]int64{swap, turn, {{0, 1}, {4, 0}}, {{0, 4}, {4, 0}}, unit(2), diagonal(1, 4), diagonal(4, 1), diagonal(4, 4)}
	if !slices.EqualFunc(all, want, equalRows) {
		t.Errorf("the orthogonal matrices of the plane are %v", all)
	}
}

// TestColumnWithoutDifference has the column {1, 1, 2}, whose difference from e(0) has the norm 0.
func TestColumnWithoutDifference(t *testing.T) {
	t.Parallel()
	s, m := space(5, 1, 1, 1), [][]int64{{1, 4, 3}, {1, 3, 4}, {2, 4, 4}}
	returnsBool(t, true)(impl.IsOrthogonal(s, m))
	returnsMatrix(t, [][]int64{{2, 1, 2}, {1, 0, 0}})(impl.DecomposeOrthogonal(s, m))
	returnsVector(t, []int64{2, 0, 0, 4, 0, 3, 0, 0})(impl.VersorOfMatrix(s, m))
	returnsBool(t, true)(impl.IsProper(s, m))
	returnsBool(t, true)(impl.HasSquareNorm(s, m))
	returns(t, 5)(impl.OrthogonalOrder(s, m))
	returnsMatrix(t, [][]int64{{0, 1, 2}})(impl.FixedVectors(s, m))
	returnsBool(t, false)(impl.IsOrthogonal(space(5, 1, 1, 4), m))
}

// TestOrthogonalMatricesOfOneSquare has all numbers as matrices.
func TestOrthogonalMatricesOfOneSquare(t *testing.T) {
	t.Parallel()
	for _, p := range primes {
		for square := int64(1); square < p; square++ {
			s := space(p, square)
			returns(t, 2)(impl.CountOrthogonal(s))
			all := must[[][][]int64](t)(impl.AllOrthogonal(s))
			if want := [][][]int64{{{1}}, {{p - 1}}}; !slices.EqualFunc(all, want, equalRows) {
				t.Errorf("the orthogonal matrices of %v are %v", s, all)
			}
			for a := range p {
				if a != 1 && a != p-1 {
					checkNotOrthogonal(t, s, [][]int64{{a}})
				}
				if a != 0 {
					returnsMatrix(t, [][]int64{{p - 1}})(impl.ReflectionMatrix(s, []int64{a}))
					returnsMatrix(t, [][]int64{{p - 1}})(impl.MatrixOfVersor(s, []int64{0, a}))
					returnsMatrix(t, [][]int64{{1}})(impl.MatrixOfVersor(s, []int64{a, 0}))
				}
			}
			checkMotion(t, s, nil)
			checkMotion(t, s, [][]int64{{1}})
			returnsMatrix(t, [][]int64{{p - 2}})(impl.DecomposeOrthogonal(s, [][]int64{{p - 1}}))
		}
	}
}

// smallGroups are spaces of which all matrices can be gone through.
func smallGroups() []impl.Space {
	var list []impl.Space
	for _, p := range []int64{3, 5, 7} {
		allVectors(p, 2, func(squares []int64) {
			if s := space(p, slices.Clone(squares)...); regularOf(s) {
				list = append(list, s)
			}
		})
	}
	return append(list, space(3, 1, 1, 1), space(3, 2, 1, 2), space(3, 1, 2, 2), space(3, 2, 2, 2))
}

// TestAllSmallMatrices goes through the columns in lexicographic order.
func TestAllSmallMatrices(t *testing.T) {
	t.Parallel()
	for _, s := range smallGroups() {
		var want [][][]int64
		var r source
		n := len(s.Squares)
		allMatrices(s.P, n, n, func(columns [][]int64) {
			m := flip(columns)
			if isOrthogonalMatrix(s, m) {
				want = append(want, m)
				return
			}
			returnsBool(t, false)(impl.IsOrthogonal(s, m))
			if r.below(20) == 0 {
				checkNotOrthogonal(t, s, m)
			}
		})
		all := must[[][][]int64](t)(impl.AllOrthogonal(s))
		if !slices.EqualFunc(all, want, equalRows) {
			t.Errorf("%d of %d orthogonal matrices of %v, or in another order", len(all), len(want), s)
		}
		returns(t, int64(len(want)))(impl.CountOrthogonal(s))
		for _, m := range want {
			list, _ := decomposed(t, s, m)
			checkMotion(t, s, list)
		}
	}
}

// countOf multiplies the numbers of vectors that column after column can be: by the theorem of Witt, what
// is orthogonal to the columns before is isometric to what is orthogonal to the basis vectors before.
func countOf(s impl.Space) int64 {
	count := int64(1)
	for i, square := range s.Squares {
		count *= countsOf(space(s.P, s.Squares[i:]...))[square]
	}
	return count
}

// checkGroup tests the number and the list of orthogonal matrices, and that half of them are proper. It
// returns whether there are few enough for a list.
func checkGroup(t *testing.T, s impl.Space) bool {
	t.Helper()
	want := countOf(s)
	returns(t, want)(impl.CountOrthogonal(s))
	all, code := impl.AllOrthogonal(s)
	if want > impl.MaxOrthogonal {
		refuses(t, "AllOrthogonal", ofMatrices(all, code), impl.ErrLimit)
		return false
	}
	if code != impl.ErrNone || int64(len(all)) != want {
		t.Errorf("%d of %d orthogonal matrices of %v, code %d", len(all), want, s, code)
	}
	proper, last := int64(0), []int64(nil)
	for _, m := range all {
		columns := slices.Concat(flip(m)...)
		if slices.Compare(last, columns) >= 0 || !isOrthogonalMatrix(s, m) {
			t.Errorf("%v of %v is not orthogonal, or in a wrong place", m, s)
		}
		last = columns
		if must[bool](t)(impl.IsProper(s, m)) {
			proper++
		}
	}
	if 2*proper != want {
		t.Errorf("%d of %d orthogonal matrices of %v are proper", proper, want, s)
	}
	return true
}

// TestGroupsWithLists has all regular spaces with up to three squares. None of them has exactly
// MaxOrthogonal orthogonal matrices: the numbers next to it are 240 and 672.
func TestGroupsWithLists(t *testing.T) {
	t.Parallel()
	for _, p := range primes {
		for n := 1; n <= 3; n++ {
			allVectors(p, n, func(squares []int64) {
				s := space(p, slices.Clone(squares)...)
				if regularOf(s) && checkGroup(t, s) != (n < 3 || p <= 5) {
					t.Errorf("the orthogonal matrices of %v are listed, or are not", s)
				}
			})
		}
	}
	for p, want := range map[int64]int64{3: 48, 5: 240, 7: 672, 11: 2640, 13: 4368} {
		returns(t, want)(impl.CountOrthogonal(space(p, 1, 1, 1)))
	}
}

// TestCounts has spaces whose Witt indices are half of the number of squares, and less.
func TestCounts(t *testing.T) {
	t.Parallel()
	met := map[[3]int64]int{}
	check := func(s impl.Space) {
		checkGroup(t, s)
		met[[3]int64{s.P, int64(len(s.Squares)), must[int64](t)(impl.WittIndex(s))}]++
	}
	regularSpaces(func(s impl.Space, r *source) { check(s) })
	for n := 4; n <= 6; n++ {
		allVectors(3, n, func(squares []int64) {
			if s := space(3, slices.Clone(squares)...); regularOf(s) {
				check(s)
			}
		})
	}
	for _, p := range primes {
		for n := int64(1); n <= 6; n++ {
			if met[[3]int64{p, n, n / 2}] == 0 || n%2 == 0 && met[[3]int64{p, n, n/2 - 1}] == 0 {
				t.Errorf("no space of %d with %d squares has one of the Witt indices", p, n)
			}
		}
	}
	returns(t, 1152)(impl.CountOrthogonal(space(3, 1, 1, 1, 1)))
	returns(t, 1440)(impl.CountOrthogonal(space(3, 1, 1, 1, 2)))
	returns(t, 2*4826809*2198*168*28560)(impl.CountOrthogonal(space(13, 1, 1, 1, 1, 1, 2)))
	returns(t, 2*4826809*2196*168*28560)(impl.CountOrthogonal(space(13, 1, 1, 1, 1, 1, 1)))
}

func TestMatricesOfVersors(t *testing.T) {
	t.Parallel()
	regularSpaces(func(s impl.Space, r *source) {
		n := len(s.Squares)
		for _, a := range []int64{1, 1 + r.below(s.P-1), s.P - 1} {
			returnsMatrix(t, unit(n))(impl.MatrixOfVersor(s, blade(s, 0, a)))
		}
		returnsMatrix(t, diagonal(slices.Repeat([]int64{s.P - 1}, n)...))(impl.MatrixOfVersor(s, blade(s, bladesOf(s)-1, 1)))
		for _, count := range []int{1, 2, n + 1} {
			known := r.versor(s, count)
			m := reflectionsIn(t, s, known.list)
			returnsMatrix(t, m)(impl.MatrixOfVersor(s, known.x))
			returnsBool(t, true)(impl.IsOrthogonal(s, m))
			i := r.below(int64(n))
			returnsVector(t, flip(m)[i])(impl.SandwichOf(s, known.x, unit(n)[i]))
		}
		known, other := r.versor(s, n), r.versor(s, 1)
		m := reflectionsIn(t, s, known.list)
		returnsMatrix(t, m)(impl.MatrixOfVersor(s, multipleOf(s.P, 1+r.below(s.P-1), known.x)))
		both := product(s.P, m, reflectionsIn(t, s, other.list))
		returnsMatrix(t, both)(impl.MatrixOfVersor(s, geometric(s, known.x, other.x)))
	})
}

// TestMatricesOfNoVersors has 0, sums of versors, and vectors with the norm 0.
func TestMatricesOfNoVersors(t *testing.T) {
	t.Parallel()
	refused := 0
	regularSpaces(func(s impl.Space, r *source) {
		n := len(s.Squares)
		list := append(someMultivectors(s, r), make([]int64, bladesOf(s)), plus(s.P, blade(s, 0, 1), 1, blade(s, 1, 1)))
		vectors := [][]int64{make([]int64, n)}
		if v, code := impl.IsotropicVector(s); code == impl.ErrNone {
			vectors = append(vectors, v, multipleOf(s.P, -1, v))
		}
		for _, v := range vectors {
			list = append(list, vectorPart(s, v))
			refuses(t, "ReflectionMatrix", ofMatrix(impl.ReflectionMatrix(s, v)), impl.ErrState)
		}
		for _, x := range list {
			if !isVersorOf(s, x) {
				refused++
				refuses(t, "MatrixOfVersor", ofMatrix(impl.MatrixOfVersor(s, x)), impl.ErrState)
			}
		}
	})
	if refused < 1000 {
		t.Errorf("only %d multivectors are no versors", refused)
	}
}

func TestMatricesOfReflections(t *testing.T) {
	t.Parallel()
	check := func(s impl.Space, u []int64) {
		if pairing(s, u, u) == 0 {
			refuses(t, "ReflectionMatrix", ofMatrix(impl.ReflectionMatrix(s, u)), impl.ErrState)
			return
		}
		columns := unit(len(s.Squares))
		for i, e := range columns {
			columns[i] = reflected(s, u, e)
		}
		m := flip(columns)
		returnsMatrix(t, m)(impl.ReflectionMatrix(s, u))
		returnsMatrix(t, m)(impl.MatrixOfVersor(s, vectorPart(s, u)))
		returnsBool(t, false)(impl.IsProper(s, m))
		returns(t, 2)(impl.OrthogonalOrder(s, m))
		_, square := rootOf(s.P, pairing(s, u, u))
		returnsBool(t, square)(impl.HasSquareNorm(s, m))
		fixed := must[[][]int64](t)(impl.OrthogonalTo(s, [][]int64{u}))
		returnsMatrix(t, fixed)(impl.FixedVectors(s, m))
		if list := must[[][]int64](t)(impl.DecomposeOrthogonal(s, m)); len(list)%2 != 1 {
			t.Errorf("the reflection in %v of %v is that in %v", u, s, list)
		}
	}
	regularSpaces(func(s impl.Space, r *source) {
		for _, u := range append(r.vectorsWithNorms(s, 3), r.vector(s.P, len(s.Squares)), unit(len(s.Squares))[0]) {
			check(s, u)
		}
	})
	for _, s := range []impl.Space{space(3, 2), space(13, 5), space(7, 3, 6), space(11, 1, 2), space(5, 1, 2, 1), space(3, 1, 1, 2, 1)} {
		allVectors(s.P, len(s.Squares), func(u []int64) { check(s, u) })
	}
}

func TestOrthogonalMatrices(t *testing.T) {
	t.Parallel()
	regularSpaces(func(s impl.Space, r *source) {
		n := len(s.Squares)
		for _, count := range []int{0, 1, 2, n, n + 1} {
			checkMotion(t, s, r.vectorsWithNorms(s, count))
		}
		checkMotion(t, s, unit(n))
	})
}

// tail returns a vector with zeros before what fits the squares behind them.
func tail(n int, v []int64) []int64 {
	return slices.Concat(make([]int64, n-len(v)), v)
}

// stepOf returns what a decomposition may have at the column i: nothing, the difference of what a
// reflection makes of e(i), or two vectors where the difference has the norm 0.
func (r *source) stepOf(t *testing.T, s impl.Space, i int, kind int64) [][]int64 {
	t.Helper()
	n := len(s.Squares)
	e, rest := unit(n)[i], space(s.P, s.Squares[i:]...)
	if kind == 1 {
		v := tail(n, r.vectorsWithNorms(rest, 1)[0])
		if difference := plus(s.P, reflected(s, v, e), -1, e); !isZero(difference) {
			return [][]int64{difference}
		}
	}
	if kind != 2 || i == n-1 {
		return nil
	}
	rest.Squares = rest.Squares[1:]
	null, code := impl.IsotropicVector(rest)
	if code != impl.ErrNone {
		return nil
	}
	null = multipleOf(s.P, 1+r.below(s.P-1), apply(s.P, reflectionsIn(t, rest, r.vectorsWithNorms(rest, 2)), null))
	return [][]int64{plus(s.P, multipleOf(s.P, 2, e), 1, tail(n, null)), e}
}

// TestKnownDecompositions makes the decompositions first: each step leaves the columns before it as they
// are.
func TestKnownDecompositions(t *testing.T) {
	t.Parallel()
	met := [6]int{}
	regularSpaces(func(s impl.Space, r *source) {
		n := len(s.Squares)
		for try := range int64(6) {
			var list [][]int64
			null := 0
			for i := range n {
				kind := r.below(3)
				if try < 3 {
					kind = try
				}
				step := r.stepOf(t, s, i, kind)
				if len(step) == 2 {
					met[i]++
					null++
				}
				list = append(list, step...)
			}
			m := reflectionsIn(t, s, list)
			returnsMatrix(t, list)(impl.DecomposeOrthogonal(s, m))
			if checkMotion(t, s, list) != null {
				t.Errorf("%v of %v has not %d columns with the norm 0 of the difference", m, s, null)
			}
		}
	})
	if slices.Min(met[:4]) < 50 {
		t.Errorf("differences have the norm 0 at the columns %v times", met)
	}
}

// TestNormsOfProducts compares spinor norms and determinants of products with those of their factors.
func TestNormsOfProducts(t *testing.T) {
	t.Parallel()
	squares, others := 0, 0
	regularSpaces(func(s impl.Space, r *source) {
		n := int64(len(s.Squares))
		a := reflectionsIn(t, s, r.vectorsWithNorms(s, int(r.below(n+2))))
		b := reflectionsIn(t, s, r.vectorsWithNorms(s, int(r.below(n+2))))
		c := product(s.P, a, b)
		first, second := must[bool](t)(impl.HasSquareNorm(s, a)), must[bool](t)(impl.HasSquareNorm(s, b))
		returnsBool(t, first == second)(impl.HasSquareNorm(s, c))
		for _, square := range []bool{first, second} {
			if square {
				squares++
			} else {
				others++
			}
		}
		first, second = must[bool](t)(impl.IsProper(s, a)), must[bool](t)(impl.IsProper(s, b))
		returnsBool(t, first == second)(impl.IsProper(s, c))
		// The spinor norm of the opposite of the unit matrix is the discriminant.
		_, square := rootOf(s.P, must[int64](t)(impl.DiscriminantOf(s)))
		opposite := diagonal(slices.Repeat([]int64{s.P - 1}, len(s.Squares))...)
		returnsBool(t, square)(impl.HasSquareNorm(s, opposite))
		returnsBool(t, n%2 == 0)(impl.IsProper(s, opposite))
		returnsMatrix(t, nil)(impl.FixedVectors(s, opposite))
		returns(t, 2)(impl.OrthogonalOrder(s, opposite))
		norm := must[int64](t)(impl.SpinorNormOf(s, must[[]int64](t)(impl.VersorOfMatrix(s, c))))
		_, square = rootOf(s.P, norm)
		returnsBool(t, square)(impl.HasSquareNorm(s, c))
	})
	if squares < 500 || others < 500 {
		t.Errorf("%d spinor norms are squares, and %d are not", squares, others)
	}
}

// TestGreatOrders has the greatest spaces; orders there are up to some thousands.
func TestGreatOrders(t *testing.T) {
	t.Parallel()
	greatest := int64(0)
	for _, squares := range [][]int64{{1, 1, 1, 1, 1, 1}, {1, 1, 1, 1, 1, 2}} {
		s := space(13, squares...)
		var r source
		for range 60 {
			m := reflectionsIn(t, s, r.vectorsWithNorms(s, 6))
			order := must[int64](t)(impl.OrthogonalOrder(s, m))
			returns(t, orderOf(s.P, m))(order, impl.ErrNone)
			greatest = max(greatest, order)
		}
	}
	if greatest < 1001 {
		t.Errorf("the greatest order is %d", greatest)
	}
}

// TestOrdersDivide compares with the number of orthogonal matrices, and has all orders in some groups.
func TestOrdersDivide(t *testing.T) {
	t.Parallel()
	regularSpaces(func(s impl.Space, r *source) {
		m := reflectionsIn(t, s, r.vectorsWithNorms(s, len(s.Squares)))
		order := must[int64](t)(impl.OrthogonalOrder(s, m))
		if must[int64](t)(impl.CountOrthogonal(s))%order != 0 {
			t.Errorf("%v of %v has the order %d", m, s, order)
		}
		if order <= 1000 {
			returnsMatrix(t, unit(len(m)))(impl.PowerMatrix(s.P, m, order))
		}
	})
	// The reflections and rotations of a triangle, of a square and so on.
	for _, s := range []impl.Space{space(3, 1, 1), space(5, 1, 2), space(7, 1, 1), space(11, 1, 10), space(13, 1, 2)} {
		met, all := map[int64]int64{}, must[[][][]int64](t)(impl.AllOrthogonal(s))
		for _, m := range all {
			met[must[int64](t)(impl.OrthogonalOrder(s, m))]++
		}
		half := int64(len(all) / 2)
		for order := int64(1); order <= half; order++ {
			want := int64(0)
			for k := range half {
				if gcd(k, half) == half/order && half%order == 0 {
					want++
				}
			}
			if order == 2 {
				want += half
			}
			if met[order] != want {
				t.Errorf("%d matrices of %v have the order %d", met[order], s, order)
			}
		}
	}
}

func gcd(a int64, b int64) int64 {
	for b != 0 {
		a, b = b, a%b
	}
	return a
}

// TestCayleyTransformsAreProper makes them of matrices m with (m v, w) + (v, m w) = 0.
func TestCayleyTransformsAreProper(t *testing.T) {
	t.Parallel()
	made := 0
	regularSpaces(func(s impl.Space, r *source) {
		n := len(s.Squares)
		m, one := zeros(n, n), unit(n)
		for i := range n {
			for j := range i {
				a := r.below(s.P)
				m[i][j] = a * reciprocal(s.P, s.Squares[i]) % s.P
				m[j][i] = (s.P - a) * reciprocal(s.P, s.Squares[j]) % s.P
			}
		}
		sum := must[[][]int64](t)(impl.AddMatrices(s.P, one, m))
		opposite := must[[][]int64](t)(impl.ScaleMatrix(s.P, m, s.P-1))
		difference := must[[][]int64](t)(impl.AddMatrices(s.P, one, opposite))
		inverse, code := impl.InverseMatrix(s.P, sum)
		if code != impl.ErrNone {
			return
		}
		made++
		g := product(s.P, inverse, difference)
		returnsBool(t, true)(impl.IsOrthogonal(s, g))
		returnsBool(t, true)(impl.IsProper(s, g))
		list := must[[][]int64](t)(impl.DecomposeOrthogonal(s, g))
		if len(list)%2 != 0 {
			t.Errorf("%v of %v is the product of the reflections in %v", g, s, list)
		}
		checkMotion(t, s, list)
	})
	if made < 300 {
		t.Errorf("only %d Cayley transforms", made)
	}
}

// notOrthogonal are matrices of other sizes, lists that are no matrices, and matrices that change
// products of vectors.
func notOrthogonal(s impl.Space, r *source) [][][]int64 {
	n, p := len(s.Squares), s.P
	list := append(notMatrices(p), zeros(n, n), unit(n+1), r.matrix(p, 16, 16), unit(16), unit(17))
	list = append(list, append(unit(n), make([]int64, n)), append(unit(n), nil), unit(n)[:n-1])
	wide := flip(append(unit(n), make([]int64, n)))
	ragged := unit(n)
	ragged[n-1] = append(ragged[n-1], 0)
	short := unit(n)
	short[0] = short[0][:n-1]
	list = append(list, wide, ragged, short)
	for place := range n {
		for _, bad := range append(notNumbers(p), 0) {
			m := unit(n)
			m[place][place] = bad
			list = append(list, m)
		}
		m := unit(n)
		m[place][(place+1)%n] += p
		list = append(list, m)
		if n > 1 {
			m = unit(n)
			m[place][(place+1)%n] = 1 + r.below(p-1)
			list = append(list, m)
		}
	}
	if p > 3 {
		list = append(list, diagonal(slices.Repeat([]int64{2}, n)...))
	}
	return list
}

func TestNotOrthogonal(t *testing.T) {
	t.Parallel()
	for _, p := range primes {
		for n := 1; n <= 6; n++ {
			var r source
			for _, s := range []impl.Space{space(p, slices.Repeat([]int64{1}, n)...), space(p, slices.Repeat([]int64{p - 1}, n)...)} {
				for _, m := range notOrthogonal(s, &r) {
					checkNotOrthogonal(t, s, m)
				}
			}
		}
	}
	// Isometries to other spaces.
	checkNotOrthogonal(t, space(5, 1, 4), [][]int64{{0, 1}, {1, 0}})
	checkNotOrthogonal(t, space(5, 1, 4), diagonal(2, 3))
	// Where the squares are different, the rows of an orthogonal matrix are not the columns of one.
	s := space(7, 1, 3)
	m := must[[][]int64](t)(impl.ReflectionMatrix(s, []int64{1, 1}))
	returnsBool(t, true)(impl.IsOrthogonal(s, m))
	checkNotOrthogonal(t, s, flip(m))
}

// TestChangedMatrices changes one number, exchanges rows, and multiplies by numbers.
func TestChangedMatrices(t *testing.T) {
	t.Parallel()
	yes, no := 0, 0
	regularSpaces(func(s impl.Space, r *source) {
		n := int64(len(s.Squares))
		m := reflectionsIn(t, s, r.vectorsWithNorms(s, 3))
		changed, exchanged, scaled := cloneRows(m), cloneRows(m), cloneRows(m)
		i, j := r.below(n), r.below(n)
		changed[i][j] = (changed[i][j] + 1 + r.below(s.P-1)) % s.P
		exchanged[i], exchanged[j] = exchanged[j], exchanged[i]
		for row := range scaled {
			scaled[row] = multipleOf(s.P, 2, scaled[row])
		}
		for _, m := range [][][]int64{changed, exchanged, scaled} {
			if isOrthogonalMatrix(s, m) {
				yes++
				returnsBool(t, true)(impl.IsOrthogonal(s, m))
			} else {
				no++
				checkNotOrthogonal(t, s, m)
			}
		}
	})
	if yes < 100 || no < 500 {
		t.Errorf("%d matrices are orthogonal, and %d are not", yes, no)
	}
}

// TestGroupsThatAreNotRegular has one square that is 0, at each place, and more of them. What is wrong
// with multivectors and vectors is told before, and what is wrong with matrices behind it.
func TestGroupsThatAreNotRegular(t *testing.T) {
	t.Parallel()
	allSpaces(func(s impl.Space, r *source) {
		if regularOf(s) {
			return
		}
		n := len(s.Squares)
		bad, none := r.vector(s.P, n+1), slices.Repeat([]int64{1}, bladesOf(s)+1)
		for _, m := range [][][]int64{unit(n), zeros(n, n), r.matrix(s.P, n, n), unit(n + 1), {bad}, nil, {{-1}}, {{s.P}}, zeros(17, 17)} {
			for _, x := range [][]int64{blade(s, 0, 1), make([]int64, bladesOf(s)), r.vector(s.P, bladesOf(s))} {
				for _, u := range [][]int64{make([]int64, n), unit(n)[0], r.vector(s.P, n)} {
					for call, got := range callsOfGroups(s, m, x, u) {
						refuses(t, call, got, impl.ErrState)
					}
				}
			}
		}
		refuses(t, "MatrixOfVersor", ofMatrix(impl.MatrixOfVersor(s, none)), impl.ErrRange)
		refuses(t, "MatrixOfVersor", ofMatrix(impl.MatrixOfVersor(s, blade(s, 0, s.P))), impl.ErrRange)
		refuses(t, "ReflectionMatrix", ofMatrix(impl.ReflectionMatrix(s, bad)), impl.ErrRange)
		refuses(t, "ReflectionMatrix", ofMatrix(impl.ReflectionMatrix(s, slices.Repeat([]int64{-1}, n))), impl.ErrRange)
		u := space(s.P, append(slices.Clone(s.Squares[1:]), s.P)...)
		for call, got := range callsOfGroups(u, [][]int64{bad}, none, bad) {
			refuses(t, call, got, impl.ErrInvalid)
		}
	})
}

// TestGroupsOfNoSpaces gives other arguments that are right, and some that are wrong, too.
func TestGroupsOfNoSpaces(t *testing.T) {
	t.Parallel()
	for _, s := range notSpaces() {
		n := len(s.Squares)
		for _, length := range []int{0, 1 << min(n, 7)} {
			x := make([]int64, length)
			if length > 0 {
				x[0] = 1
			}
			for _, m := range [][][]int64{unit(min(n, 17)), nil, {{-1}}} {
				for _, u := range [][]int64{make([]int64, n), slices.Repeat([]int64{1}, n), {-1}, nil} {
					for call, got := range callsOfGroups(s, m, x, u) {
						refuses(t, call, got, impl.ErrInvalid)
					}
				}
			}
		}
	}
}

func TestMatricesOfNoMultivectors(t *testing.T) {
	t.Parallel()
	for _, p := range primes {
		for n := 1; n <= 6; n++ {
			for _, square := range []int64{0, 1} {
				s := space(p, slices.Repeat([]int64{square}, n)...)
				for _, bad := range notMultivectors(s) {
					refuses(t, "MatrixOfVersor", ofMatrix(impl.MatrixOfVersor(s, bad)), impl.ErrRange)
				}
				for _, bad := range notVectors(s) {
					refuses(t, "ReflectionMatrix", ofMatrix(impl.ReflectionMatrix(s, bad)), impl.ErrRange)
				}
			}
		}
	}
}

// rowsOfGroups are the results of the calls that return rows.
func rowsOfGroups(t *testing.T, s impl.Space, matrices [][][]int64, versors [][]int64, u []int64) map[string][][]int64 {
	t.Helper()
	rows := map[string][][]int64{
		"MatrixOfVersor":             must[[][]int64](t)(impl.MatrixOfVersor(s, versors[0])),
		"MatrixOfVersor of a number": must[[][]int64](t)(impl.MatrixOfVersor(s, versors[1])),
		"ReflectionMatrix":           must[[][]int64](t)(impl.ReflectionMatrix(s, u)),
	}
	for i, kind := range []string{" a product", " the unit matrix", " a column without difference"} {
		m := matrices[i]
		rows["DecomposeOrthogonal"+kind] = must[[][]int64](t)(impl.DecomposeOrthogonal(s, m))
		rows["VersorOfMatrix"+kind] = [][]int64{must[[]int64](t)(impl.VersorOfMatrix(s, m))}
		rows["FixedVectors"+kind] = must[[][]int64](t)(impl.FixedVectors(s, m))
	}
	if all, code := impl.AllOrthogonal(s); code == impl.ErrNone {
		rows["AllOrthogonal"] = slices.Concat(all...)
	}
	return rows
}

// TestGroupsAreNewMemory overwrites all results, and then calls everything again.
func TestGroupsAreNewMemory(t *testing.T) {
	t.Parallel()
	regularSpaces(func(kept impl.Space, r *source) {
		var g guard
		n := len(kept.Squares)
		s := impl.Space{P: kept.P, Squares: g.keep([][]int64{kept.Squares})[0]}
		u := g.keep(r.vectorsWithNorms(s, 1))[0]
		versors := g.keep([][]int64{r.versor(s, 3).x, blade(s, 0, s.P-1), make([]int64, bladesOf(s))})
		null := r.stepOf(t, s, 0, 2)
		matrices := [][][]int64{
			g.keep(reflectionsIn(t, s, r.vectorsWithNorms(s, 3))), g.keep(unit(n)), g.keep(reflectionsIn(t, s, null)), g.keep(zeros(n, n)),
		}
		before := map[string][][]int64{}
		for call, rows := range rowsOfGroups(t, s, matrices, versors, u) {
			g.check(t, call)
			before[call] = cloneRows(rows)
			overwrite(t, call, rows)
			g.check(t, "overwriting the result of "+call)
		}
		for call, rows := range rowsOfGroups(t, s, matrices, versors, u) {
			if !equalRows(rows, before[call]) {
				t.Errorf("%s of %v returns something else the second time", call, s)
			}
		}
		for _, m := range matrices {
			callsOfGroups(s, m, versors[2], u)
		}
		g.check(t, "a call that returns no rows")
	})
}

// TestListsOfMatricesAreNewMemory overwrites the lists of rows, too, up to their capacities.
func TestListsOfMatricesAreNewMemory(t *testing.T) {
	t.Parallel()
	for _, s := range append(smallGroups(), space(13, 6), space(5, 1, 2, 3)) {
		all := must[[][][]int64](t)(impl.AllOrthogonal(s))
		want := make([][][]int64, len(all))
		for i, m := range all {
			want[i] = cloneRows(m)
		}
		for i, m := range all {
			if !equalRows(m, want[i]) {
				t.Fatalf("the lists of rows of the matrices of %v share memory", s)
			}
			whole := m[:cap(m)]
			for j := range whole {
				whole[j] = nil
			}
		}
		again := must[[][][]int64](t)(impl.AllOrthogonal(s))
		if !slices.EqualFunc(again, want, equalRows) {
			t.Errorf("AllOrthogonal of %v returns something else the second time", s)
		}
	}
}

// TestNoGoroutineIsLeft waits for a while, since a goroutine that has closed its channel may still be about
// to end. It is not run beside other tests, whose goroutines it would count.
func TestNoGoroutineIsLeft(t *testing.T) {
	before := runtime.NumGoroutine()
	for _, s := range append(smallGroups(), space(5, 1, 1, 1), space(7, 1, 1, 1), space(13, 1, 1, 1, 1, 1, 1), space(5, 0), space(4, 1)) {
		impl.AllOrthogonal(s)
	}
	for range 1000 {
		if runtime.NumGoroutine() <= before {
			return
		}
		time.Sleep(time.Millisecond)
	}
	t.Errorf("%d goroutines instead of %d", runtime.NumGoroutine(), before)
}
