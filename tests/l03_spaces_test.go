package tests

import (
	"math"
	"regexp"
	"slices"
	"strconv"
	"strings"
	"testing"

	"loop.example/g01124/impl"
)

func ofSpace(s impl.Space, code int64) result { return result{code, s.P == 0 && len(s.Squares) == 0} }

func space(p int64, squares ...int64) impl.Space {
	return impl.Space{P: p, Squares: slices.Clone(squares)}
}

func equalSpaces(s impl.Space, t impl.Space) bool {
	return s.P == t.P && slices.Equal(s.Squares, t.Squares)
}

// nonSquare returns a number that is not a square.
func nonSquare(p int64) int64 {
	if p == 7 {
		return 3
	}
	return 2
}

// someSpaces returns all spaces with n squares if they are few, and otherwise those of which all
// squares, all but one, two and so on are 1, the others being no squares of numbers or 0, and some
// that look random.
func someSpaces(p int64, n int, s *source) []impl.Space {
	var list []impl.Space
	if powerOf(p, n) <= 250 {
		allVectors(p, n, func(v []int64) { list = append(list, space(p, v...)) })
		return list
	}
	for ones := range n + 1 {
		for _, other := range []int64{0, nonSquare(p), p - 1} {
			squares := slices.Repeat([]int64{1}, n)
			for i := ones; i < n; i++ {
				squares[i] = other
			}
			list = append(list, space(p, squares...))
			slices.Reverse(squares)
			list = append(list, space(p, squares...))
		}
	}
	for range 10 {
		squares := s.vector(p, n)
		list = append(list, space(p, squares...))
		for i := range squares {
			squares[i] = 1 + s.below(p-1)
		}
		list = append(list, space(p, squares...))
	}
	return list
}

func regularOf(s impl.Space) bool { return !slices.Contains(s.Squares, 0) }

// allSpaces calls do with spaces of all primes and of 1 to MaxDim squares.
func allSpaces(do func(s impl.Space, r *source)) {
	for _, p := range primes {
		var r source
		for n := 1; n <= 6; n++ {
			for _, s := range someSpaces(p, n, &r) {
				do(s, &r)
			}
		}
	}
}

func pairing(s impl.Space, v []int64, w []int64) int64 {
	sum := int64(0)
	for i := range v {
		sum = (sum + v[i]*w[i]%s.P*s.Squares[i]) % s.P
	}
	return sum
}

// firstVector returns the lexicographically first vector that fits, or none.
func firstVector(s impl.Space, fits func(v []int64) bool) []int64 {
	v := make([]int64, len(s.Squares))
	for !fits(v) {
		i := len(v) - 1
		for i >= 0 && v[i] == s.P-1 {
			v[i] = 0
			i--
		}
		if i < 0 {
			return nil
		}
		v[i]++
	}
	return v
}

func isZero(v []int64) bool {
	return !slices.ContainsFunc(v, func(a int64) bool { return a != 0 })
}

// countsOf returns how many vectors have each norm, by the numbers of values of each square.
func countsOf(s impl.Space) []int64 {
	counts := make([]int64, s.P)
	counts[0] = 1
	for _, square := range s.Squares {
		values, sums := make([]int64, s.P), make([]int64, s.P)
		for a := range s.P {
			values[a*a%s.P*square%s.P]++
		}
		for a := range s.P {
			for b := range s.P {
				sums[(a+b)%s.P] += counts[a] * values[b]
			}
		}
		counts = sums
	}
	return counts
}

func TestLimitsOfSpaces(t *testing.T) {
	t.Parallel()
	if impl.MaxDim != 6 || impl.MaxVectors != 5000 {
		t.Errorf("the limits are %d and %d", impl.MaxDim, impl.MaxVectors)
	}
}

func TestIsSpace(t *testing.T) {
	t.Parallel()
	allSpaces(func(s impl.Space, r *source) {
		if !impl.IsSpace(s) {
			t.Errorf("IsSpace(%v) has to be true", s)
		}
		for _, bad := range notNumbers(s.P) {
			place := r.below(int64(len(s.Squares)))
			kept := s.Squares[place]
			s.Squares[place] = bad
			if impl.IsSpace(s) {
				t.Errorf("IsSpace(%v) has to be false", s)
			}
			s.Squares[place] = kept
		}
	})
	for _, s := range notSpaces() {
		if impl.IsSpace(s) {
			t.Errorf("IsSpace(%v) has to be false", s)
		}
	}
}

// notSpaces have other numbers than primes, too few or too many squares, or squares that are not
// numbers.
func notSpaces() []impl.Space {
	var list []impl.Space
	for _, p := range notPrimes() {
		list = append(list, space(p), space(p, 0), space(p, 1), space(p, 1, 2), space(p, 1, 1, 1, 1, 1, 1), space(p, -1))
	}
	for _, p := range primes {
		list = append(list, impl.Space{P: p}, impl.Space{P: p, Squares: []int64{}})
		for _, n := range []int{7, 8, 16, 64, 1000} {
			list = append(list, space(p, make([]int64, n)...), space(p, slices.Repeat([]int64{1}, n)...))
		}
		for n := 1; n <= 6; n++ {
			for _, bad := range notNumbers(p) {
				for place := range n {
					s := space(p, slices.Repeat([]int64{1}, n)...)
					s.Squares[place] = bad
					list = append(list, s)
				}
			}
		}
	}
	return list
}

// checkPairs tests the products and the norms of two vectors and of their sum.
func checkPairs(t *testing.T, s impl.Space, v []int64, w []int64) {
	t.Helper()
	product := pairing(s, v, w)
	returns(t, product)(impl.PairOf(s, v, w))
	returns(t, product)(impl.PairOf(s, w, v))
	normV, normW := must[int64](t)(impl.NormOf(s, v)), must[int64](t)(impl.NormOf(s, w))
	if normV != pairing(s, v, v) || normW != pairing(s, w, w) {
		t.Errorf("the norms of %v and %v in %v are %d and %d", v, w, s, normV, normW)
	}
	sum := make([]int64, len(v))
	for i := range sum {
		sum[i] = (v[i] + w[i]) % s.P
	}
	returns(t, (normV+normW+2*product)%s.P)(impl.NormOf(s, sum))
}

func TestPairsAndNorms(t *testing.T) {
	t.Parallel()
	plane := space(5, 1, 1)
	returns(t, 0)(impl.NormOf(plane, []int64{1, 2}))
	returns(t, 1)(impl.PairOf(plane, []int64{1, 2}, []int64{3, 4}))
	returns(t, 5)(impl.PairOf(space(7, 2, 3, 0), []int64{1, 2, 5}, []int64{3, 1, 6}))
	for _, p := range primes {
		for square := range p {
			for a := range p {
				for b := range p {
					returns(t, a*b*square%p)(impl.PairOf(space(p, square), []int64{a}, []int64{b}))
				}
				returns(t, a*a*square%p)(impl.NormOf(space(p, square), []int64{a}))
			}
		}
	}
	allSpaces(func(s impl.Space, r *source) {
		n := len(s.Squares)
		for range 3 {
			checkPairs(t, s, r.vector(s.P, n), r.vector(s.P, n))
		}
		for i, v := range unit(n) {
			returns(t, s.Squares[i])(impl.NormOf(s, v))
			for j, w := range unit(n) {
				checkPairs(t, s, v, w)
				if i != j {
					returns(t, 0)(impl.PairOf(s, v, w))
				}
			}
		}
		// The greatest numbers make the greatest sums.
		greatest := slices.Repeat([]int64{s.P - 1}, n)
		checkPairs(t, s, greatest, greatest)
		checkPairs(t, space(s.P, greatest...), greatest, greatest)
	})
}

func TestGramOf(t *testing.T) {
	t.Parallel()
	returnsMatrix(t, [][]int64{{1, 1}, {1, 2}})(impl.GramOf(space(5, 1, 1), [][]int64{{1, 0}, {1, 1}}))
	allSpaces(func(s impl.Space, r *source) {
		n := len(s.Squares)
		returnsMatrix(t, nil)(impl.GramOf(s, nil))
		returnsMatrix(t, nil)(impl.GramOf(s, [][]int64{}))
		returnsMatrix(t, diagonal(s.Squares...))(impl.GramOf(s, unit(n)))
		for _, length := range []int{1, 2, int(1 + r.below(16)), 16} {
			list := r.matrix(s.P, length, n)
			want := zeros(length, length)
			for i := range list {
				for j := range list {
					want[i][j] = pairing(s, list[i], list[j])
				}
			}
			returnsMatrix(t, want)(impl.GramOf(s, list))
		}
	})
}

func TestDiscriminantsAndRegularity(t *testing.T) {
	t.Parallel()
	returns(t, 3)(impl.DiscriminantOf(space(7, 2, 3, 4)))
	allSpaces(func(s impl.Space, r *source) {
		want := int64(1)
		for _, square := range s.Squares {
			want = want * square % s.P
		}
		returns(t, want)(impl.DiscriminantOf(s))
		returnsBool(t, want != 0)(impl.IsRegular(s))
		returnsBool(t, regularOf(s))(impl.IsRegular(s))
	})
}

// checkOrthogonal tests that a result is a reduced basis of orthogonal vectors, and that these are
// as many as there can be, by the rank of the equations.
func checkOrthogonal(t *testing.T, s impl.Space, list [][]int64) {
	t.Helper()
	n := len(s.Squares)
	basis := must[[][]int64](t)(impl.OrthogonalTo(s, list))
	equations := zeros(1, n)
	for _, v := range list {
		equation := make([]int64, n)
		for i := range v {
			equation[i] = v[i] * s.Squares[i] % s.P
		}
		equations = append(equations, equation)
		for _, w := range basis {
			if len(w) != n || pairing(s, v, w) != 0 {
				t.Errorf("OrthogonalTo(%v, %v) = %v", s, list, basis)
			}
		}
	}
	rank := len(must[[][]int64](t)(impl.SpanBasis(s.P, equations[1:])))
	if !isReduced(s.P, basis) || len(basis) != n-rank {
		t.Errorf("OrthogonalTo(%v, %v) = %v, and the rank is %d", s, list, basis, rank)
	}
	if powerOf(s.P, n) > 400 {
		return
	}
	orthogonal := map[string]bool{}
	allVectors(s.P, n, func(v []int64) {
		isOther := func(w []int64) bool { return pairing(s, v, w) != 0 }
		if !slices.ContainsFunc(list, isOther) {
			orthogonal[key(v)] = true
		}
	})
	span := spanOf(s.P, basis, n)
	if len(span) != len(orthogonal) {
		t.Errorf("OrthogonalTo(%v, %v) = %v; there are %d vectors", s, list, basis, len(orthogonal))
	}
	for k := range span {
		if !orthogonal[k] {
			t.Errorf("OrthogonalTo(%v, %v) = %v", s, list, basis)
		}
	}
}

func TestOrthogonalTo(t *testing.T) {
	t.Parallel()
	returnsMatrix(t, [][]int64{{1, 2}})(impl.OrthogonalTo(space(5, 1, 1), [][]int64{{1, 2}}))
	returnsMatrix(t, [][]int64{{1, 1}})(impl.OrthogonalTo(space(7, 2, 1), [][]int64{{1, 5}}))
	returnsMatrix(t, [][]int64{{1, 0, 1}, {0, 1, 0}})(impl.OrthogonalTo(space(5, 2, 0, 1), [][]int64{{1, 3, 3}, {0, 4, 0}}))
	allSpaces(func(s impl.Space, r *source) {
		n := len(s.Squares)
		returnsMatrix(t, unit(n))(impl.OrthogonalTo(s, nil))
		returnsMatrix(t, unit(n))(impl.OrthogonalTo(s, [][]int64{}))
		returnsMatrix(t, unit(n))(impl.OrthogonalTo(s, zeros(1, n)))
		returnsMatrix(t, unit(n))(impl.OrthogonalTo(s, zeros(16, n)))
		var zeroPlaces [][]int64
		for i, square := range s.Squares {
			if square == 0 {
				zeroPlaces = append(zeroPlaces, unit(n)[i])
			}
		}
		returnsMatrix(t, zeroPlaces)(impl.OrthogonalTo(s, unit(n)))
		v := r.vector(s.P, n)
		checkOrthogonal(t, s, [][]int64{v})
		checkOrthogonal(t, s, [][]int64{v, v, make([]int64, n)})
		checkOrthogonal(t, s, r.matrix(s.P, 1+n/2, n))
		checkOrthogonal(t, s, r.matrixOfRank(s.P, 16, n, int(r.below(int64(n)+1))))
	})
}

func TestIsotropicVector(t *testing.T) {
	t.Parallel()
	returnsVector(t, []int64{1, 2})(impl.IsotropicVector(space(5, 1, 1)))
	returnsVector(t, []int64{0, 1})(impl.IsotropicVector(space(5, 1, 0)))
	returnsVector(t, []int64{0, 0, 0, 1, 1, 1})(impl.IsotropicVector(space(3, 1, 1, 1, 1, 1, 1)))
	refuses(t, "IsotropicVector", ofVector(impl.IsotropicVector(space(3, 1, 1))), impl.ErrNotFound)
	allSpaces(func(s impl.Space, r *source) {
		want := firstVector(s, func(v []int64) bool { return !isZero(v) && pairing(s, v, v) == 0 })
		if want == nil {
			refuses(t, "IsotropicVector", ofVector(impl.IsotropicVector(s)), impl.ErrNotFound)
		} else {
			returnsVector(t, want)(impl.IsotropicVector(s))
		}
		if len(s.Squares) >= 3 && want == nil {
			t.Errorf("no vector of %v is isotropic", s)
		}
		if regularOf(s) {
			returnsBool(t, want != nil)(must[int64](t)(impl.WittIndex(s)) != 0, impl.ErrNone)
		}
	})
}

// isotropicDimension adds vectors to a space of vectors with the norm 0 as long as there is one. A
// vector that can be added can be made 0 at the first places of the others.
func isotropicDimension(s impl.Space) int64 {
	var list [][]int64
	var places []int
	for {
		v := firstVector(s, func(v []int64) bool {
			for i, w := range list {
				if v[places[i]] != 0 || pairing(s, v, w) != 0 {
					return false
				}
			}
			return pairing(s, v, v) == 0 && !isZero(v)
		})
		if v == nil {
			return int64(len(list))
		}
		list = append(list, v)
		places = append(places, slices.IndexFunc(v, func(a int64) bool { return a != 0 }))
	}
}

// TestWittIndex goes through all vectors of one regular space of each kind. That an index depends
// only on the kind is tested by the numbers of vectors with the norm 0, which tell it.
func TestWittIndex(t *testing.T) {
	t.Parallel()
	returns(t, 2)(impl.WittIndex(space(3, 1, 1, 1, 1)))
	returns(t, 1)(impl.WittIndex(space(5, 1, 1)))
	returns(t, 0)(impl.WittIndex(space(7, 1, 1)))
	returns(t, 1)(impl.WittIndex(space(7, 1, 6)))
	returns(t, 2)(impl.WittIndex(space(3, 1, 1, 1, 1, 1, 1)))
	for _, p := range primes {
		indexes := map[[2]int64]int64{}
		for n := 1; n <= 6; n++ {
			for _, last := range []int64{1, nonSquare(p)} {
				s := space(p, append(slices.Repeat([]int64{1}, n-1), last)...)
				want := isotropicDimension(s)
				returns(t, want)(impl.WittIndex(s))
				indexes[[2]int64{int64(n), countsOf(s)[0]}] = want
			}
		}
		checkWittIndexes(t, p, indexes)
	}
}

func checkWittIndexes(t *testing.T, p int64, indexes map[[2]int64]int64) {
	t.Helper()
	var r source
	for n := 1; n <= 6; n++ {
		list := someSpaces(p, n, &r)
		allVectors(2, n, func(v []int64) {
			squares := make([]int64, n)
			for i := range squares {
				squares[i] = []int64{1, nonSquare(p)}[v[i]]
			}
			list = append(list, space(p, squares...))
		})
		for _, s := range list {
			if !regularOf(s) {
				refuses(t, "WittIndex", ofNumber(impl.WittIndex(s)), impl.ErrState)
				continue
			}
			want, known := indexes[[2]int64{int64(n), countsOf(s)[0]}]
			if !known {
				t.Fatalf("the number of vectors of %v with the norm 0 is not known", s)
			}
			returns(t, want)(impl.WittIndex(s))
		}
	}
}

// TestAllNorms compares numbers and lists of vectors of each norm with all vectors.
func TestAllNorms(t *testing.T) {
	t.Parallel()
	returns(t, 9)(impl.CountVectors(space(5, 1, 1), 0))
	returnsMatrix(t, [][]int64{{0, 1}, {0, 2}, {1, 0}, {2, 0}})(impl.VectorsOfNorm(space(3, 1, 1), 1))
	returnsMatrix(t, [][]int64{{0}})(impl.VectorsOfNorm(space(5, 2), 0))
	returnsMatrix(t, nil)(impl.VectorsOfNorm(space(5, 2), 1))
	returnsMatrix(t, nil)(impl.VectorsOfNorm(space(5, 0, 0), 4))
	allSpaces(func(s impl.Space, r *source) {
		n := len(s.Squares)
		if powerOf(s.P, n) > 5000 {
			return
		}
		lists := make([][][]int64, s.P)
		allVectors(s.P, n, func(v []int64) {
			c := pairing(s, v, v)
			lists[c] = append(lists[c], slices.Clone(v))
		})
		for c, list := range lists {
			returns(t, int64(len(list)))(impl.CountVectors(s, int64(c)))
			// The lists are too long to be printed.
			if got := must[[][]int64](t)(impl.VectorsOfNorm(s, int64(c))); !equalRows(got, list) {
				t.Errorf("VectorsOfNorm(%v, %d) has %d vectors, and is not what it has to be, with %d", s, c, len(got), len(list))
			}
		}
	})
}

func TestNumbersOfVectors(t *testing.T) {
	t.Parallel()
	allSpaces(func(s impl.Space, r *source) {
		counts, sum := countsOf(s), int64(0)
		for c := range s.P {
			count := must[int64](t)(impl.CountVectors(s, c))
			if count != counts[c] {
				t.Errorf("CountVectors(%v, %d) = %d; it has to be %d", s, c, count, counts[c])
			}
			sum += count
		}
		if size := int64(powerOf(s.P, len(s.Squares))); sum != size {
			t.Errorf("the numbers of vectors of %v are together %d; they have to be %d", s, sum, size)
		}
	})
	for _, s := range []impl.Space{space(13, 1, 2, 3, 4, 5, 6), space(11, 10, 0, 7, 1, 1, 3), space(7, 1, 1, 1, 1, 1, 1)} {
		counts := make([]int64, s.P)
		allVectors(s.P, len(s.Squares), func(v []int64) { counts[pairing(s, v, v)]++ })
		for c, count := range counts {
			returns(t, count)(impl.CountVectors(s, int64(c)))
		}
	}
	for _, p := range primes {
		for n := 1; n <= 6; n++ {
			returns(t, int64(powerOf(p, n)))(impl.CountVectors(space(p, make([]int64, n)...), 0))
			returns(t, 0)(impl.CountVectors(space(p, make([]int64, n)...), 1))
		}
	}
}

func TestVectorsOfGreatSpaces(t *testing.T) {
	t.Parallel()
	for _, p := range primes {
		for n := 1; n <= 6; n++ {
			for _, square := range []int64{0, 1, p - 1} {
				s := space(p, slices.Repeat([]int64{square}, n)...)
				for c := range p {
					if powerOf(p, n) > 5000 {
						refuses(t, "VectorsOfNorm", ofMatrix(impl.VectorsOfNorm(s, c)), impl.ErrLimit)
					} else {
						must[[][]int64](t)(impl.VectorsOfNorm(s, c))
					}
				}
			}
		}
	}
	if list := must[[][]int64](t)(impl.VectorsOfNorm(space(5, 0, 0, 0, 0, 0), 0)); len(list) != 3125 {
		t.Errorf("there are %d of 3125 vectors", len(list))
	}
}

// keepsNorms is what an isometry has to do, tested with the products of its columns.
func keepsNorms(s impl.Space, u impl.Space, m [][]int64) bool {
	for i, v := range flip(m) {
		for j, w := range flip(m) {
			want := int64(0)
			if i == j {
				want = s.Squares[i]
			}
			if pairing(u, v, w) != want {
				return false
			}
		}
	}
	return true
}

// allTargets are spaces to which all matrices are tested.
func allTargets(p int64, n int) []impl.Space {
	var list []impl.Space
	allVectors(p, n, func(v []int64) {
		kinds := []int64{0, 1, nonSquare(p)}
		if p <= 7 || !slices.ContainsFunc(v, func(a int64) bool { return !slices.Contains(kinds, a) }) {
			list = append(list, space(p, v...))
		}
	})
	return list
}

// TestAllSmallIsometries goes through all matrices, column by column. The squares of the space that
// a matrix can be an isometry from are the norms of its columns.
func TestAllSmallIsometries(t *testing.T) {
	t.Parallel()
	for _, size := range [][2]int{{3, 1}, {3, 2}, {3, 3}, {5, 1}, {5, 2}, {7, 1}, {7, 2}, {11, 1}, {11, 2}, {13, 1}, {13, 2}} {
		p, n := int64(size[0]), size[1]
		for _, u := range allTargets(p, n) {
			first := map[string][][]int64{}
			allMatrices(p, n, n, func(columns [][]int64) {
				m, squares := flip(columns), make([]int64, n)
				for i, v := range columns {
					squares[i] = pairing(u, v, v)
				}
				s := space(p, squares...)
				want := determinantOf(p, m) != 0 && keepsNorms(s, u, m)
				if got, code := impl.IsIsometry(s, u, m); got != want || code != impl.ErrNone {
					t.Errorf("IsIsometry(%v, %v, %v) = %v, %d", s, u, m, got, code)
				}
				if k := key(squares); want && first[k] == nil {
					first[k] = m
				}
			})
			checkIsometries(t, u, first)
		}
	}
}

// checkIsometries compares what is found for all spaces with their first isometries to u, by their
// squares.
func checkIsometries(t *testing.T, u impl.Space, first map[string][][]int64) {
	t.Helper()
	allVectors(u.P, len(u.Squares), func(squares []int64) {
		s, want := space(u.P, squares...), first[key(squares)]
		got, code := impl.AreIsometric(s, u)
		if got != (want != nil) || code != impl.ErrNone {
			t.Errorf("AreIsometric(%v, %v) = %v, %d; there is %v", s, u, got, code, want)
		}
		m, code := impl.IsometryOf(s, u)
		switch {
		case !regularOf(s) || !regularOf(u):
			refuses(t, "IsometryOf", ofMatrix(m, code), impl.ErrState)
		case want == nil:
			refuses(t, "IsometryOf", ofMatrix(m, code), impl.ErrNotFound)
		default:
			returnsMatrix(t, want)(m, code)
		}
	})
}

// TestAreIsometric uses that spaces are isometric exactly if each norm has as many vectors in both.
func TestAreIsometric(t *testing.T) {
	t.Parallel()
	returnsBool(t, true)(impl.AreIsometric(space(5, 1, 1), space(5, 4, 1)))
	returnsBool(t, false)(impl.AreIsometric(space(5, 1, 1), space(5, 2, 1)))
	returnsBool(t, true)(impl.AreIsometric(space(7, 0, 3, 5), space(7, 1, 1, 0)))
	returnsBool(t, true)(impl.AreIsometric(space(3, 0, 0, 0, 0, 0, 0), space(3, 0, 0, 0, 0, 0, 0)))
	returnsBool(t, false)(impl.AreIsometric(space(3, 0, 1), space(3, 0, 0)))
	for _, p := range primes {
		var r source
		for n := 1; n <= 6; n++ {
			list := someSpaces(p, n, &r)
			var counts [][]int64
			for _, s := range list {
				counts = append(counts, countsOf(s))
			}
			for i, s := range list {
				for j, u := range list {
					returnsBool(t, slices.Equal(counts[i], counts[j]))(impl.AreIsometric(s, u))
				}
			}
		}
	}
}

func TestSpacesOfDifferentKinds(t *testing.T) {
	t.Parallel()
	for _, p := range primes {
		for _, q := range primes {
			for n := 1; n <= 6; n++ {
				for k := 1; k <= 6; k++ {
					if p == q && n == k {
						continue
					}
					for _, ones := range [][2]int64{{1, 1}, {1, 2}, {2, 1}, {2, 2}} {
						s := space(p, slices.Repeat([]int64{ones[0]}, n)...)
						u := space(q, slices.Repeat([]int64{ones[1]}, k)...)
						returnsBool(t, false)(impl.AreIsometric(s, u))
						refuses(t, "IsometryOf", ofMatrix(impl.IsometryOf(s, u)), impl.ErrNotFound)
						for _, m := range [][][]int64{unit(n), unit(k), zeros(n, k), zeros(k, n)} {
							returnsBool(t, false)(impl.IsIsometry(s, u, m))
						}
					}
					s, u := space(p, make([]int64, n)...), space(q, make([]int64, k)...)
					returnsBool(t, false)(impl.AreIsometric(s, u))
					returnsBool(t, false)(impl.IsIsometry(s, u, unit(n)))
					returnsBool(t, false)(impl.IsIsometry(s, u, unit(k)))
				}
			}
		}
	}
}

// firstIsometry tries all columns in lexicographic order, and takes back those that cannot be
// continued.
func firstIsometry(s impl.Space, u impl.Space, columns [][]int64) [][]int64 {
	n := len(s.Squares)
	if len(columns) == n {
		return columns
	}
	var found [][]int64
	firstVector(u, func(v []int64) bool {
		if pairing(u, v, v) != s.Squares[len(columns)] {
			return false
		}
		isOther := func(w []int64) bool { return pairing(u, v, w) != 0 }
		if slices.ContainsFunc(columns, isOther) {
			return false
		}
		found = firstIsometry(s, u, append(columns[:len(columns):len(columns)], slices.Clone(v)))
		return found != nil
	})
	return found
}

func TestIsometryOf(t *testing.T) {
	t.Parallel()
	returnsMatrix(t, [][]int64{{0, 2}, {1, 0}})(impl.IsometryOf(space(5, 1, 1), space(5, 4, 1)))
	refuses(t, "IsometryOf", ofMatrix(impl.IsometryOf(space(5, 1, 1), space(5, 2, 1))), impl.ErrNotFound)
	for _, p := range primes {
		var r source
		for n := 1; n <= 6; n++ {
			var list []impl.Space
			for _, s := range someSpaces(p, n, &r) {
				if regularOf(s) {
					list = append(list, s)
				}
			}
			for i, s := range list {
				for _, u := range []impl.Space{s, list[(i+1)%len(list)], list[r.below(int64(len(list)))]} {
					checkIsometryOf(t, s, u, &r)
				}
			}
		}
	}
}

func checkIsometryOf(t *testing.T, s impl.Space, u impl.Space, r *source) {
	t.Helper()
	n := len(s.Squares)
	switch {
	case !slices.Equal(countsOf(s), countsOf(u)):
		refuses(t, "IsometryOf", ofMatrix(impl.IsometryOf(s, u)), impl.ErrNotFound)
	case powerOf(s.P, n) > 5000:
		refuses(t, "IsometryOf", ofMatrix(impl.IsometryOf(s, u)), impl.ErrLimit)
	default:
		m := must[[][]int64](t)(impl.IsometryOf(s, u))
		if want := flip(firstIsometry(s, u, nil)); !equalRows(m, want) {
			t.Errorf("IsometryOf(%v, %v) = %v; it has to be %v", s, u, m, want)
		}
		returnsBool(t, true)(impl.IsIsometry(s, u, m))
		for range 3 {
			v, w := r.vector(s.P, n), r.vector(s.P, n)
			returns(t, pairing(s, v, w))(impl.PairOf(u, apply(s.P, m, v), apply(s.P, m, w)))
		}
	}
}

// reflection returns the matrix that leads v to v less twice the product of v and a vector, divided
// by its norm, times this vector. It keeps all norms, also in a space that is not regular.
func reflection(t *testing.T, s impl.Space, along []int64) [][]int64 {
	t.Helper()
	columns := unit(len(s.Squares))
	for i := range columns {
		twice := 2 * pairing(s, columns[i], along) % s.P
		factor := must[int64](t)(impl.DivideNumbers(s.P, twice, pairing(s, along, along)))
		for j := range along {
			columns[i][j] = (columns[i][j] + (s.P-factor)*along[j]) % s.P
		}
	}
	return flip(columns)
}

// otherForm returns an isometric space, and an isometry to it that multiplies the basis vectors by
// numbers and exchanges them.
func otherForm(t *testing.T, s impl.Space, r *source) (impl.Space, [][]int64) {
	t.Helper()
	n := len(s.Squares)
	u, m := space(s.P, s.Squares...), zeros(n, n)
	shift := int(r.below(int64(n)))
	for i, square := range s.Squares {
		factor, place := 1+r.below(s.P-1), (i+shift)%n
		m[place][i] = factor
		u.Squares[place] = must[int64](t)(impl.DivideNumbers(s.P, square, factor*factor%s.P))
	}
	return u, m
}

func TestIsometriesAreProducts(t *testing.T) {
	t.Parallel()
	allSpaces(func(s impl.Space, r *source) {
		n := len(s.Squares)
		u, m := otherForm(t, s, r)
		returnsBool(t, true)(impl.AreIsometric(s, u))
		for range 2 * n {
			if along := r.vector(s.P, n); pairing(s, along, along) != 0 {
				m = product(s.P, m, reflection(t, s, along))
			}
		}
		returnsBool(t, true)(impl.IsIsometry(s, u, m))
		returnsBool(t, true)(impl.IsIsometry(u, s, must[[][]int64](t)(impl.InverseMatrix(s.P, m))))
		for range 5 {
			i, j, change := r.below(int64(n)), r.below(int64(n)), 1+r.below(s.P-1)
			m[i][j] = (m[i][j] + change) % s.P
			want := keepsNorms(s, u, m) && determinantOf(s.P, m) != 0
			returnsBool(t, want)(impl.IsIsometry(s, u, m))
			m[i][j] = (m[i][j] + s.P - change) % s.P
		}
		returnsBool(t, true)(impl.IsIsometry(s, s, unit(n)))
		returnsBool(t, false)(impl.IsIsometry(s, s, zeros(n, n)))
	})
}

func TestIsometriesOfSpacesThatAreNotRegular(t *testing.T) {
	t.Parallel()
	for _, p := range primes {
		s := space(p, 0, 1)
		returnsBool(t, true)(impl.IsIsometry(s, s, [][]int64{{p - 1, 1}, {0, 1}}))
		returnsBool(t, false)(impl.IsIsometry(s, s, [][]int64{{0, 0}, {0, 1}}))
		returnsBool(t, false)(impl.IsIsometry(s, s, [][]int64{{0, 1}, {0, 1}}))
		returnsBool(t, false)(impl.IsIsometry(s, s, [][]int64{{1, 0}, {1, 1}}))
		returnsBool(t, true)(impl.IsIsometry(s, space(p, 1, 0), [][]int64{{0, 1}, {1, 0}}))
		returnsBool(t, false)(impl.IsIsometry(space(p, 0), space(p, 0), [][]int64{{0}}))
		var r source
		for n := 1; n <= 6; n++ {
			zero := space(p, make([]int64, n)...)
			returnsBool(t, true)(impl.IsIsometry(zero, zero, r.regular(p, n)))
			returnsBool(t, false)(impl.IsIsometry(zero, zero, r.matrixOfRank(p, n, n, n-1)))
		}
	}
}

func TestIsIsometryOfNoMatrices(t *testing.T) {
	t.Parallel()
	for _, p := range primes {
		for n := 1; n <= 6; n++ {
			for _, square := range []int64{0, 1} {
				s := space(p, slices.Repeat([]int64{square}, n)...)
				for _, m := range notMatrices(p) {
					returnsBool(t, false)(impl.IsIsometry(s, s, m))
				}
				for rows := 1; rows <= 7; rows++ {
					for columns := 1; columns <= 7; columns++ {
						m := zeros(rows, columns)
						for i := range min(rows, columns) {
							m[i][i] = 1
						}
						returnsBool(t, rows == n && columns == n)(impl.IsIsometry(s, s, m))
					}
				}
				for _, bad := range notNumbers(p) {
					m := unit(n)
					m[n-1][0] = bad
					returnsBool(t, false)(impl.IsIsometry(s, s, m))
				}
				// These have the remainders of an isometry.
				m := unit(n)
				m[0][0] = p + 1
				returnsBool(t, false)(impl.IsIsometry(s, s, m))
				m[0][0] = -1
				returnsBool(t, false)(impl.IsIsometry(s, s, m))
			}
		}
	}
}

// spaceText is made of the texts that are written out for the numbers.
func spaceText(s impl.Space) string {
	words := []string{strconv.FormatInt(s.P, 10) + ":"}
	for _, square := range s.Squares {
		words = append(words, textsOf(s.P)[square])
	}
	return strings.Join(words, " ")
}

func checkSpaceText(t *testing.T, s impl.Space) {
	t.Helper()
	text, code := impl.SpaceText(s)
	if text != spaceText(s) || code != impl.ErrNone {
		t.Errorf("SpaceText(%v) = %q, %d", s, text, code)
	}
	parsed, code := impl.ParseSpace(text)
	if !equalSpaces(parsed, s) || code != impl.ErrNone {
		t.Errorf("ParseSpace(%q) = %v, %d", text, parsed, code)
	}
}

func TestTextsOfSpaces(t *testing.T) {
	t.Parallel()
	if text, code := impl.SpaceText(space(5, 1, 1)); text != "5: 1 1" || code != impl.ErrNone {
		t.Errorf("SpaceText of the plane = %q, %d", text, code)
	}
	if text, code := impl.SpaceText(space(13, 12, 6, 7, 0, 1, 2)); text != "13: -1 6 -6 0 1 2" || code != impl.ErrNone {
		t.Errorf("SpaceText = %q, %d", text, code)
	}
	if s, code := impl.ParseSpace("7: 1 -1 3"); !equalSpaces(s, space(7, 1, 6, 3)) || code != impl.ErrNone {
		t.Errorf("ParseSpace = %v, %d", s, code)
	}
	allSpaces(func(s impl.Space, r *source) { checkSpaceText(t, s) })
	for _, p := range primes {
		for n := 1; n <= 3; n++ {
			allVectors(p, n, func(v []int64) { checkSpaceText(t, space(p, v...)) })
		}
	}
}

// textsOfSpaces says in another way than the program what texts of spaces are.
var textsOfSpaces = regexp.MustCompile(`^(3:( 0| -?1){1,6}|5:( 0| -?[12]){1,6}|7:( 0| -?[1-3]){1,6}|11:( 0| -?[1-5]){1,6}|13:( 0| -?[1-6]){1,6})$`)

func checkParseSpace(t *testing.T, text string) {
	t.Helper()
	s, code := impl.ParseSpace(text)
	if !textsOfSpaces.MatchString(text) {
		refuses(t, "ParseSpace of "+strconv.Quote(text), ofSpace(s, code), impl.ErrSyntax)
		return
	}
	if code != impl.ErrNone || spaceText(s) != text {
		t.Errorf("ParseSpace(%q) = %v, %d", text, s, code)
	}
}

// TestParseSpaceAcceptsOnlyTexts tests all texts of at most five of some bytes, alone and behind
// the beginnings of texts.
func TestParseSpaceAcceptsOnlyTexts(t *testing.T) {
	t.Parallel()
	list := []string{""}
	for range 5 {
		for _, text := range list {
			checkParseSpace(t, text)
			for _, start := range []string{"5:", "5: 1", "13: -1 0 0 0 ", "3: 1 1 1 1 1", "7: 1 1 1 1 1 1"} {
				checkParseSpace(t, start+text)
			}
		}
		var longer []string
		for _, text := range list {
			for _, b := range []byte("0135: -+") {
				longer = append(longer, text+string(b))
			}
		}
		list = longer
	}
	for _, text := range list {
		checkParseSpace(t, text)
	}
}

// TestParseSpaceOfChangedTexts changes, leaves out and puts in single bytes.
func TestParseSpaceOfChangedTexts(t *testing.T) {
	t.Parallel()
	bytes := " :-+0123456789\n\t\x00\xff_.xe"
	allSpaces(func(s impl.Space, r *source) {
		text := spaceText(s)
		if len(s.Squares) < 5 && r.below(8) != 0 {
			return
		}
		for place := range len(text) + 1 {
			for i := range len(bytes) {
				checkParseSpace(t, text[:place]+bytes[i:i+1]+text[place:])
				if place < len(text) {
					checkParseSpace(t, text[:place]+bytes[i:i+1]+text[place+1:])
				}
			}
			checkParseSpace(t, text[:place])
			checkParseSpace(t, text[place:])
			checkParseSpace(t, text+text[:place])
			if place < len(text) {
				checkParseSpace(t, text[:place]+text[place+1:])
			}
		}
	})
}

func TestParseSpaceRefusesOtherTexts(t *testing.T) {
	t.Parallel()
	for _, text := range []string{
		"", "7", "7:", "7: ", "7:  ", "4: 1", "7:1", "7: 4", "7: 1  1", "7: 1 ", " 7: 1", "7 : 1", "7; 1", "7 1", ": 1", ":", " ",
		"07: 1", "+7: 1", "-7: 1", "7.0: 1", "0x7: 1", "7_: 1", "1: 0", "2: 1", "9: 1", "17: 1", "0: 0", "4294967303: 1", "18446744073709551623: 1",
		"5: 1,1", "5: 1, 1", "5: {1 1}", "5: 01", "5: +1", "5: -0", "5: 3", "5: 4", "5: -3", "5: 6", "5: 1\t1", "5:\t1", "5:\n1", "5: 1\n", "\n5: 1", "5: 1\r", "5: 1\x00",
		"5: -", "5: - 1", "5: --1", "5: 1-1", "5: 1 -", "5: a", "5:: 1", "5: : 1", "5: 1 : 1", "5: 1: 1", "5: 1 5: 1", "\uff15: 1", "5: \uff11", "5:\u00a01",
		"5: 1 1 1 1 1 1 1", "5: 1 1 1 1 1 1 ", "5: 1 1 1 1 1 1 1 1", "5: 1 1 1 1 1 1 x", "5: 0 0 0 0 0 0 0 0 0 0 0 0 0 0 0 0 0",
		"5:" + strings.Repeat(" 1", 100000), "5: 1" + strings.Repeat(" ", 100000), strings.Repeat("5", 100000) + ": 1", strings.Repeat(":", 100000),
	} {
		refuses(t, "ParseSpace of "+strconv.Quote(text[:min(len(text), 100)]), ofSpace(impl.ParseSpace(text)), impl.ErrSyntax)
	}
}

// callsOfSpace are all calls with a space; other arguments are right for two squares, and wrong in
// all other ways.
func callsOfSpace(s impl.Space) map[string]result {
	v, list, good := []int64{1, 0}, [][]int64{{1, 0}, {0, 1}}, space(5, 1, 1)
	return map[string]result{
		"PairOf":                  ofNumber(impl.PairOf(s, v, v)),
		"PairOf no vectors":       ofNumber(impl.PairOf(s, nil, []int64{-1})),
		"NormOf":                  ofNumber(impl.NormOf(s, v)),
		"NormOf no vector":        ofNumber(impl.NormOf(s, nil)),
		"GramOf":                  ofMatrix(impl.GramOf(s, list)),
		"GramOf none":             ofMatrix(impl.GramOf(s, nil)),
		"GramOf no vectors":       ofMatrix(impl.GramOf(s, zeros(17, 17))),
		"DiscriminantOf":          ofNumber(impl.DiscriminantOf(s)),
		"IsRegular":               ofBool(impl.IsRegular(s)),
		"OrthogonalTo":            ofMatrix(impl.OrthogonalTo(s, list)),
		"OrthogonalTo none":       ofMatrix(impl.OrthogonalTo(s, nil)),
		"OrthogonalTo no vectors": ofMatrix(impl.OrthogonalTo(s, zeros(17, 17))),
		"IsotropicVector":         ofVector(impl.IsotropicVector(s)),
		"WittIndex":               ofNumber(impl.WittIndex(s)),
		"CountVectors":            ofNumber(impl.CountVectors(s, 0)),
		"CountVectors no number":  ofNumber(impl.CountVectors(s, -1)),
		"AreIsometric first":      ofBool(impl.AreIsometric(s, good)),
		"AreIsometric second":     ofBool(impl.AreIsometric(good, s)),
		"AreIsometric both":       ofBool(impl.AreIsometric(s, s)),
		"IsometryOf first":        ofMatrix(impl.IsometryOf(s, good)),
		"IsometryOf second":       ofMatrix(impl.IsometryOf(good, s)),
		"IsometryOf both":         ofMatrix(impl.IsometryOf(s, s)),
		"IsometryOf to 0":         ofMatrix(impl.IsometryOf(s, space(5, 0))),
		"IsometryOf from 0":       ofMatrix(impl.IsometryOf(space(5, 0), s)),
		"IsIsometry first":        ofBool(impl.IsIsometry(s, good, unit(2))),
		"IsIsometry second":       ofBool(impl.IsIsometry(good, s, unit(2))),
		"IsIsometry both":         ofBool(impl.IsIsometry(s, s, unit(2))),
		"IsIsometry no matrix":    ofBool(impl.IsIsometry(s, good, nil)),
		"IsIsometry no matrix 2":  ofBool(impl.IsIsometry(good, s, zeros(17, 17))),
		"VectorsOfNorm":           ofMatrix(impl.VectorsOfNorm(s, 0)),
		"VectorsOfNorm no number": ofMatrix(impl.VectorsOfNorm(s, -1)),
		"SpaceText":               ofText(impl.SpaceText(s)),
	}
}

func TestNoSpaces(t *testing.T) {
	t.Parallel()
	for _, s := range notSpaces() {
		for call, got := range callsOfSpace(s) {
			refuses(t, call, got, impl.ErrInvalid)
		}
	}
}

// notVectors have wrong numbers, or as many numbers as a vector of another space.
func notVectors(s impl.Space) [][]int64 {
	var list [][]int64
	n := len(s.Squares)
	for _, length := range []int{0, n - 1, n + 1, 6, 7, 16, 17, 64, 1000} {
		if length != n {
			list = append(list, make([]int64, length))
		}
	}
	for _, bad := range notNumbers(s.P) {
		for place := range n {
			v := make([]int64, n)
			v[place] = bad
			list = append(list, v)
		}
	}
	return append(list, nil)
}

func TestNoVectors(t *testing.T) {
	t.Parallel()
	for _, p := range primes {
		for n := 1; n <= 6; n++ {
			for _, square := range []int64{0, 1} {
				s := space(p, slices.Repeat([]int64{square}, n)...)
				v := make([]int64, n)
				for _, bad := range notVectors(s) {
					refuses(t, "PairOf", ofNumber(impl.PairOf(s, bad, v)), impl.ErrRange)
					refuses(t, "PairOf", ofNumber(impl.PairOf(s, v, bad)), impl.ErrRange)
					refuses(t, "PairOf", ofNumber(impl.PairOf(s, bad, bad)), impl.ErrRange)
					refuses(t, "NormOf", ofNumber(impl.NormOf(s, bad)), impl.ErrRange)
					for length := range 17 {
						for _, place := range []int{0, length / 2, length} {
							list := slices.Insert(zeros(length, n), place, bad)
							refuses(t, "GramOf", ofMatrix(impl.GramOf(s, list)), impl.ErrRange)
							refuses(t, "OrthogonalTo", ofMatrix(impl.OrthogonalTo(s, list)), impl.ErrRange)
						}
					}
				}
				for length := 15; length <= 40; length++ {
					if list := zeros(length, n); length <= 16 {
						returnsMatrix(t, zeros(length, length))(impl.GramOf(s, list))
						returnsMatrix(t, unit(n))(impl.OrthogonalTo(s, list))
					} else {
						refuses(t, "GramOf", ofMatrix(impl.GramOf(s, list)), impl.ErrRange)
						refuses(t, "OrthogonalTo", ofMatrix(impl.OrthogonalTo(s, list)), impl.ErrRange)
					}
				}
			}
		}
	}
}

// TestNoNorms has spaces with more than MaxVectors vectors, too: numbers are checked first.
func TestNoNorms(t *testing.T) {
	t.Parallel()
	for _, p := range primes {
		for n := 1; n <= 6; n++ {
			for _, square := range []int64{0, 1} {
				s := space(p, slices.Repeat([]int64{square}, n)...)
				for _, bad := range append(notNumbers(p), math.MinInt64+1, -p+1) {
					refuses(t, "CountVectors", ofNumber(impl.CountVectors(s, bad)), impl.ErrRange)
					refuses(t, "VectorsOfNorm", ofMatrix(impl.VectorsOfNorm(s, bad)), impl.ErrRange)
				}
			}
		}
	}
}

// TestIsometryOfOrder has spaces that would be refused for other reasons behind the first one, too.
func TestIsometryOfOrder(t *testing.T) {
	t.Parallel()
	for _, p := range primes {
		for _, q := range primes {
			for n := 1; n <= 6; n++ {
				for place := range n {
					for k := 1; k <= 6; k++ {
						s, u := space(p, slices.Repeat([]int64{1}, n)...), space(q, slices.Repeat([]int64{1}, k)...)
						s.Squares[place] = 0
						refuses(t, "IsometryOf", ofMatrix(impl.IsometryOf(s, u)), impl.ErrState)
						refuses(t, "IsometryOf", ofMatrix(impl.IsometryOf(u, s)), impl.ErrState)
						refuses(t, "IsometryOf", ofMatrix(impl.IsometryOf(s, s)), impl.ErrState)
						refuses(t, "WittIndex", ofNumber(impl.WittIndex(s)), impl.ErrState)
					}
				}
			}
		}
		for n := 1; n <= 6; n++ {
			s, u := space(p, slices.Repeat([]int64{1}, n)...), space(p, slices.Repeat([]int64{1}, n)...)
			u.Squares[n-1] = nonSquare(p)
			refuses(t, "IsometryOf", ofMatrix(impl.IsometryOf(s, u)), impl.ErrNotFound)
			refuses(t, "IsometryOf", ofMatrix(impl.IsometryOf(u, s)), impl.ErrNotFound)
			if powerOf(p, n) > 5000 {
				refuses(t, "IsometryOf", ofMatrix(impl.IsometryOf(s, s)), impl.ErrLimit)
				refuses(t, "IsometryOf", ofMatrix(impl.IsometryOf(u, u)), impl.ErrLimit)
			} else {
				must[[][]int64](t)(impl.IsometryOf(s, s))
			}
		}
	}
}

// rowsOfSpaces are the results of the calls that return lists.
func rowsOfSpaces(t *testing.T, s impl.Space, u impl.Space, list [][]int64) map[string][][]int64 {
	t.Helper()
	last := s.P - 1
	return map[string][][]int64{
		"GramOf":               must[[][]int64](t)(impl.GramOf(s, list)),
		"GramOf of one":        must[[][]int64](t)(impl.GramOf(s, list[:1])),
		"GramOf of units":      must[[][]int64](t)(impl.GramOf(s, unit(len(s.Squares)))),
		"OrthogonalTo":         must[[][]int64](t)(impl.OrthogonalTo(s, list[:1])),
		"OrthogonalTo many":    must[[][]int64](t)(impl.OrthogonalTo(s, list)),
		"OrthogonalTo none":    must[[][]int64](t)(impl.OrthogonalTo(s, nil)),
		"IsometryOf":           must[[][]int64](t)(impl.IsometryOf(s, u)),
		"IsometryOf to itself": must[[][]int64](t)(impl.IsometryOf(u, u)),
		"VectorsOfNorm 0":      must[[][]int64](t)(impl.VectorsOfNorm(s, 0)),
		"VectorsOfNorm":        must[[][]int64](t)(impl.VectorsOfNorm(u, last)),
		"IsotropicVector":      {must[[]int64](t)(impl.IsotropicVector(s))},
		"ParseSpace":           {must[impl.Space](t)(impl.ParseSpace(spaceText(s))).Squares},
	}
}

func cloneRows(rows [][]int64) [][]int64 {
	copies := make([][]int64, len(rows))
	for i, row := range rows {
		copies[i] = slices.Clone(row)
	}
	return copies
}

// TestResultsOfSpacesAreNewMemory overwrites all results, and then calls everything again.
func TestResultsOfSpacesAreNewMemory(t *testing.T) {
	t.Parallel()
	for _, p := range primes {
		var r source
		for n := 3; powerOf(p, n) <= 5000 && n <= 6; n++ {
			var g guard
			s := impl.Space{P: p, Squares: g.keep([][]int64{slices.Repeat([]int64{p - 1}, n)})[0]}
			other, m := otherForm(t, s, &r)
			u := impl.Space{P: p, Squares: g.keep([][]int64{other.Squares})[0]}
			list, m := g.keep(r.matrix(p, 5, n)), g.keep(m)
			before := map[string][][]int64{}
			for call, rows := range rowsOfSpaces(t, s, u, list) {
				g.check(t, call)
				before[call] = cloneRows(rows)
				overwrite(t, call, rows)
				g.check(t, "overwriting the result of "+call)
			}
			for call, rows := range rowsOfSpaces(t, s, u, list) {
				if !equalRows(rows, before[call]) {
					t.Errorf("%s of %v returns something else the second time", call, s)
				}
			}
			must[int64](t)(impl.PairOf(s, list[0], list[1]))
			must[int64](t)(impl.NormOf(s, list[0]))
			must[int64](t)(impl.DiscriminantOf(s))
			must[int64](t)(impl.WittIndex(s))
			must[int64](t)(impl.CountVectors(s, 1))
			must[bool](t)(impl.IsRegular(s))
			must[bool](t)(impl.AreIsometric(s, u))
			returnsBool(t, true)(impl.IsIsometry(s, u, m))
			must[string](t)(impl.SpaceText(s))
			impl.IsSpace(s)
			g.check(t, "a call that returns no rows")
		}
	}
}

// TestSpacesThatAreNotRegularAreKept has squares that are 0 among others, and behind them.
func TestSpacesThatAreNotRegularAreKept(t *testing.T) {
	t.Parallel()
	for _, p := range primes {
		var g guard
		s := impl.Space{P: p, Squares: g.keep([][]int64{{0, 1, 0, 2}})[0]}
		u := impl.Space{P: p, Squares: g.keep([][]int64{{1, 0, 2, 0}})[0]}
		returnsBool(t, true)(impl.AreIsometric(s, u))
		returnsBool(t, false)(impl.IsRegular(s))
		returns(t, 0)(impl.DiscriminantOf(s))
		returnsVector(t, []int64{0, 0, 1, 0})(impl.IsotropicVector(s))
		refuses(t, "IsometryOf", ofMatrix(impl.IsometryOf(s, u)), impl.ErrState)
		returnsBool(t, true)(impl.IsIsometry(s, u, [][]int64{{0, 1, 0, 0}, {1, 0, 0, 0}, {0, 0, 0, 1}, {0, 0, 1, 0}}))
		must[int64](t)(impl.CountVectors(s, 0))
		g.check(t, "a call with a space that is not regular")
	}
}
