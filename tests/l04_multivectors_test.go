package tests

import (
	"math"
	"math/bits"
	"slices"
	"testing"

	"loop.example/g01124/impl"
)

// meeting is the product of two blades: a sign, the indices of the basis vectors that meet
// themselves, and the mask of what is left.
type meeting struct {
	sign    int64
	squares []int
	mask    int
}

// meet writes the basis vectors of two blades one behind the other, exchanges neighbours until they
// ascend, and takes out equal ones.
func meet(a int, b int) meeting {
	word := slices.Concat(indicesOf(a), indicesOf(b))
	m := meeting{sign: 1}
	for i := 0; i+1 < len(word); {
		switch {
		case word[i] < word[i+1]:
			i++
			continue
		case word[i] > word[i+1]:
			word[i], word[i+1] = word[i+1], word[i]
			m.sign = -m.sign
		default:
			m.squares = append(m.squares, word[i])
			word = slices.Delete(word, i, i+2)
		}
		i = max(i-1, 0)
	}
	for _, i := range word {
		m.mask |= 1 << i
	}
	return m
}

func indicesOf(mask int) []int {
	var list []int
	for i := range 6 {
		if mask>>i&1 == 1 {
			list = append(list, i)
		}
	}
	return list
}

var meetings = allMeetings()

func allMeetings() [64][64]meeting {
	var table [64][64]meeting
	for a := range table {
		for b := range table[a] {
			table[a][b] = meet(a, b)
		}
	}
	return table
}

// geometric is the sum of the products of all pairs of blades.
func geometric(s impl.Space, x []int64, y []int64) []int64 {
	z := make([]int64, len(x))
	for a := range x {
		for b := range y {
			m, term := meetings[a][b], x[a]*y[b]%s.P
			if term == 0 {
				continue
			}
			for _, i := range m.squares {
				term = term * s.Squares[i] % s.P
			}
			z[m.mask] = (z[m.mask] + (s.P+m.sign)*term) % s.P
		}
	}
	return z
}

func bladesOf(s impl.Space) int { return 1 << len(s.Squares) }

// blade is a number times the blade with a mask.
func blade(s impl.Space, mask int, factor int64) []int64 {
	x := make([]int64, bladesOf(s))
	x[mask] = factor
	return x
}

// vectorPart is the multivector with the numbers of v at the masks 1, 2, 4 and so on.
func vectorPart(s impl.Space, v []int64) []int64 {
	x := make([]int64, bladesOf(s))
	for i, place := range []int{1, 2, 4, 8, 16, 32}[:len(v)] {
		x[place] = v[i]
	}
	return x
}

// plus returns x and a multiple of y, added.
func plus(p int64, x []int64, factor int64, y []int64) []int64 {
	sum := make([]int64, len(x))
	for i := range x {
		sum[i] = (x[i] + (factor%p+p)*y[i]) % p
	}
	return sum
}

// someMultivectors are one with all coefficients, one with few, a vector, an even one, and one that
// has the greatest numbers.
func someMultivectors(s impl.Space, r *source) [][]int64 {
	size := bladesOf(s)
	few, even := make([]int64, size), r.vector(s.P, size)
	for range 2 {
		few[r.below(int64(size))] = r.below(s.P)
	}
	for mask := range even {
		if bits.OnesCount(uint(mask))%2 == 1 {
			even[mask] = 0
		}
	}
	vector := vectorPart(s, r.vector(s.P, len(s.Squares)))
	return [][]int64{r.vector(s.P, size), few, vector, even, slices.Repeat([]int64{s.P - 1}, size)}
}

// fewSpaces calls do with regular spaces, spaces of which all squares are 0, and others, of all
// primes and all n.
func fewSpaces(do func(s impl.Space, r *source)) {
	for _, p := range primes {
		var r source
		for n := 1; n <= 6; n++ {
			mixed := r.vector(p, n)
			mixed[r.below(int64(n))] = 0
			for _, squares := range [][]int64{make([]int64, n), slices.Repeat([]int64{1}, n), slices.Repeat([]int64{p - 1}, n), r.vector(p, n), mixed} {
				do(space(p, squares...), &r)
			}
		}
	}
}

func TestMultivectorsOfThePlane(t *testing.T) {
	t.Parallel()
	plane, e0, v := space(5, 1, 1), []int64{0, 1, 0, 0}, []int64{0, 3, 4, 0}
	returnsVector(t, v)(impl.VectorOf(plane, []int64{3, 4}))
	returnsVector(t, []int64{0, 0, 0, 1})(impl.BladeOf(plane, 3))
	returnsVector(t, []int64{3, 0, 0, 4})(impl.GeometricProduct(plane, e0, v))
	returnsVector(t, []int64{3, 0, 0, 1})(impl.GeometricProduct(plane, v, e0))
	returnsVector(t, []int64{0, 0, 0, 3})(impl.BracketOf(plane, e0, v))
	returnsVector(t, []int64{2, 3, 4, 0})(impl.AddMultivectors(plane, []int64{1, 2, 3, 4}, []int64{1, 1, 1, 1}))
	returnsVector(t, []int64{2, 4, 1, 3})(impl.ScaleMultivector(plane, []int64{1, 2, 3, 4}, 2))
	returnsVector(t, []int64{1, 2, 3, 1})(impl.ReverseOf(plane, []int64{1, 2, 3, 4}))
	returnsVector(t, []int64{1, 3, 2, 4})(impl.InvoluteOf(plane, []int64{1, 2, 3, 4}))
	returnsVector(t, []int64{1, 3, 2, 1})(impl.ConjugateOf(plane, []int64{1, 2, 3, 4}))
	returnsVector(t, []int64{0, 0, 0, 4})(impl.PowerOf(plane, []int64{0, 0, 0, 1}, 3))
	returnsVector(t, []int64{0, 3, 3, 0})(impl.InverseOf(plane, []int64{0, 1, 1, 0}))
	refuses(t, "InverseOf", ofVector(impl.InverseOf(plane, []int64{0, 1, 2, 0})), impl.ErrState)
	returns(t, 2)(impl.ScalarOf(plane, []int64{2, 1, 0, 3}))
	// With other squares e0 e1 times e0 is -2 e1, and e1 times e0 e1 is -3 e0.
	other := space(7, 2, 3)
	returnsVector(t, []int64{0, 0, 5, 0})(impl.GeometricProduct(other, []int64{0, 0, 0, 1}, []int64{0, 1, 0, 0}))
	returnsVector(t, []int64{0, 4, 0, 0})(impl.GeometricProduct(other, []int64{0, 0, 1, 0}, []int64{0, 0, 0, 1}))
	returnsVector(t, []int64{1, 0, 0, 0})(impl.GeometricProduct(other, []int64{0, 0, 0, 1}, []int64{0, 0, 0, 1}))
	// The algebra of one square, 2, and of one that is 0.
	returnsVector(t, []int64{1, 3})(impl.GeometricProduct(space(5, 2), []int64{1, 2}, []int64{3, 2}))
	returnsVector(t, []int64{3, 3})(impl.GeometricProduct(space(5, 0), []int64{1, 2}, []int64{3, 2}))
}

func TestIsMultivector(t *testing.T) {
	t.Parallel()
	allSpaces(func(s impl.Space, r *source) {
		for _, x := range append(someMultivectors(s, r), make([]int64, bladesOf(s))) {
			if !impl.IsMultivector(s, x) {
				t.Errorf("IsMultivector(%v, %v) has to be true", s, x)
			}
		}
	})
	fewSpaces(func(s impl.Space, r *source) {
		for _, x := range notMultivectors(s) {
			if impl.IsMultivector(s, x) {
				t.Errorf("IsMultivector(%v, %v) has to be false", s, x)
			}
		}
	})
	for _, s := range notSpaces() {
		for _, length := range []int{0, 1, 2, 4, 64, 128} {
			if impl.IsMultivector(s, make([]int64, length)) {
				t.Errorf("IsMultivector(%v, %d zeros) has to be false", s, length)
			}
		}
	}
}

// TestVectorsAndBlades makes each blade of basis vectors in ascending order, too.
func TestVectorsAndBlades(t *testing.T) {
	t.Parallel()
	allSpaces(func(s impl.Space, r *source) {
		for _, v := range append(unit(len(s.Squares)), r.vector(s.P, len(s.Squares)), make([]int64, len(s.Squares))) {
			returnsVector(t, vectorPart(s, v))(impl.VectorOf(s, v))
		}
	})
	fewSpaces(func(s impl.Space, r *source) {
		for mask := range bladesOf(s) {
			returnsVector(t, blade(s, mask, 1))(impl.BladeOf(s, int64(mask)))
			x := blade(s, 0, 1)
			for _, i := range indicesOf(mask) {
				e := must[[]int64](t)(impl.VectorOf(s, unit(len(s.Squares))[i]))
				x = must[[]int64](t)(impl.GeometricProduct(s, x, e))
			}
			returnsVector(t, blade(s, mask, 1))(x, impl.ErrNone)
		}
	})
}

func TestSumsAndMultiples(t *testing.T) {
	t.Parallel()
	allSpaces(func(s impl.Space, r *source) {
		zero := make([]int64, bladesOf(s))
		for _, x := range someMultivectors(s, r) {
			for _, y := range someMultivectors(s, r) {
				returnsVector(t, plus(s.P, x, 1, y))(impl.AddMultivectors(s, x, y))
			}
			returnsVector(t, x)(impl.AddMultivectors(s, x, zero))
			returnsVector(t, x)(impl.AddMultivectors(s, zero, x))
			returns(t, x[0])(impl.ScalarOf(s, x))
			for _, k := range []int64{0, 1, r.below(s.P), s.P - 1} {
				returnsVector(t, plus(s.P, zero, k, x))(impl.ScaleMultivector(s, x, k))
			}
		}
		returns(t, 0)(impl.ScalarOf(s, zero))
	})
	for _, p := range primes {
		for a := range p {
			for b := range p {
				for k := range p {
					returnsVector(t, []int64{a * k % p, b * k % p})(impl.ScaleMultivector(space(p, 1), []int64{a, b}, k))
				}
				returnsVector(t, []int64{(a + b) % p, 2 * b % p})(impl.AddMultivectors(space(p, 0), []int64{a, b}, []int64{b, b}))
				returns(t, a)(impl.ScalarOf(space(p, 2), []int64{a, b}))
			}
		}
	}
}

func TestProductsOfAllBlades(t *testing.T) {
	t.Parallel()
	fewSpaces(func(s impl.Space, r *source) {
		for a := range bladesOf(s) {
			for b := range bladesOf(s) {
				x, y := blade(s, a, 1), blade(s, b, 1+r.below(s.P-1))
				returnsVector(t, geometric(s, x, y))(impl.GeometricProduct(s, x, y))
			}
		}
		for i, square := range s.Squares {
			for k := range s.Squares {
				e, f := blade(s, 1<<i, 1), blade(s, 1<<k, 1)
				want := blade(s, 0, square)
				if i != k {
					other := must[[]int64](t)(impl.GeometricProduct(s, f, e))
					want = must[[]int64](t)(impl.ScaleMultivector(s, other, s.P-1))
				}
				returnsVector(t, want)(impl.GeometricProduct(s, e, f))
			}
		}
	})
}

func TestAllSmallProducts(t *testing.T) {
	t.Parallel()
	for _, s := range []impl.Space{space(3, 0), space(3, 1), space(3, 2), space(5, 3), space(7, 6), space(3, 1, 1), space(3, 2, 0)} {
		allVectors(s.P, bladesOf(s), func(x []int64) {
			allVectors(s.P, bladesOf(s), func(y []int64) {
				if z, code := impl.GeometricProduct(s, x, y); !slices.Equal(z, geometric(s, x, y)) || code != impl.ErrNone {
					t.Errorf("GeometricProduct(%v, %v, %v) = %v, %d", s, x, y, z, code)
				}
			})
		})
	}
}

// TestProducts tests that products are associative and distribute over sums, too.
func TestProducts(t *testing.T) {
	t.Parallel()
	allSpaces(func(s impl.Space, r *source) {
		one, zero := blade(s, 0, 1), make([]int64, bladesOf(s))
		times := func(x []int64, y []int64) []int64 { return must[[]int64](t)(impl.GeometricProduct(s, x, y)) }
		for i, x := range someMultivectors(s, r) {
			others := someMultivectors(s, r)
			y, z := others[r.below(5)], others[i]
			xy, yz := times(x, y), times(y, z)
			returnsVector(t, geometric(s, x, y))(xy, impl.ErrNone)
			returnsVector(t, times(x, yz))(impl.GeometricProduct(s, xy, z))
			returnsVector(t, plus(s.P, yz, 1, times(y, x)))(impl.GeometricProduct(s, y, plus(s.P, z, 1, x)))
			returnsVector(t, plus(s.P, yz, 1, times(x, z)))(impl.GeometricProduct(s, plus(s.P, y, 1, x), z))
			returnsVector(t, x)(impl.GeometricProduct(s, one, x))
			returnsVector(t, x)(impl.GeometricProduct(s, x, one))
			returnsVector(t, zero)(impl.GeometricProduct(s, zero, x))
			returnsVector(t, zero)(impl.GeometricProduct(s, x, zero))
			number := blade(s, 0, r.below(s.P))
			returnsVector(t, plus(s.P, zero, number[0], x))(impl.GeometricProduct(s, number, x))
			returnsVector(t, plus(s.P, zero, number[0], x))(impl.GeometricProduct(s, x, number))
		}
	})
}

// TestProductsOfThreeBlades has all blades, so that products are associative for all multivectors.
func TestProductsOfThreeBlades(t *testing.T) {
	t.Parallel()
	fewSpaces(func(s impl.Space, r *source) {
		if len(s.Squares) > 3 && (len(s.Squares) > 4 || s.P > 5) {
			return
		}
		for a := range bladesOf(s) {
			for b := range bladesOf(s) {
				ab := must[[]int64](t)(impl.GeometricProduct(s, blade(s, a, 1), blade(s, b, 1)))
				for c := range bladesOf(s) {
					bc := must[[]int64](t)(impl.GeometricProduct(s, blade(s, b, 1), blade(s, c, 1)))
					abc := must[[]int64](t)(impl.GeometricProduct(s, ab, blade(s, c, 1)))
					returnsVector(t, abc)(impl.GeometricProduct(s, blade(s, a, 1), bc))
				}
			}
		}
	})
}

func TestSquaresOfVectorsAreNorms(t *testing.T) {
	t.Parallel()
	allSpaces(func(s impl.Space, r *source) {
		for range 3 {
			v, w := r.vector(s.P, len(s.Squares)), r.vector(s.P, len(s.Squares))
			x, y := must[[]int64](t)(impl.VectorOf(s, v)), must[[]int64](t)(impl.VectorOf(s, w))
			norm := must[int64](t)(impl.NormOf(s, v))
			returnsVector(t, blade(s, 0, norm))(impl.GeometricProduct(s, x, x))
			returnsVector(t, blade(s, 0, norm))(impl.PowerOf(s, x, 2))
			xy, yx := must[[]int64](t)(impl.GeometricProduct(s, x, y)), must[[]int64](t)(impl.GeometricProduct(s, y, x))
			returnsVector(t, blade(s, 0, 2*pairing(s, v, w)%s.P))(impl.AddMultivectors(s, xy, yx))
		}
	})
}

// signsOfGrades are the signs of the reverse, of the involute and of the conjugate.
var signsOfGrades = [3][7]int64{{1, 1, -1, -1, 1, 1, -1}, {1, -1, 1, -1, 1, -1, 1}, {1, -1, -1, 1, 1, -1, -1}}

func turned(s impl.Space, kind int, x []int64) []int64 {
	y := make([]int64, len(x))
	for mask := range x {
		y[mask] = (s.P + signsOfGrades[kind][bits.OnesCount(uint(mask))]) * x[mask] % s.P
	}
	return y
}

func TestReversesInvolutesAndConjugates(t *testing.T) {
	t.Parallel()
	allSpaces(func(s impl.Space, r *source) {
		list := append(someMultivectors(s, r), make([]int64, bladesOf(s)))
		for mask := range bladesOf(s) {
			list = append(list, blade(s, mask, 1+r.below(s.P-1)))
		}
		for _, x := range list {
			returnsVector(t, turned(s, 0, x))(impl.ReverseOf(s, x))
			returnsVector(t, turned(s, 1, x))(impl.InvoluteOf(s, x))
			returnsVector(t, turned(s, 2, x))(impl.ConjugateOf(s, x))
			involute := must[[]int64](t)(impl.InvoluteOf(s, x))
			returnsVector(t, must[[]int64](t)(impl.ConjugateOf(s, x)))(impl.ReverseOf(s, involute))
		}
	})
}

// TestReversesOfProducts tests involutes and conjugates of products, too.
func TestReversesOfProducts(t *testing.T) {
	t.Parallel()
	allSpaces(func(s impl.Space, r *source) {
		times := func(x []int64, y []int64) []int64 { return must[[]int64](t)(impl.GeometricProduct(s, x, y)) }
		for i, x := range someMultivectors(s, r) {
			y := someMultivectors(s, r)[(i+int(r.below(2)))%5]
			reverses := [2][]int64{must[[]int64](t)(impl.ReverseOf(s, x)), must[[]int64](t)(impl.ReverseOf(s, y))}
			involutes := [2][]int64{must[[]int64](t)(impl.InvoluteOf(s, x)), must[[]int64](t)(impl.InvoluteOf(s, y))}
			conjugates := [2][]int64{must[[]int64](t)(impl.ConjugateOf(s, x)), must[[]int64](t)(impl.ConjugateOf(s, y))}
			returnsVector(t, times(reverses[1], reverses[0]))(impl.ReverseOf(s, times(x, y)))
			returnsVector(t, times(involutes[0], involutes[1]))(impl.InvoluteOf(s, times(x, y)))
			returnsVector(t, times(conjugates[1], conjugates[0]))(impl.ConjugateOf(s, times(x, y)))
		}
		forwards, backwards := blade(s, 0, 1), blade(s, 0, 1)
		for range 5 {
			v := vectorPart(s, r.vector(s.P, len(s.Squares)))
			forwards, backwards = times(forwards, v), times(v, backwards)
		}
		returnsVector(t, backwards)(impl.ReverseOf(s, forwards))
	})
}

// checkGrades compares the parts of each grade and the list of grades.
func checkGrades(t *testing.T, s impl.Space, x []int64) {
	t.Helper()
	var grades []int64
	even := true
	for k := range len(s.Squares) + 1 {
		part := make([]int64, len(x))
		for mask := range x {
			if len(indicesOf(mask)) == k {
				part[mask] = x[mask]
			}
		}
		returnsVector(t, part)(impl.GradePart(s, x, int64(k)))
		if !isZero(part) {
			grades = append(grades, int64(k))
			even = even && k%2 == 0
		}
	}
	returnsVector(t, grades)(impl.GradesOf(s, x))
	returnsBool(t, even)(impl.IsEven(s, x))
}

func TestGrades(t *testing.T) {
	t.Parallel()
	returnsVector(t, []int64{0, 2, 0, 0})(impl.GradePart(space(5, 1, 1), []int64{1, 2, 0, 4}, 1))
	returnsVector(t, []int64{1, 2})(impl.GradesOf(space(5, 1, 1), []int64{0, 2, 0, 4}))
	returnsVector(t, nil)(impl.GradesOf(space(5, 1, 1), []int64{0, 0, 0, 0}))
	returnsVector(t, []int64{0, 1})(impl.GradesOf(space(5, 0), []int64{4, 1}))
	returnsBool(t, true)(impl.IsEven(space(5, 1, 1), []int64{1, 0, 0, 4}))
	returnsBool(t, false)(impl.IsEven(space(5, 1, 1), []int64{1, 0, 1, 4}))
	returnsBool(t, true)(impl.IsEven(space(5, 0), []int64{0, 0}))
	allSpaces(func(s impl.Space, r *source) {
		for _, x := range append(someMultivectors(s, r), make([]int64, bladesOf(s))) {
			checkGrades(t, s, x)
		}
	})
	fewSpaces(func(s impl.Space, r *source) {
		for mask := range bladesOf(s) {
			checkGrades(t, s, blade(s, mask, 1+r.below(s.P-1)))
			x := blade(s, mask, 1)
			x[r.below(int64(len(x)))] = s.P - 1
			checkGrades(t, s, x)
		}
		even := someMultivectors(s, r)[3]
		returnsBool(t, true)(impl.IsEven(s, must[[]int64](t)(impl.GeometricProduct(s, even, even))))
	})
	allVectors(3, 8, func(x []int64) { checkGrades(t, space(3, 1, 0, 2), x) })
}

func TestBrackets(t *testing.T) {
	t.Parallel()
	returnsVector(t, []int64{0, 0, 0, 2})(impl.BracketOf(space(5, 1, 1), []int64{0, 1, 0, 0}, []int64{0, 0, 1, 0}))
	allSpaces(func(s impl.Space, r *source) {
		bracket := func(x []int64, y []int64) []int64 { return must[[]int64](t)(impl.BracketOf(s, x, y)) }
		zero := make([]int64, bladesOf(s))
		for i, x := range someMultivectors(s, r) {
			others := someMultivectors(s, r)
			y, z := others[r.below(5)], others[i]
			returnsVector(t, plus(s.P, geometric(s, x, y), -1, geometric(s, y, x)))(impl.BracketOf(s, x, y))
			returnsVector(t, plus(s.P, zero, -1, bracket(x, y)))(impl.BracketOf(s, y, x))
			returnsVector(t, zero)(impl.BracketOf(s, x, x))
			returnsVector(t, zero)(impl.BracketOf(s, x, zero))
			returnsVector(t, zero)(impl.BracketOf(s, x, blade(s, 0, r.below(s.P))))
			// The identity of Jacobi.
			sum := plus(s.P, bracket(x, bracket(y, z)), 1, bracket(y, bracket(z, x)))
			returnsVector(t, zero)(plus(s.P, sum, 1, bracket(z, bracket(x, y))), impl.ErrNone)
		}
		if len(s.Squares) == 1 {
			returnsVector(t, zero)(impl.BracketOf(s, r.vector(s.P, 2), r.vector(s.P, 2)))
		}
	})
}

// TestPowers tests all exponents, each power by the one with the exponent before it.
func TestPowers(t *testing.T) {
	t.Parallel()
	fewSpaces(func(s impl.Space, r *source) {
		list := append(someMultivectors(s, r), blade(s, 0, s.P-1))
		if len(s.Squares) > 4 {
			list = list[:2]
		}
		for _, x := range list {
			power := blade(s, 0, 1)
			for k := range int64(101) {
				if len(s.Squares) <= 4 || k < 5 || k > 98 {
					returnsVector(t, power)(impl.PowerOf(s, x, k))
				}
				power = geometric(s, power, x)
			}
		}
		zero := make([]int64, bladesOf(s))
		returnsVector(t, blade(s, 0, 1))(impl.PowerOf(s, zero, 0))
		returnsVector(t, zero)(impl.PowerOf(s, zero, 1))
		returnsVector(t, zero)(impl.PowerOf(s, zero, 100))
	})
}

func TestExponentsMasksAndGradesBehindTheLimits(t *testing.T) {
	t.Parallel()
	fewSpaces(func(s impl.Space, r *source) {
		x, n, size := r.vector(s.P, bladesOf(s)), int64(len(s.Squares)), int64(bladesOf(s))
		for _, k := range []int64{math.MinInt64, math.MinInt64 + 1, -1 << 32, -101, -100, -2, -1, 1 << 32, 1<<32 + 1, 1 << 62, math.MaxInt64} {
			refuses(t, "PowerOf", ofVector(impl.PowerOf(s, x, k)), impl.ErrRange)
			refuses(t, "BladeOf", ofVector(impl.BladeOf(s, k)), impl.ErrRange)
			refuses(t, "GradePart", ofVector(impl.GradePart(s, x, k)), impl.ErrRange)
		}
		for more := range int64(200) {
			refuses(t, "PowerOf", ofVector(impl.PowerOf(s, x, 101+more)), impl.ErrRange)
			refuses(t, "BladeOf", ofVector(impl.BladeOf(s, size+more)), impl.ErrRange)
			refuses(t, "GradePart", ofVector(impl.GradePart(s, x, n+1+more)), impl.ErrRange)
		}
		for _, bad := range notNumbers(s.P) {
			refuses(t, "ScaleMultivector", ofVector(impl.ScaleMultivector(s, x, bad)), impl.ErrRange)
			refuses(t, "ScaleMultivector", ofVector(impl.ScaleMultivector(s, make([]int64, size), bad)), impl.ErrRange)
		}
	})
}

// TestAllSmallInverses looks for the inverse among all multivectors.
func TestAllSmallInverses(t *testing.T) {
	t.Parallel()
	for _, p := range primes {
		for square := range p {
			checkAllInverses(t, space(p, square))
		}
	}
	allVectors(3, 2, func(squares []int64) { checkAllInverses(t, space(3, squares...)) })
}

func checkAllInverses(t *testing.T, s impl.Space) {
	t.Helper()
	one := blade(s, 0, 1)
	allVectors(s.P, bladesOf(s), func(x []int64) {
		var inverse []int64
		allVectors(s.P, bladesOf(s), func(y []int64) {
			if slices.Equal(geometric(s, x, y), one) && slices.Equal(geometric(s, y, x), one) {
				inverse = slices.Clone(y)
			}
		})
		if inverse == nil {
			refuses(t, "InverseOf", ofVector(impl.InverseOf(s, x)), impl.ErrState)
		} else {
			returnsVector(t, inverse)(impl.InverseOf(s, x))
		}
	})
}

// hasInverse uses that the products of x with the blades are independent exactly if there is one.
func hasInverse(t *testing.T, s impl.Space, x []int64) bool {
	t.Helper()
	var products [][]int64
	for mask := range bladesOf(s) {
		products = append(products, geometric(s, x, blade(s, mask, 1)))
	}
	return must[int64](t)(impl.Determinant(s.P, products)) != 0
}

func checkInverse(t *testing.T, s impl.Space, x []int64) {
	t.Helper()
	if !hasInverse(t, s, x) {
		refuses(t, "InverseOf", ofVector(impl.InverseOf(s, x)), impl.ErrState)
		return
	}
	y := must[[]int64](t)(impl.InverseOf(s, x))
	returnsVector(t, blade(s, 0, 1))(impl.GeometricProduct(s, x, y))
	returnsVector(t, blade(s, 0, 1))(impl.GeometricProduct(s, y, x))
}

func TestInverses(t *testing.T) {
	t.Parallel()
	allSpaces(func(s impl.Space, r *source) {
		if len(s.Squares) > 4 {
			return
		}
		for _, x := range someMultivectors(s, r) {
			checkInverse(t, s, x)
			// A vector v plus k has no inverse exactly if k k is the norm of v.
			v := vectorPart(s, r.vector(s.P, len(s.Squares)))
			for k := range s.P {
				checkInverse(t, s, plus(s.P, v, k, blade(s, 0, 1)))
			}
			checkInverse(t, s, geometric(s, x, plus(s.P, v, 1, blade(s, 0, 1))))
		}
		refuses(t, "InverseOf 0", ofVector(impl.InverseOf(s, make([]int64, bladesOf(s)))), impl.ErrState)
		for k := int64(1); k < s.P; k++ {
			quotient := must[int64](t)(impl.DivideNumbers(s.P, 1, k))
			returnsVector(t, blade(s, 0, quotient))(impl.InverseOf(s, blade(s, 0, k)))
		}
	})
}

// TestInversesThatAreKnown has products of vectors, and numbers with multiples of e0.
func TestInversesThatAreKnown(t *testing.T) {
	t.Parallel()
	allSpaces(func(s impl.Space, r *source) {
		n := len(s.Squares)
		if n > 4 {
			return
		}
		x, reverse, norms := blade(s, 0, 1), blade(s, 0, 1), int64(1)
		for range 4 {
			v := r.vector(s.P, n)
			x, reverse = geometric(s, x, vectorPart(s, v)), geometric(s, vectorPart(s, v), reverse)
			norms = norms * pairing(s, v, v) % s.P
			if norms == 0 {
				refuses(t, "InverseOf a product", ofVector(impl.InverseOf(s, x)), impl.ErrState)
				continue
			}
			quotient := must[int64](t)(impl.DivideNumbers(s.P, 1, norms))
			returnsVector(t, must[[]int64](t)(impl.ScaleMultivector(s, reverse, quotient)))(impl.InverseOf(s, x))
		}
		for k := range s.P {
			x, conjugate := blade(s, 0, 1), blade(s, 0, 1)
			x[1], conjugate[1] = k, (s.P-k)%s.P
			norm := (1 + (s.P-k)*k%s.P*s.Squares[0]) % s.P
			if norm == 0 {
				refuses(t, "InverseOf 1 + k e0", ofVector(impl.InverseOf(s, x)), impl.ErrState)
				continue
			}
			quotient := must[int64](t)(impl.DivideNumbers(s.P, 1, norm))
			returnsVector(t, must[[]int64](t)(impl.ScaleMultivector(s, conjugate, quotient)))(impl.InverseOf(s, x))
		}
	})
}

func TestInversesBehindTheLimit(t *testing.T) {
	t.Parallel()
	allSpaces(func(s impl.Space, r *source) {
		one := blade(s, 0, 1)
		if len(s.Squares) <= 4 {
			returnsVector(t, one)(impl.InverseOf(s, one))
			return
		}
		for _, x := range append(someMultivectors(s, r), one, make([]int64, bladesOf(s))) {
			refuses(t, "InverseOf", ofVector(impl.InverseOf(s, x)), impl.ErrLimit)
		}
	})
}

// callsOfMultivector are the calls with multivectors of a space, of which x is one.
func callsOfMultivector(s impl.Space, x []int64, good []int64) map[string]result {
	return map[string]result{
		"AddMultivectors first":       ofVector(impl.AddMultivectors(s, x, good)),
		"AddMultivectors second":      ofVector(impl.AddMultivectors(s, good, x)),
		"AddMultivectors both":        ofVector(impl.AddMultivectors(s, x, x)),
		"ScaleMultivector":            ofVector(impl.ScaleMultivector(s, x, 1)),
		"ScaleMultivector by 0":       ofVector(impl.ScaleMultivector(s, x, 0)),
		"ScaleMultivector no number":  ofVector(impl.ScaleMultivector(s, x, -1)),
		"GeometricProduct first":      ofVector(impl.GeometricProduct(s, x, good)),
		"GeometricProduct second":     ofVector(impl.GeometricProduct(s, good, x)),
		"GeometricProduct both":       ofVector(impl.GeometricProduct(s, x, x)),
		"GradePart":                   ofVector(impl.GradePart(s, x, 0)),
		"GradePart no grade":          ofVector(impl.GradePart(s, x, -1)),
		"GradesOf":                    ofVector(impl.GradesOf(s, x)),
		"ReverseOf":                   ofVector(impl.ReverseOf(s, x)),
		"InvoluteOf":                  ofVector(impl.InvoluteOf(s, x)),
		"ConjugateOf":                 ofVector(impl.ConjugateOf(s, x)),
		"IsEven":                      ofBool(impl.IsEven(s, x)),
		"BracketOf first":             ofVector(impl.BracketOf(s, x, good)),
		"BracketOf second":            ofVector(impl.BracketOf(s, good, x)),
		"BracketOf both":              ofVector(impl.BracketOf(s, x, x)),
		"PowerOf":                     ofVector(impl.PowerOf(s, x, 1)),
		"PowerOf 0":                   ofVector(impl.PowerOf(s, x, 0)),
		"PowerOf behind the limit":    ofVector(impl.PowerOf(s, x, 101)),
		"InverseOf":                   ofVector(impl.InverseOf(s, x)),
		"ScalarOf":                    ofNumber(impl.ScalarOf(s, x)),
		"VectorOf with too many":      ofVector(impl.VectorOf(s, make([]int64, 100))),
		"VectorOf with no numbers":    ofVector(impl.VectorOf(s, slices.Repeat([]int64{-1}, len(s.Squares)))),
		"BladeOf with too great mask": ofVector(impl.BladeOf(s, 1<<40)),
	}
}

// TestMultivectorsOfNoSpaces gives other arguments that are right, and some that are wrong, too.
func TestMultivectorsOfNoSpaces(t *testing.T) {
	t.Parallel()
	for _, s := range notSpaces() {
		for _, length := range []int{0, 4, 1 << min(len(s.Squares), 7)} {
			x := slices.Repeat([]int64{1}, length)
			for call, got := range callsOfMultivector(s, x, x) {
				refuses(t, call, got, impl.ErrInvalid)
			}
			refuses(t, "VectorOf", ofVector(impl.VectorOf(s, make([]int64, len(s.Squares)))), impl.ErrInvalid)
			refuses(t, "BladeOf", ofVector(impl.BladeOf(s, 0)), impl.ErrInvalid)
			refuses(t, "BladeOf", ofVector(impl.BladeOf(s, -1)), impl.ErrInvalid)
		}
	}
}

// notMultivectors have wrong numbers, or as many numbers as a multivector of no or another space.
func notMultivectors(s impl.Space) [][]int64 {
	var list [][]int64
	size := bladesOf(s)
	for _, length := range []int{0, 1, len(s.Squares), size / 2, size - 1, size + 1, size * 2, 64, 65, 1000} {
		if length != size {
			list = append(list, make([]int64, length), slices.Repeat([]int64{1}, length))
		}
	}
	for _, bad := range notNumbers(s.P) {
		for place := range size {
			list = append(list, blade(s, place, bad))
		}
	}
	return append(list, nil)
}

func TestNoMultivectors(t *testing.T) {
	t.Parallel()
	for _, p := range primes {
		for n := 1; n <= 6; n++ {
			for _, square := range []int64{0, 1} {
				s := space(p, slices.Repeat([]int64{square}, n)...)
				for _, bad := range notMultivectors(s) {
					for call, got := range callsOfMultivector(s, bad, blade(s, 0, 1)) {
						refuses(t, call, got, impl.ErrRange)
					}
				}
				for _, bad := range notVectors(s) {
					refuses(t, "VectorOf", ofVector(impl.VectorOf(s, bad)), impl.ErrRange)
				}
			}
		}
	}
}

// listsOfMultivectors are the results of the calls that return lists.
func listsOfMultivectors(t *testing.T, s impl.Space, v []int64, x []int64, y []int64) map[string][]int64 {
	t.Helper()
	n, zero := int64(len(s.Squares)), make([]int64, bladesOf(s))
	lists := map[string][]int64{
		"VectorOf":              must[[]int64](t)(impl.VectorOf(s, v)),
		"BladeOf":               must[[]int64](t)(impl.BladeOf(s, int64(bladesOf(s)-1))),
		"AddMultivectors":       must[[]int64](t)(impl.AddMultivectors(s, x, y)),
		"AddMultivectors 0":     must[[]int64](t)(impl.AddMultivectors(s, x, zero)),
		"AddMultivectors to 0":  must[[]int64](t)(impl.AddMultivectors(s, zero, y)),
		"ScaleMultivector":      must[[]int64](t)(impl.ScaleMultivector(s, x, s.P-1)),
		"ScaleMultivector by 1": must[[]int64](t)(impl.ScaleMultivector(s, x, 1)),
		"GeometricProduct":      must[[]int64](t)(impl.GeometricProduct(s, x, y)),
		"GeometricProduct by 1": must[[]int64](t)(impl.GeometricProduct(s, x, blade(s, 0, 1))),
		"GradePart":             must[[]int64](t)(impl.GradePart(s, x, n)),
		"GradePart of one part": must[[]int64](t)(impl.GradePart(s, y, 0)),
		"GradesOf":              must[[]int64](t)(impl.GradesOf(s, x)),
		"ReverseOf":             must[[]int64](t)(impl.ReverseOf(s, x)),
		"ReverseOf a number":    must[[]int64](t)(impl.ReverseOf(s, y)),
		"InvoluteOf":            must[[]int64](t)(impl.InvoluteOf(s, x)),
		"InvoluteOf a number":   must[[]int64](t)(impl.InvoluteOf(s, y)),
		"ConjugateOf":           must[[]int64](t)(impl.ConjugateOf(s, x)),
		"ConjugateOf a number":  must[[]int64](t)(impl.ConjugateOf(s, y)),
		"BracketOf":             must[[]int64](t)(impl.BracketOf(s, x, y)),
		"PowerOf 0":             must[[]int64](t)(impl.PowerOf(s, x, 0)),
		"PowerOf 1":             must[[]int64](t)(impl.PowerOf(s, x, 1)),
		"PowerOf 5":             must[[]int64](t)(impl.PowerOf(s, x, 5)),
	}
	if n <= 4 {
		lists["InverseOf"] = must[[]int64](t)(impl.InverseOf(s, y))
	}
	return lists
}

// TestMultivectorsAreNewMemory overwrites all results, and then calls everything again.
func TestMultivectorsAreNewMemory(t *testing.T) {
	t.Parallel()
	fewSpaces(func(kept impl.Space, r *source) {
		var g guard
		s := impl.Space{P: kept.P, Squares: g.keep([][]int64{kept.Squares})[0]}
		rows := g.keep([][]int64{r.vector(s.P, len(s.Squares)), slices.Repeat([]int64{s.P - 1}, bladesOf(s)), blade(s, 0, s.P-1)})
		v, x, y := rows[0], rows[1], rows[2]
		before := map[string][]int64{}
		for call, list := range listsOfMultivectors(t, s, v, x, y) {
			g.check(t, call)
			before[call] = slices.Clone(list)
			overwrite(t, call, [][]int64{list})
			g.check(t, "overwriting the result of "+call)
		}
		for call, list := range listsOfMultivectors(t, s, v, x, y) {
			if !slices.Equal(list, before[call]) {
				t.Errorf("%s of %v returns something else the second time", call, s)
			}
		}
		must[bool](t)(impl.IsEven(s, x))
		must[int64](t)(impl.ScalarOf(s, x))
		impl.IsMultivector(s, x)
		impl.InverseOf(s, x)
		g.check(t, "a call that returns no list")
	})
}
