package tests

import (
	"math"
	"slices"
	"testing"

	"loop.example/g01124/impl"
)

func doubling(p int64, steps ...int64) impl.Doubling { return impl.Doubling{P: p, Steps: steps} }

func placesOf(d impl.Doubling) int { return 1 << len(d.Steps) }

// one has a number at one place, and 0 elsewhere.
func one(d impl.Doubling, place int, value int64) []int64 {
	x := make([]int64, placesOf(d))
	x[place] = value
	return x
}

// star is the conjugate, by its definition.
func star(p int64, x []int64) []int64 {
	half := len(x) / 2
	if half == 0 {
		return slices.Clone(x)
	}
	return append(star(p, x[:half]), multipleOf(p, -1, x[half:])...)
}

// doubled is the product, by its definition.
func doubled(d impl.Doubling, x []int64, y []int64) []int64 {
	if isZero(x) || isZero(y) {
		return make([]int64, len(x))
	}
	if len(d.Steps) == 0 {
		return []int64{x[0] * y[0] % d.P}
	}
	last, half := len(d.Steps)-1, len(x)/2
	times := func(x []int64, y []int64) []int64 { return doubled(doubling(d.P, d.Steps[:last]...), x, y) }
	a, b, c, e := x[:half], x[half:], y[:half], y[half:]
	first := plus(d.P, times(a, c), d.Steps[last], times(star(d.P, e), b))
	return append(first, plus(d.P, times(e, a), 1, times(b, star(d.P, c)))...)
}

// normNumbers are the numbers of the norm: with each step they come again, times its opposite.
func normNumbers(d impl.Doubling) []int64 {
	numbers := []int64{1}
	for _, step := range d.Steps {
		numbers = append(numbers, multipleOf(d.P, -step, numbers)...)
	}
	return numbers
}

func normIn(d impl.Doubling, x []int64) int64 {
	return pairing(space(d.P, normNumbers(d)...), x, x)
}

// someDoublings are all with this number of steps if they are few, and otherwise those whose steps are 1 and
// p - 1, those with the same step everywhere, and some that look random.
func someDoublings(p int64, steps int, r *source) []impl.Doubling {
	var list []impl.Doubling
	if powerOf(p-1, steps) <= 150 {
		allVectors(p-1, steps, func(v []int64) { list = append(list, doubling(p, plus(p, v, 1, slices.Repeat([]int64{1}, steps))...)) })
		return list
	}
	for signs := range 1 << steps {
		d := doubling(p, slices.Repeat([]int64{1}, steps)...)
		for i := range steps {
			if signs>>i&1 == 1 {
				d.Steps[i] = p - 1
			}
		}
		list = append(list, d)
	}
	for step := int64(2); step < p-1; step++ {
		list = append(list, doubling(p, slices.Repeat([]int64{step}, steps)...))
	}
	for range 10 {
		list = append(list, doubling(p, plus(p, r.vector(p-1, steps), 1, slices.Repeat([]int64{1}, steps))...))
	}
	return list
}

// allDoublings calls do with doublings of all primes and of 0 to MaxSteps steps.
func allDoublings(do func(d impl.Doubling, r *source)) {
	for _, p := range primes {
		var r source
		for steps := range 5 {
			for _, d := range someDoublings(p, steps, &r) {
				do(d, &r)
			}
		}
	}
}

// elements are 0, the unit, one with the greatest numbers, two that look random, the second with the trace 0,
// a multiple of one of the basis, and one with the norm 0.
func (r *source) elements(d impl.Doubling) [][]int64 {
	n := placesOf(d)
	pure := r.vector(d.P, n)
	pure[0] = 0
	list := [][]int64{make([]int64, n), one(d, 0, 1), slices.Repeat([]int64{d.P - 1}, n), r.vector(d.P, n), pure}
	return append(list, one(d, int(r.below(int64(n))), 1+r.below(d.P-1)), r.isotropic(d))
}

// isotropic has the norm 0. It is not 0 if it is found soon.
func (r *source) isotropic(d impl.Doubling) []int64 {
	for range 10 * d.P {
		if x := r.vector(d.P, placesOf(d)); normIn(d, x) == 0 && !isZero(x) {
			return x
		}
	}
	return make([]int64, placesOf(d))
}

// timesIn multiplies with the program.
func timesIn(t *testing.T, d impl.Doubling) func(x []int64, y []int64) []int64 {
	return func(x []int64, y []int64) []int64 {
		t.Helper()
		return must[[]int64](t)(impl.DoubleTimes(d, x, y))
	}
}

func TestMaxSteps(t *testing.T) {
	t.Parallel()
	if impl.MaxSteps != 4 {
		t.Errorf("MaxSteps is %d", impl.MaxSteps)
	}
}

// notDoublings have no prime, too many steps, or a step that is 0 or no number, at each place.
func notDoublings() []impl.Doubling {
	var list []impl.Doubling
	for _, p := range notPrimes() {
		list = append(list, doubling(p), doubling(p, 1), doubling(p, p-1), doubling(p, 1, 1), doubling(p, 2, 1, 1, 2), doubling(p, 0), doubling(p, 1, 1, 1, 1, 1))
	}
	for _, p := range primes {
		for _, steps := range []int{5, 6, 8, 16, 64, 65, 1000} {
			list = append(list, doubling(p, slices.Repeat([]int64{1}, steps)...), doubling(p, slices.Repeat([]int64{p - 1}, steps)...), doubling(p, make([]int64, steps)...))
		}
		for steps := 1; steps <= 5; steps++ {
			for _, bad := range append(notNumbers(p), 0) {
				for place := range steps {
					d := doubling(p, slices.Repeat([]int64{p - 1}, steps)...)
					d.Steps[place] = bad
					list = append(list, d)
				}
			}
		}
	}
	return list
}

func TestIsDoubling(t *testing.T) {
	t.Parallel()
	count := 0
	allDoublings(func(d impl.Doubling, r *source) {
		count++
		if !impl.IsDoubling(d) {
			t.Errorf("%v is a doubling", d)
		}
	})
	if count < 600 {
		t.Errorf("only %d doublings are tested", count)
	}
	for _, p := range primes {
		if !impl.IsDoubling(impl.Doubling{P: p}) || !impl.IsDoubling(impl.Doubling{P: p, Steps: []int64{}}) {
			t.Errorf("%d has a doubling without steps", p)
		}
	}
	for _, d := range notDoublings() {
		if impl.IsDoubling(d) {
			t.Errorf("%v is not a doubling", d)
		}
	}
	if impl.IsDoubling(impl.Doubling{}) {
		t.Error("the zero value is not a doubling")
	}
}

func TestDoublingsThatAreKnown(t *testing.T) {
	t.Parallel()
	d := doubling(5, 4, 4)
	returnsVector(t, []int64{0, 0, 0, 1})(impl.DoubleTimes(d, []int64{0, 1, 0, 0}, []int64{0, 0, 1, 0}))
	returnsVector(t, []int64{0, 0, 0, 4})(impl.DoubleTimes(d, []int64{0, 0, 1, 0}, []int64{0, 1, 0, 0}))
	returns(t, 0)(impl.DoubleNorm(doubling(5, 4), []int64{1, 2}))
	returnsVector(t, []int64{1, 1, 1, 1})(impl.NormDiagonal(d))
	// The steps 2 and 3 by 7: i i = 2, j j = 3, i j = k = -j i, i k = 2 j, k j = 3 i, k k = -6.
	d = doubling(7, 2, 3)
	returnsMatrix(t, [][]int64{{1, 1, 1, 1}, {1, 2, 1, 2}, {1, 6, 3, 4}, {1, 5, 3, 1}})(impl.BasisProducts(d))
	returnsVector(t, []int64{1, 5, 4, 6})(impl.NormDiagonal(d))
	x := []int64{1, 2, 3, 4}
	returnsVector(t, []int64{1, 5, 4, 3})(impl.DoubleConjugate(d, x))
	// 1 - 2 4 - 3 9 + 6 16 is 62.
	returns(t, 6)(impl.DoubleNorm(d, x))
	returns(t, 2)(impl.DoubleTrace(d, x))
	returnsVector(t, []int64{6, 2, 3, 4})(impl.DoubleInverse(d, x))
	returnsVector(t, []int64{3, 4, 6, 1})(impl.DoublePower(d, x, 2))
	returnsVector(t, []int64{1, 0, 0, 0})(impl.DoubleUnit(d))
	i := []int64{0, 1, 0, 0}
	returnsMatrix(t, [][]int64{{0, 2, 0, 0}, {1, 0, 0, 0}, {0, 0, 0, 2}, {0, 0, 1, 0}})(impl.LeftMatrixOf(d, i))
	returnsMatrix(t, [][]int64{{0, 2, 0, 0}, {1, 0, 0, 0}, {0, 0, 0, 5}, {0, 0, 6, 0}})(impl.RightMatrixOf(d, i))
	// Complex numbers by 7: (1 + 2 i) (3 + 4 i) is -5 + 10 i.
	d = doubling(7, 6)
	returnsVector(t, []int64{2, 3})(impl.DoubleTimes(d, []int64{1, 2}, []int64{3, 4}))
	returns(t, 5)(impl.DoubleNorm(d, []int64{1, 2}))
	returnsVector(t, []int64{3, 1})(impl.DoubleInverse(d, []int64{1, 2}))
}

// TestOctonionsThatAreKnown has the seven lines of the plane: the product of two elements of the basis on one
// of them is the third one, with a sign, and their squares are -1.
func TestOctonionsThatAreKnown(t *testing.T) {
	t.Parallel()
	lines := [][3]int{{1, 2, 3}, {1, 4, 5}, {1, 7, 6}, {2, 4, 6}, {2, 5, 7}, {3, 4, 7}, {3, 6, 5}}
	for _, p := range primes {
		d := doubling(p, p-1, p-1, p-1)
		for i := 1; i < 8; i++ {
			returnsVector(t, one(d, 0, p-1))(impl.DoubleTimes(d, one(d, i, 1), one(d, i, 1)))
		}
		for _, line := range lines {
			for i := range line {
				a, b, c := line[i], line[(i+1)%3], line[(i+2)%3]
				returnsVector(t, one(d, c, 1))(impl.DoubleTimes(d, one(d, a, 1), one(d, b, 1)))
				returnsVector(t, one(d, c, p-1))(impl.DoubleTimes(d, one(d, b, 1), one(d, a, 1)))
			}
		}
		returnsVector(t, slices.Repeat([]int64{1}, 8))(impl.NormDiagonal(d))
	}
}

// TestNoSteps has the numbers themselves.
func TestNoSteps(t *testing.T) {
	t.Parallel()
	for _, p := range primes {
		for _, d := range []impl.Doubling{{P: p}, {P: p, Steps: []int64{}}} {
			returns(t, 1)(impl.DoublingSize(d))
			returnsVector(t, []int64{1})(impl.DoubleUnit(d))
			returnsMatrix(t, [][]int64{{1}})(impl.BasisProducts(d))
			returnsVector(t, []int64{1})(impl.NormDiagonal(d))
			for a := range p {
				x := []int64{a}
				returnsVector(t, x)(impl.DoubleConjugate(d, x))
				returns(t, a*a%p)(impl.DoubleNorm(d, x))
				returns(t, 2*a%p)(impl.DoubleTrace(d, x))
				returnsMatrix(t, [][]int64{{a}})(impl.LeftMatrixOf(d, x))
				returnsMatrix(t, [][]int64{{a}})(impl.RightMatrixOf(d, x))
				for b := range p {
					returnsVector(t, []int64{a * b % p})(impl.DoubleTimes(d, x, []int64{b}))
				}
				if a == 0 {
					refuses(t, "DoubleInverse", ofVector(impl.DoubleInverse(d, x)), impl.ErrState)
				} else {
					returnsVector(t, []int64{reciprocal(p, a)})(impl.DoubleInverse(d, x))
				}
			}
			returnsBool(t, true)(impl.IsCommutativeDoubling(d))
			returnsBool(t, true)(impl.IsAssociativeDoubling(d))
			returnsBool(t, true)(impl.IsAlternativeDoubling(d))
		}
	}
}

func TestSizesAndUnits(t *testing.T) {
	t.Parallel()
	allDoublings(func(d impl.Doubling, r *source) {
		returns(t, []int64{1, 2, 4, 8, 16}[len(d.Steps)])(impl.DoublingSize(d))
		returnsVector(t, one(d, 0, 1))(impl.DoubleUnit(d))
		unit := must[[]int64](t)(impl.DoubleUnit(d))
		for _, x := range r.elements(d) {
			returnsVector(t, x)(impl.DoubleTimes(d, x, unit))
			returnsVector(t, x)(impl.DoubleTimes(d, unit, x))
		}
	})
}

func TestBasisProducts(t *testing.T) {
	t.Parallel()
	allDoublings(func(d impl.Doubling, r *source) {
		n := placesOf(d)
		factors := must[[][]int64](t)(impl.BasisProducts(d))
		want := zeros(n, n)
		for i := range n {
			for k := range n {
				product := doubled(d, one(d, i, 1), one(d, k, 1))
				want[i][k] = product[i^k]
				if !slices.Equal(product, one(d, i^k, want[i][k])) || want[i][k] == 0 {
					t.Fatalf("e(%d) e(%d) of %v is %v", i, k, d, product)
				}
			}
		}
		returnsMatrix(t, want)(factors, impl.ErrNone)
		for range n {
			i, k := int(r.below(int64(n))), int(r.below(int64(n)))
			a, b := r.below(d.P), r.below(d.P)
			returnsVector(t, one(d, i^k, a*b*want[i][k]%d.P))(impl.DoubleTimes(d, one(d, i, a), one(d, k, b)))
		}
	})
}

func TestProductsOfElements(t *testing.T) {
	t.Parallel()
	allDoublings(func(d impl.Doubling, r *source) {
		times := timesIn(t, d)
		list := r.elements(d)
		for _, x := range list {
			y, z, factor := list[r.below(int64(len(list)))], r.vector(d.P, placesOf(d)), r.below(d.P)
			returnsVector(t, doubled(d, x, z))(impl.DoubleTimes(d, x, z))
			returnsVector(t, doubled(d, z, x))(impl.DoubleTimes(d, z, x))
			returnsVector(t, plus(d.P, times(x, y), factor, times(x, z)))(impl.DoubleTimes(d, x, plus(d.P, y, factor, z)))
			returnsVector(t, plus(d.P, times(y, x), factor, times(z, x)))(impl.DoubleTimes(d, plus(d.P, y, factor, z), x))
		}
		greatest := list[2]
		returnsVector(t, doubled(d, greatest, greatest))(impl.DoubleTimes(d, greatest, greatest))
	})
}

// TestAllSmallDoublings has all pairs of elements of small doublings.
func TestAllSmallDoublings(t *testing.T) {
	t.Parallel()
	for _, p := range primes {
		for steps := range 3 {
			var r source
			for _, d := range someDoublings(p, steps, &r) {
				if powerOf(p, placesOf(d)) > 200 {
					continue
				}
				allVectors(p, placesOf(d), func(x []int64) {
					allVectors(p, placesOf(d), func(y []int64) {
						product := doubled(d, x, y)
						returnsVector(t, product)(impl.DoubleTimes(d, x, y))
						returns(t, normIn(d, x)*normIn(d, y)%p)(impl.DoubleNorm(d, product))
					})
				})
			}
		}
	}
}

func TestConjugates(t *testing.T) {
	t.Parallel()
	allDoublings(func(d impl.Doubling, r *source) {
		for _, x := range r.elements(d) {
			conjugate := must[[]int64](t)(impl.DoubleConjugate(d, x))
			returnsVector(t, star(d.P, x))(conjugate, impl.ErrNone)
			returnsVector(t, x)(impl.DoubleConjugate(d, conjugate))
			trace := must[int64](t)(impl.DoubleTrace(d, x))
			returns(t, trace)(impl.DoubleTrace(d, conjugate))
			returnsVector(t, one(d, 0, trace))(plus(d.P, x, 1, conjugate), impl.ErrNone)
			for range 3 {
				y := r.vector(d.P, placesOf(d))
				product := must[[]int64](t)(impl.DoubleTimes(d, x, y))
				other := must[[]int64](t)(impl.DoubleConjugate(d, y))
				returnsVector(t, must[[]int64](t)(impl.DoubleTimes(d, other, conjugate)))(impl.DoubleConjugate(d, product))
			}
		}
	})
}

func TestTracesAndSquares(t *testing.T) {
	t.Parallel()
	allDoublings(func(d impl.Doubling, r *source) {
		for _, x := range r.elements(d) {
			returns(t, 2*x[0]%d.P)(impl.DoubleTrace(d, x))
			checkSquare(t, d, x)
			y := r.vector(d.P, placesOf(d))
			trace := must[int64](t)(impl.DoubleTrace(d, must[[]int64](t)(impl.DoubleTimes(d, x, y))))
			returns(t, trace)(impl.DoubleTrace(d, must[[]int64](t)(impl.DoubleTimes(d, y, x))))
			conjugate := must[[]int64](t)(impl.DoubleConjugate(d, y))
			sum := normIn(d, plus(d.P, x, 1, y)) - normIn(d, x) - normIn(d, y) + 2*d.P
			returns(t, sum%d.P)(impl.DoubleTrace(d, must[[]int64](t)(impl.DoubleTimes(d, x, conjugate))))
		}
	})
}

// checkSquare tests that the square of x, less the trace times x, plus the norm, is 0, and that the products of
// x and its conjugate are the norm.
func checkSquare(t *testing.T, d impl.Doubling, x []int64) {
	t.Helper()
	trace, norm := must[int64](t)(impl.DoubleTrace(d, x)), must[int64](t)(impl.DoubleNorm(d, x))
	returns(t, normIn(d, x))(norm, impl.ErrNone)
	square := must[[]int64](t)(impl.DoubleTimes(d, x, x))
	if rest := plus(d.P, plus(d.P, square, -trace, x), norm, one(d, 0, 1)); !isZero(rest) {
		t.Errorf("the square of %v in %v leaves %v", x, d, rest)
	}
	conjugate := must[[]int64](t)(impl.DoubleConjugate(d, x))
	returnsVector(t, one(d, 0, norm))(impl.DoubleTimes(d, x, conjugate))
	returnsVector(t, one(d, 0, norm))(impl.DoubleTimes(d, conjugate, x))
	returns(t, norm)(impl.DoubleNorm(d, conjugate))
}

// TestNormsOfAllElements counts the elements with each norm: they are as many as the vectors of the space
// whose squares are the numbers of the norm.
func TestNormsOfAllElements(t *testing.T) {
	t.Parallel()
	for _, p := range primes {
		for steps := range 4 {
			var r source
			for _, d := range someDoublings(p, steps, &r) {
				if powerOf(p, placesOf(d)) > 7000 {
					continue
				}
				counts := make([]int64, p)
				allVectors(p, placesOf(d), func(x []int64) {
					checkSquare(t, d, x)
					counts[must[int64](t)(impl.DoubleNorm(d, x))]++
				})
				norms := must[[]int64](t)(impl.NormDiagonal(d))
				if !slices.Equal(counts, countsOf(space(p, norms...))) {
					t.Errorf("%v has elements with the norms as often as %v tells", d, counts)
				}
				if len(norms) <= 6 {
					for norm := range p {
						returns(t, counts[norm])(impl.CountVectors(space(p, norms...), norm))
					}
				}
			}
		}
	}
}

func TestNormDiagonal(t *testing.T) {
	t.Parallel()
	allDoublings(func(d impl.Doubling, r *source) {
		norms := must[[]int64](t)(impl.NormDiagonal(d))
		returnsVector(t, normNumbers(d))(norms, impl.ErrNone)
		for i, n := range norms {
			returns(t, n)(impl.DoubleNorm(d, one(d, i, 1)))
			// The number is the product of the opposites of the steps of which i has the digits.
			want := int64(1)
			for j, step := range d.Steps {
				if i>>j&1 == 1 {
					want = want * (d.P - step) % d.P
				}
			}
			returns(t, want)(n, impl.ErrNone)
		}
		x := r.vector(d.P, placesOf(d))
		returns(t, pairing(space(d.P, norms...), x, x))(impl.DoubleNorm(d, x))
	})
}

// TestNormsAreMultiplied has at most three steps: with four, some norms are not.
func TestNormsAreMultiplied(t *testing.T) {
	t.Parallel()
	allDoublings(func(d impl.Doubling, r *source) {
		others := 0
		for range 5 {
			for _, x := range r.elements(d) {
				y := r.vector(d.P, placesOf(d))
				want := normIn(d, x) * normIn(d, y) % d.P
				product := must[[]int64](t)(impl.DoubleTimes(d, x, y))
				if len(d.Steps) <= 3 {
					returns(t, want)(impl.DoubleNorm(d, product))
				} else if must[int64](t)(impl.DoubleNorm(d, product)) != want {
					others++
				}
			}
		}
		if len(d.Steps) == 4 && others == 0 {
			t.Errorf("%v multiplies all norms", d)
		}
	})
}

func TestInversesOfElements(t *testing.T) {
	t.Parallel()
	isotropic := 0
	allDoublings(func(d impl.Doubling, r *source) {
		for _, x := range append(r.elements(d), r.vector(d.P, placesOf(d)), r.vector(d.P, placesOf(d))) {
			norm := normIn(d, x)
			if norm == 0 {
				if !isZero(x) {
					isotropic++
				}
				refuses(t, "DoubleInverse", ofVector(impl.DoubleInverse(d, x)), impl.ErrState)
				continue
			}
			inverse := must[[]int64](t)(impl.DoubleInverse(d, x))
			returnsVector(t, multipleOf(d.P, reciprocal(d.P, norm), star(d.P, x)))(inverse, impl.ErrNone)
			returnsVector(t, one(d, 0, 1))(impl.DoubleTimes(d, x, inverse))
			returnsVector(t, one(d, 0, 1))(impl.DoubleTimes(d, inverse, x))
			returnsVector(t, x)(impl.DoubleInverse(d, inverse))
			if len(d.Steps) <= 3 {
				y := r.vector(d.P, placesOf(d))
				returnsVector(t, y)(impl.DoubleTimes(d, inverse, must[[]int64](t)(impl.DoubleTimes(d, x, y))))
				returnsVector(t, y)(impl.DoubleTimes(d, must[[]int64](t)(impl.DoubleTimes(d, y, x)), inverse))
			}
		}
	})
	if isotropic < 500 {
		t.Errorf("only %d elements other than 0 have the norm 0", isotropic)
	}
	// Norms that are 0 though no number but 0 is: 1 + 4 by 5, 1 - 1, and 1 + 1 + 1 by 3.
	refuses(t, "DoubleInverse", ofVector(impl.DoubleInverse(doubling(5, 4), []int64{1, 2})), impl.ErrState)
	refuses(t, "DoubleInverse", ofVector(impl.DoubleInverse(doubling(7, 1), []int64{3, 3})), impl.ErrState)
	refuses(t, "DoubleInverse", ofVector(impl.DoubleInverse(doubling(3, 2, 2), []int64{1, 1, 1, 0})), impl.ErrState)
}

// powerIn goes on by the equation of the square: if a power is a + b x, then the next one is a x + b times the
// square, which is the trace times x, less the norm.
func powerIn(d impl.Doubling, x []int64, exponent int64) []int64 {
	a, b, norm := int64(1), int64(0), normIn(d, x)
	for range exponent {
		a, b = (d.P-norm)*b%d.P, (a+2*x[0]*b)%d.P
	}
	return plus(d.P, one(d, 0, a), b, x)
}

func TestPowersOfElements(t *testing.T) {
	t.Parallel()
	exponents := []int64{0, 1, 2, 3, 4, 5, 6, 7, 8, 12, 100, 101, 168, 999, 1000}
	allDoublings(func(d impl.Doubling, r *source) {
		for _, x := range r.elements(d) {
			power := one(d, 0, 1)
			for k := range int64(6) {
				returnsVector(t, power)(impl.DoublePower(d, x, k))
				power = doubled(d, power, x)
			}
			for range 2 {
				k := exponents[r.below(int64(len(exponents)))]
				returnsVector(t, powerIn(d, x, k))(impl.DoublePower(d, x, k))
			}
		}
		x, zero := r.vector(d.P, placesOf(d)), make([]int64, placesOf(d))
		for _, k := range []int64{0, 1, 999, 1000} {
			returnsVector(t, powerIn(d, x, k))(impl.DoublePower(d, x, k))
		}
		returnsVector(t, one(d, 0, 1))(impl.DoublePower(d, zero, 0))
		returnsVector(t, zero)(impl.DoublePower(d, zero, 1000))
		for _, k := range []int64{math.MinInt64, -1000, -2, -1, 1001, 1002, 2000, 1 << 32, math.MaxInt64} {
			for _, x := range [][]int64{x, zero, one(d, 0, 1)} {
				refuses(t, "DoublePower", ofVector(impl.DoublePower(d, x, k)), impl.ErrRange)
			}
		}
	})
}

func TestMatricesOfElements(t *testing.T) {
	t.Parallel()
	allDoublings(func(d impl.Doubling, r *source) {
		n := placesOf(d)
		for _, x := range append(r.elements(d), one(d, n-1, 1)) {
			left, right := must[[][]int64](t)(impl.LeftMatrixOf(d, x)), must[[][]int64](t)(impl.RightMatrixOf(d, x))
			columns, others := zeros(n, n), zeros(n, n)
			for i := range n {
				columns[i] = must[[]int64](t)(impl.DoubleTimes(d, x, one(d, i, 1)))
				others[i] = must[[]int64](t)(impl.DoubleTimes(d, one(d, i, 1), x))
			}
			returnsMatrix(t, flip(columns))(left, impl.ErrNone)
			returnsMatrix(t, flip(others))(right, impl.ErrNone)
			y := r.vector(d.P, n)
			returnsVector(t, doubled(d, x, y))(apply(d.P, left, y), impl.ErrNone)
			returnsVector(t, doubled(d, y, x))(apply(d.P, right, y), impl.ErrNone)
		}
		returnsMatrix(t, unit(n))(impl.LeftMatrixOf(d, one(d, 0, 1)))
		returnsMatrix(t, unit(n))(impl.RightMatrixOf(d, one(d, 0, 1)))
		returnsMatrix(t, zeros(n, n))(impl.LeftMatrixOf(d, one(d, 0, 0)))
		returnsMatrix(t, zeros(n, n))(impl.RightMatrixOf(d, one(d, 0, 0)))
	})
}

// basisAssociator is the number at the place i ^ j ^ k of the associator of e(i), e(j) and e(k), which is 0 at
// all others.
func basisAssociator(p int64, factors [][]int64, i int, j int, k int) int64 {
	difference := factors[i][j]*factors[i^j][k] - factors[j][k]*factors[i][j^k]
	return (difference%p + p) % p
}

// propertiesOf are whether products are commutative, associative and alternative. As they are linear in each
// factor, it is enough to try the basis; for the last one, sums of two of its elements, too.
func propertiesOf(p int64, factors [][]int64) [3]bool {
	is, n := [3]bool{true, true, true}, len(factors)
	for i := range n {
		for j := range n {
			is[0] = is[0] && factors[i][j] == factors[j][i]
			for k := range n {
				here := basisAssociator(p, factors, i, j, k)
				is[1] = is[1] && here == 0
				left, right := here+basisAssociator(p, factors, j, i, k), here+basisAssociator(p, factors, i, k, j)
				is[2] = is[2] && left%p == 0 && right%p == 0
			}
		}
	}
	return is
}

func TestPropertiesOfDoublings(t *testing.T) {
	t.Parallel()
	allDoublings(func(d impl.Doubling, r *source) {
		steps := len(d.Steps)
		is := propertiesOf(d.P, must[[][]int64](t)(impl.BasisProducts(d)))
		if is != [3]bool{steps <= 1, steps <= 2, steps <= 3} {
			t.Errorf("%v has the properties %v", d, is)
		}
		returnsBool(t, is[0])(impl.IsCommutativeDoubling(d))
		returnsBool(t, is[1])(impl.IsAssociativeDoubling(d))
		returnsBool(t, is[2])(impl.IsAlternativeDoubling(d))
	})
}

// TestPropertiesOfElements tries elements, and finds some that show that a property is not there.
func TestPropertiesOfElements(t *testing.T) {
	t.Parallel()
	allDoublings(func(d impl.Doubling, r *source) {
		times, n := timesIn(t, d), placesOf(d)
		fails := [3]bool{}
		for range 20 {
			x, y, z := r.vector(d.P, n), r.vector(d.P, n), r.vector(d.P, n)
			xy := times(x, y)
			fails[0] = fails[0] || !slices.Equal(xy, times(y, x))
			fails[1] = fails[1] || !slices.Equal(times(xy, z), times(x, times(y, z)))
			fails[2] = fails[2] || !slices.Equal(times(times(x, x), y), times(x, xy)) || !slices.Equal(times(xy, y), times(x, times(y, y)))
		}
		for i, holds := range []bool{len(d.Steps) <= 1, len(d.Steps) <= 2, len(d.Steps) <= 3} {
			if fails[i] == holds {
				t.Errorf("%v has elements for which the property %d is missing: %v", d, i, fails[i])
			}
		}
	})
}

// TestLeftMatricesOfProducts are products of left matrices exactly if the doubling is associative.
func TestLeftMatricesOfProducts(t *testing.T) {
	t.Parallel()
	allDoublings(func(d impl.Doubling, r *source) {
		left := func(x []int64) [][]int64 { return must[[][]int64](t)(impl.LeftMatrixOf(d, x)) }
		right := func(x []int64) [][]int64 { return must[[][]int64](t)(impl.RightMatrixOf(d, x)) }
		same := true
		for range 4 {
			x, y := r.vector(d.P, placesOf(d)), r.vector(d.P, placesOf(d))
			xy := must[[]int64](t)(impl.DoubleTimes(d, x, y))
			same = same && equalRows(product(d.P, left(x), left(y)), left(xy)) && equalRows(product(d.P, right(y), right(x)), right(xy))
		}
		if same != (len(d.Steps) <= 2) {
			t.Errorf("left matrices of products in %v are products of left matrices: %v", d, same)
		}
	})
}

// TestLeftMatricesOfPureElements has elements with the trace 0: for at most three steps, the squares of their
// left matrices are their norms, with the opposite sign, and so are sums of products in both orders.
func TestLeftMatricesOfPureElements(t *testing.T) {
	t.Parallel()
	allDoublings(func(d impl.Doubling, r *source) {
		n, others := placesOf(d), 0
		for range 6 {
			x, y := r.vector(d.P, n), r.vector(d.P, n)
			x[0], y[0] = 0, 0
			a, b := must[[][]int64](t)(impl.LeftMatrixOf(d, x)), must[[][]int64](t)(impl.LeftMatrixOf(d, y))
			if len(d.Steps) == 4 {
				if !equalRows(product(d.P, a, a), diagonal(slices.Repeat([]int64{(d.P - normIn(d, x)) % d.P}, n)...)) {
					others++
				}
				continue
			}
			returnsMatrix(t, diagonal(slices.Repeat([]int64{(d.P - normIn(d, x)) % d.P}, n)...))(product(d.P, a, a), impl.ErrNone)
			sum, other := product(d.P, a, b), product(d.P, b, a)
			for i := range sum {
				sum[i] = plus(d.P, sum[i], 1, other[i])
			}
			both := (normIn(d, x) + normIn(d, y) - normIn(d, plus(d.P, x, 1, y)) + d.P) % d.P
			returnsMatrix(t, diagonal(slices.Repeat([]int64{both}, n)...))(sum, impl.ErrNone)
		}
		if len(d.Steps) == 4 && others == 0 {
			t.Errorf("squares of all left matrices in %v are norms", d)
		}
	})
}

// spacesOfSteps calls do with all doublings with one or two steps, and the spaces with these squares.
func spacesOfSteps(do func(d impl.Doubling, s impl.Space, r *source)) {
	for _, p := range primes {
		var r source
		for steps := 1; steps <= 2; steps++ {
			for _, d := range someDoublings(p, steps, &r) {
				do(d, space(p, d.Steps...), &r)
			}
		}
	}
}

func TestQuaternionsAreMultivectors(t *testing.T) {
	t.Parallel()
	count := 0
	spacesOfSteps(func(d impl.Doubling, s impl.Space, r *source) {
		count++
		for i := range placesOf(d) {
			for k := range placesOf(d) {
				product := must[[]int64](t)(impl.GeometricProduct(s, one(d, i, 1), one(d, k, 1)))
				returnsVector(t, product)(impl.DoubleTimes(d, one(d, i, 1), one(d, k, 1)))
			}
		}
		for _, x := range r.elements(d) {
			y, k := r.vector(d.P, placesOf(d)), r.below(101)
			returnsVector(t, must[[]int64](t)(impl.GeometricProduct(s, x, y)))(impl.DoubleTimes(d, x, y))
			returnsVector(t, must[[]int64](t)(impl.ConjugateOf(s, x)))(impl.DoubleConjugate(d, x))
			returnsVector(t, must[[]int64](t)(impl.PowerOf(s, x, k)))(impl.DoublePower(d, x, k))
			returnsMatrix(t, must[[][]int64](t)(impl.LeftMatrix(s, x)))(impl.LeftMatrixOf(d, x))
			returnsMatrix(t, must[[][]int64](t)(impl.RightMatrix(s, x)))(impl.RightMatrixOf(d, x))
			inverse, code := impl.InverseOf(s, x)
			if code == impl.ErrNone {
				returnsVector(t, inverse)(impl.DoubleInverse(d, x))
			} else {
				refuses(t, "DoubleInverse", ofVector(impl.DoubleInverse(d, x)), impl.ErrState)
			}
		}
	})
	if count != 334 {
		t.Errorf("%d doublings have one or two steps", count)
	}
}

// TestAllQuaternions has all pairs of elements of the doublings with two steps by 3.
func TestAllQuaternions(t *testing.T) {
	t.Parallel()
	allVectors(2, 2, func(v []int64) {
		d := doubling(3, v[0]+1, v[1]+1)
		s := space(3, d.Steps...)
		allVectors(3, 4, func(x []int64) {
			allVectors(3, 4, func(y []int64) {
				returnsVector(t, must[[]int64](t)(impl.GeometricProduct(s, x, y)))(impl.DoubleTimes(d, x, y))
			})
		})
	})
}

// TestMotionsByQuaternions has sandwiches of products of vectors, and Cayley transforms, which turn the vectors
// of a space with two squares by products of the doubling with these steps.
func TestMotionsByQuaternions(t *testing.T) {
	t.Parallel()
	spacesOfSteps(func(d impl.Doubling, s impl.Space, r *source) {
		times, v := timesIn(t, d), r.vector(s.P, len(s.Squares))
		for count := range 4 {
			known := r.versor(s, count)
			involute := must[[]int64](t)(impl.InvoluteOf(s, known.x))
			inverse := must[[]int64](t)(impl.DoubleInverse(d, known.x))
			image := numbersOf(s, times(times(involute, vectorPart(s, v)), inverse))
			returnsVector(t, image)(impl.SandwichOf(s, known.x, v))
			returnsVector(t, image)(impl.ApplyMatrix(s.P, must[[][]int64](t)(impl.MatrixOfVersor(s, known.x)), v))
			list := must[[][]int64](t)(impl.DecomposeOrthogonal(s, must[[][]int64](t)(impl.MatrixOfVersor(s, known.x))))
			again := one(d, 0, 1)
			for _, u := range list {
				again = times(again, vectorPart(s, u))
			}
			returnsVector(t, image)(impl.SandwichOf(s, again, v))
		}
		if len(s.Squares) == 1 {
			return
		}
		turn := one(d, 3, r.below(s.P))
		m := must[[][]int64](t)(impl.MatrixOfBivector(s, turn))
		returnsVector(t, numbersOf(s, times(turn, vectorPart(s, v))))(impl.ApplyMatrix(s.P, m, v))
		inverse, code := impl.DoubleInverse(d, plus(s.P, one(d, 0, 1), 1, turn))
		transform, other := impl.CayleyOf(s, m)
		if code != other {
			t.Fatalf("the inverse has the code %d, and the transform %d", code, other)
		}
		if code == impl.ErrNone {
			by := times(inverse, plus(s.P, one(d, 0, 1), -1, turn))
			returnsVector(t, numbersOf(s, times(by, vectorPart(s, v))))(impl.ApplyMatrix(s.P, transform, v))
			returnsMatrix(t, m)(impl.CayleyBack(s, transform))
		}
	})
}

// TestHalves has elements of the doubling without the last step at the first places, and at the last ones.
func TestHalves(t *testing.T) {
	t.Parallel()
	allDoublings(func(d impl.Doubling, r *source) {
		if len(d.Steps) == 0 {
			return
		}
		last := len(d.Steps) - 1
		step, half := d.Steps[last], doubling(d.P, d.Steps[:last]...)
		n := placesOf(half)
		zero, b, c := make([]int64, n), r.vector(d.P, n), r.vector(d.P, n)
		times, first := timesIn(t, half), func(x []int64) []int64 { return slices.Concat(x, zero) }
		second := func(x []int64) []int64 { return slices.Concat(zero, x) }
		returnsVector(t, first(times(b, c)))(impl.DoubleTimes(d, first(b), first(c)))
		returnsVector(t, second(times(b, star(d.P, c))))(impl.DoubleTimes(d, second(b), first(c)))
		returnsVector(t, second(times(c, b)))(impl.DoubleTimes(d, first(b), second(c)))
		returnsVector(t, multipleOf(d.P, step, first(times(star(d.P, c), b))))(impl.DoubleTimes(d, second(b), second(c)))
		returnsVector(t, one(d, 0, step))(impl.DoubleTimes(d, one(d, n, 1), one(d, n, 1)))
		norm := must[int64](t)(impl.DoubleNorm(half, b))
		returns(t, norm)(impl.DoubleNorm(d, first(b)))
		returns(t, (d.P-step)*norm%d.P)(impl.DoubleNorm(d, second(b)))
		returns(t, 0)(impl.DoubleTrace(d, second(b)))
	})
}

// callsOfDoublings are the calls without elements.
func callsOfDoublings(d impl.Doubling) map[string]result {
	return map[string]result{
		"DoublingSize":          ofNumber(impl.DoublingSize(d)),
		"DoubleUnit":            ofVector(impl.DoubleUnit(d)),
		"BasisProducts":         ofMatrix(impl.BasisProducts(d)),
		"NormDiagonal":          ofVector(impl.NormDiagonal(d)),
		"IsCommutativeDoubling": ofBool(impl.IsCommutativeDoubling(d)),
		"IsAssociativeDoubling": ofBool(impl.IsAssociativeDoubling(d)),
		"IsAlternativeDoubling": ofBool(impl.IsAlternativeDoubling(d)),
	}
}

// callsOfOneElement are the calls with x, with another element and an exponent.
func callsOfOneElement(d impl.Doubling, x []int64, y []int64, k int64) map[string]result {
	return map[string]result{
		"DoubleTimes":         ofVector(impl.DoubleTimes(d, x, y)),
		"DoubleTimes, second": ofVector(impl.DoubleTimes(d, y, x)),
		"DoubleConjugate":     ofVector(impl.DoubleConjugate(d, x)),
		"DoubleNorm":          ofNumber(impl.DoubleNorm(d, x)),
		"DoubleTrace":         ofNumber(impl.DoubleTrace(d, x)),
		"DoubleInverse":       ofVector(impl.DoubleInverse(d, x)),
		"DoublePower":         ofVector(impl.DoublePower(d, x, k)),
		"LeftMatrixOf":        ofMatrix(impl.LeftMatrixOf(d, x)),
		"RightMatrixOf":       ofMatrix(impl.RightMatrixOf(d, x)),
	}
}

// TestNoDoublings gives elements that would fit, and others, and exponents that are right and wrong.
func TestNoDoublings(t *testing.T) {
	t.Parallel()
	for _, d := range notDoublings() {
		for call, got := range callsOfDoublings(d) {
			refuses(t, call, got, impl.ErrInvalid)
		}
		for _, x := range [][]int64{make([]int64, 1<<min(len(d.Steps), 7)), {1, 1}, nil, {-1}} {
			for _, k := range []int64{1, -1, 1001} {
				for call, got := range callsOfOneElement(d, x, []int64{1}, k) {
					refuses(t, call, got, impl.ErrInvalid)
				}
			}
		}
	}
}

// notElements have other lengths, or a number that is none at each place.
func notElements(d impl.Doubling) [][]int64 {
	n := placesOf(d)
	list := [][]int64{nil, {}, make([]int64, n-1), make([]int64, n+1), make([]int64, 2*n), make([]int64, 32), make([]int64, 1000)}
	for steps := range 6 {
		if steps != len(d.Steps) {
			list = append(list, slices.Repeat([]int64{1}, 1<<steps))
		}
	}
	for _, bad := range notNumbers(d.P) {
		for place := range n {
			list = append(list, one(d, place, bad))
		}
	}
	return list
}

// TestNoElements has them also where the norm would be 0, which comes behind, and beside exponents out of range.
func TestNoElements(t *testing.T) {
	t.Parallel()
	for _, p := range primes {
		for steps := range 5 {
			for _, step := range []int64{1, p - 1} {
				d := doubling(p, slices.Repeat([]int64{step}, steps)...)
				for _, bad := range notElements(d) {
					for _, k := range []int64{0, 1, 1000, -1, 1001} {
						for call, got := range callsOfOneElement(d, bad, one(d, 0, 1), k) {
							refuses(t, call, got, impl.ErrRange)
						}
					}
					refuses(t, "DoubleTimes", ofVector(impl.DoubleTimes(d, bad, bad)), impl.ErrRange)
				}
			}
		}
	}
}

// rowsOfDoublings are the results of the calls that return lists.
func rowsOfDoublings(t *testing.T, d impl.Doubling, x []int64, y []int64) map[string][][]int64 {
	t.Helper()
	return map[string][][]int64{
		"DoubleTimes":             {must[[]int64](t)(impl.DoubleTimes(d, x, y))},
		"DoubleTimes by the unit": {must[[]int64](t)(impl.DoubleTimes(d, x, one(d, 0, 1)))},
		"DoubleTimes of the unit": {must[[]int64](t)(impl.DoubleTimes(d, one(d, 0, 1), y))},
		"DoubleConjugate":         {must[[]int64](t)(impl.DoubleConjugate(d, x))},
		"DoubleInverse":           {must[[]int64](t)(impl.DoubleInverse(d, x))},
		"DoublePower 0":           {must[[]int64](t)(impl.DoublePower(d, x, 0))},
		"DoublePower 1":           {must[[]int64](t)(impl.DoublePower(d, x, 1))},
		"DoublePower 2":           {must[[]int64](t)(impl.DoublePower(d, x, 2))},
		"DoubleUnit":              {must[[]int64](t)(impl.DoubleUnit(d))},
		"BasisProducts":           must[[][]int64](t)(impl.BasisProducts(d)),
		"LeftMatrixOf":            must[[][]int64](t)(impl.LeftMatrixOf(d, x)),
		"RightMatrixOf":           must[[][]int64](t)(impl.RightMatrixOf(d, y)),
		"NormDiagonal":            {must[[]int64](t)(impl.NormDiagonal(d))},
	}
}

// TestDoublingsAreNewMemory overwrites all results, and then calls everything again.
func TestDoublingsAreNewMemory(t *testing.T) {
	t.Parallel()
	allDoublings(func(kept impl.Doubling, r *source) {
		var g guard
		d := kept
		if len(kept.Steps) > 0 {
			d.Steps = g.keep([][]int64{kept.Steps})[0]
		}
		list := r.elements(d)
		x := r.vector(d.P, placesOf(d))
		for normIn(d, x) == 0 {
			x = r.vector(d.P, placesOf(d))
		}
		elements := g.keep([][]int64{x, list[3]})
		before := map[string][][]int64{}
		for call, rows := range rowsOfDoublings(t, d, elements[0], elements[1]) {
			g.check(t, call)
			before[call] = cloneRows(rows)
			overwrite(t, call, rows)
			g.check(t, "overwriting the result of "+call)
		}
		for call, rows := range rowsOfDoublings(t, d, elements[0], elements[1]) {
			if !equalRows(rows, before[call]) {
				t.Errorf("%s of %v returns something else the second time", call, d)
			}
		}
		callsOfDoublings(d)
		for _, x := range append(elements, g.keep(list)...) {
			callsOfOneElement(d, x, elements[1], 3)
			callsOfOneElement(d, x, elements[1], -1)
		}
		impl.IsDoubling(d)
		g.check(t, "a call that returns no lists")
	})
}
