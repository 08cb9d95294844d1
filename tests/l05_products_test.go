package tests

import (
	"math/bits"
	"slices"
	"testing"

	"loop.example/g01124/impl"
)

// kindOfProduct is a product that keeps the geometric products of some pairs of blades. These are told
// by how many basis vectors meet themselves, and how many each blade has.
type kindOfProduct struct {
	name   string
	call   func(s impl.Space, x []int64, y []int64) ([]int64, int64)
	isKept func(meet int, first int, second int) bool
}

var kindsOfProducts = []kindOfProduct{
	{"WedgeProduct", impl.WedgeProduct, func(meet int, first int, second int) bool { return meet == 0 }},
	{"LeftContraction", impl.LeftContraction, func(meet int, first int, second int) bool { return meet == first }},
	{"RightContraction", impl.RightContraction, func(meet int, first int, second int) bool { return meet == second }},
}

// ofBlades is the product of the blades with the masks a and b, as a number and a mask.
func (k kindOfProduct) ofBlades(s impl.Space, a int, b int) (int64, int) {
	m := &meetings[a][b]
	if !k.isKept(len(m.squares), bits.OnesCount(uint(a)), bits.OnesCount(uint(b))) {
		return 0, 0
	}
	factor := s.P + m.sign
	for _, i := range m.squares {
		factor = factor * s.Squares[i] % s.P
	}
	return factor % s.P, m.mask
}

// of is the sum over all pairs of blades.
func (k kindOfProduct) of(s impl.Space, x []int64, y []int64) []int64 {
	z := make([]int64, len(x))
	for a := range x {
		for b := range y {
			if x[a] != 0 && y[b] != 0 {
				factor, mask := k.ofBlades(s, a, b)
				z[mask] = (z[mask] + x[a]*y[b]*factor) % s.P
			}
		}
	}
	return z
}

// scalarProduct uses that different blades have the scalar product 0, and a blade with itself the
// product of the squares of its basis vectors.
func scalarProduct(s impl.Space, x []int64, y []int64) int64 {
	sum := int64(0)
	for mask := range x {
		term := x[mask] * y[mask] % s.P
		for _, i := range indicesOf(mask) {
			term = term * s.Squares[i] % s.P
		}
		sum = (sum + term) % s.P
	}
	return sum
}

// wedgeOf has as coefficients the determinants of the columns that the masks choose.
func wedgeOf(s impl.Space, list [][]int64) []int64 {
	wedge := make([]int64, bladesOf(s))
	for mask := range wedge {
		columns := indicesOf(mask)
		if len(columns) != len(list) {
			continue
		}
		chosen := zeros(len(list), len(list))
		for i := range chosen {
			for j, column := range columns {
				chosen[i][j] = list[i][column]
			}
		}
		wedge[mask] = determinantOf(s.P, chosen)
	}
	return wedge
}

// productCalls are the calls of this chapter and the one before it that return multivectors and have to return ErrNone.
type productCalls struct {
	times, wedge, left, right, meet func(x []int64, y []int64) []int64
	dual, undual, reverse           func(x []int64) []int64
}

func productCallsOf(t *testing.T, s impl.Space) productCalls {
	t.Helper()
	ofTwo := func(call func(s impl.Space, x []int64, y []int64) ([]int64, int64)) func(x []int64, y []int64) []int64 {
		return func(x []int64, y []int64) []int64 {
			t.Helper()
			return must[[]int64](t)(call(s, x, y))
		}
	}
	ofOne := func(call func(s impl.Space, x []int64) ([]int64, int64)) func(x []int64) []int64 {
		return func(x []int64) []int64 {
			t.Helper()
			return must[[]int64](t)(call(s, x))
		}
	}
	return productCalls{
		ofTwo(impl.GeometricProduct), ofTwo(impl.WedgeProduct), ofTwo(impl.LeftContraction), ofTwo(impl.RightContraction),
		ofTwo(impl.MeetOf), ofOne(impl.DualOf), ofOne(impl.UndualOf), ofOne(impl.ReverseOf),
	}
}

func TestProductsOfThePlane(t *testing.T) {
	t.Parallel()
	plane, x, y := space(5, 1, 1), []int64{0, 1, 2, 0}, []int64{0, 3, 4, 0}
	e0, e1, whole := []int64{0, 1, 0, 0}, []int64{0, 0, 1, 0}, []int64{0, 0, 0, 1}
	returnsVector(t, []int64{0, 0, 0, 3})(impl.WedgeProduct(plane, x, y))
	returnsVector(t, []int64{1, 0, 0, 0})(impl.LeftContraction(plane, x, y))
	returnsVector(t, []int64{1, 0, 0, 0})(impl.RightContraction(plane, x, y))
	returnsVector(t, e1)(impl.LeftContraction(plane, e0, whole))
	returnsVector(t, []int64{0, 4, 0, 0})(impl.LeftContraction(plane, e1, whole))
	returnsVector(t, []int64{0, 0, 4, 0})(impl.RightContraction(plane, whole, e0))
	returnsVector(t, e0)(impl.RightContraction(plane, whole, e1))
	returnsVector(t, make([]int64, 4))(impl.LeftContraction(plane, whole, e0))
	returnsVector(t, make([]int64, 4))(impl.RightContraction(plane, e0, whole))
	returns(t, 0)(impl.ScalarProduct(plane, []int64{1, 0, 0, 2}, []int64{1, 0, 0, 2}))
	returns(t, 4)(impl.ScalarProduct(plane, whole, []int64{1, 2, 3, 4}))
	returnsVector(t, whole)(impl.PseudoscalarOf(plane))
	returns(t, 4)(impl.PseudoscalarSquare(plane))
	returnsVector(t, []int64{0, 0, 4, 0})(impl.DualOf(plane, e0))
	returnsVector(t, e0)(impl.UndualOf(plane, []int64{0, 0, 4, 0}))
	returnsVector(t, x)(impl.MeetOf(plane, whole, x))
	// The lines of e0 and e1 meet in nothing but 0.
	returnsVector(t, []int64{4, 0, 0, 0})(impl.MeetOf(plane, e0, e1))
	returnsVector(t, []int64{1, 0, 0, 0})(impl.MeetOf(plane, e1, e0))
	returnsVector(t, []int64{0, 0, 0, 3})(impl.WedgeOfVectors(plane, [][]int64{{1, 2}, {3, 4}}))
	returnsBool(t, false)(impl.AreDependent(plane, [][]int64{{1, 2}, {3, 4}}))
	returnsBool(t, true)(impl.AreDependent(plane, [][]int64{{1, 2}, {2, 4}}))
	returns(t, 3)(impl.VolumeOf(plane, [][]int64{{1, 2}, {3, 4}}))
}

// TestProductsThatAreKnown has other squares than 1, a square that is 0, one square, and three.
func TestProductsThatAreKnown(t *testing.T) {
	t.Parallel()
	other := space(7, 2, 3)
	returnsVector(t, []int64{0, 0, 2, 0})(impl.LeftContraction(other, []int64{0, 1, 0, 0}, []int64{0, 0, 0, 1}))
	returnsVector(t, []int64{0, 4, 0, 0})(impl.LeftContraction(other, []int64{0, 0, 1, 0}, []int64{0, 0, 0, 1}))
	returnsVector(t, []int64{1, 0, 0, 0})(impl.LeftContraction(other, []int64{0, 0, 0, 1}, []int64{0, 0, 0, 1}))
	returns(t, 6)(impl.ScalarProduct(other, []int64{0, 0, 0, 1}, []int64{0, 0, 0, 1}))
	returns(t, 1)(impl.PseudoscalarSquare(other))
	returnsVector(t, []int64{0, 0, 2, 0})(impl.DualOf(other, []int64{0, 1, 0, 0}))
	null := space(5, 1, 0)
	returnsVector(t, []int64{0, 0, 0, 1})(impl.WedgeProduct(null, []int64{0, 1, 0, 0}, []int64{0, 0, 1, 0}))
	returnsVector(t, []int64{0, 0, 1, 0})(impl.LeftContraction(null, []int64{0, 1, 0, 0}, []int64{0, 0, 0, 1}))
	returnsVector(t, make([]int64, 4))(impl.LeftContraction(null, []int64{0, 0, 1, 0}, []int64{0, 0, 0, 1}))
	returns(t, 0)(impl.PseudoscalarSquare(null))
	// (1 + 2 e0) and (3 + 4 e0), with the square 2.
	returnsVector(t, []int64{3, 0})(impl.WedgeProduct(space(5, 2), []int64{1, 2}, []int64{3, 4}))
	returnsVector(t, []int64{4, 4})(impl.LeftContraction(space(5, 2), []int64{1, 2}, []int64{3, 4}))
	returnsVector(t, []int64{4, 1})(impl.RightContraction(space(5, 2), []int64{1, 2}, []int64{3, 4}))
	returns(t, 4)(impl.ScalarProduct(space(5, 2), []int64{1, 2}, []int64{3, 4}))
	returns(t, 2)(impl.PseudoscalarSquare(space(5, 2)))
	returnsVector(t, []int64{2, 3})(impl.DualOf(space(5, 2), []int64{1, 2}))
	returnsVector(t, []int64{4, 1})(impl.UndualOf(space(5, 2), []int64{1, 2}))
	returnsVector(t, []int64{0, 3})(impl.MeetOf(space(5, 2), []int64{0, 1}, []int64{0, 3}))
	returnsVector(t, make([]int64, 2))(impl.MeetOf(space(5, 2), []int64{1, 0}, []int64{2, 0}))
	solid := space(7, 1, 1, 1)
	returnsVector(t, []int64{1, 0, 1, 2, 4, 3, 5, 6})(impl.DualOf(solid, []int64{1, 2, 3, 4, 5, 6, 0, 1}))
	// The planes e0 e1 and e1 e2 meet in the line of e1; the dual of the meet is e2 e0 or e0 e2.
	returnsVector(t, blade(solid, 2, 6))(impl.MeetOf(solid, blade(solid, 3, 1), blade(solid, 6, 1)))
	returnsVector(t, blade(solid, 2, 1))(impl.MeetOf(solid, blade(solid, 6, 1), blade(solid, 3, 1)))
	returnsVector(t, []int64{0, 0, 0, 4, 0, 1, 4, 0})(impl.WedgeOfVectors(solid, [][]int64{{1, 2, 3}, {4, 5, 6}}))
	returns(t, 0)(impl.VolumeOf(solid, [][]int64{{1, 2, 3}, {4, 5, 6}, {0, 3, 6}}))
	returns(t, 1)(impl.VolumeOf(solid, [][]int64{{1, 2, 3}, {0, 1, 4}, {5, 6, 0}}))
}

// TestKindsOfAllBlades has all pairs of masks, with and without common bits.
func TestKindsOfAllBlades(t *testing.T) {
	t.Parallel()
	fewSpaces(func(s impl.Space, r *source) {
		for a := range bladesOf(s) {
			for b := range bladesOf(s) {
				first, second := 1+r.below(s.P-1), 1+r.below(s.P-1)
				x, y := blade(s, a, first), blade(s, b, second)
				for _, k := range kindsOfProducts {
					factor, mask := k.ofBlades(s, a, b)
					returnsVector(t, blade(s, mask, first*second*factor%s.P))(k.call(s, x, y))
				}
				returns(t, scalarProduct(s, x, y))(impl.ScalarProduct(s, x, y))
			}
		}
	})
}

func TestAllSmallKinds(t *testing.T) {
	t.Parallel()
	for _, s := range []impl.Space{space(3, 0), space(3, 1), space(3, 2), space(5, 3), space(7, 6), space(3, 1, 1), space(3, 2, 0)} {
		allVectors(s.P, bladesOf(s), func(x []int64) {
			allVectors(s.P, bladesOf(s), func(y []int64) {
				for _, k := range kindsOfProducts {
					if z, code := k.call(s, x, y); !slices.Equal(z, k.of(s, x, y)) || code != impl.ErrNone {
						t.Errorf("%s(%v, %v, %v) = %v, %d", k.name, s, x, y, z, code)
					}
				}
				if n, code := impl.ScalarProduct(s, x, y); n != scalarProduct(s, x, y) || code != impl.ErrNone {
					t.Errorf("ScalarProduct(%v, %v, %v) = %d, %d", s, x, y, n, code)
				}
			})
		})
	}
}

// TestKinds tests sums over pairs of blades, and that products distribute over sums.
func TestKinds(t *testing.T) {
	t.Parallel()
	allSpaces(func(s impl.Space, r *source) {
		for i, x := range someMultivectors(s, r) {
			others := someMultivectors(s, r)
			y, z := others[r.below(5)], others[i]
			for _, k := range kindsOfProducts {
				xy, yz := must[[]int64](t)(k.call(s, x, y)), must[[]int64](t)(k.call(s, y, z))
				returnsVector(t, k.of(s, x, y))(xy, impl.ErrNone)
				xz, yx := must[[]int64](t)(k.call(s, x, z)), must[[]int64](t)(k.call(s, y, x))
				returnsVector(t, plus(s.P, yz, 1, yx))(k.call(s, y, plus(s.P, z, 1, x)))
				returnsVector(t, plus(s.P, yz, 1, xz))(k.call(s, plus(s.P, y, 1, x), z))
			}
		}
	})
}

func TestKindsWithNumbersAndZero(t *testing.T) {
	t.Parallel()
	allSpaces(func(s impl.Space, r *source) {
		zero, c := make([]int64, bladesOf(s)), r.below(s.P)
		number := blade(s, 0, c)
		for _, x := range append(someMultivectors(s, r), zero) {
			multiple, scalar := plus(s.P, zero, c, x), blade(s, 0, c*x[0]%s.P)
			for _, k := range kindsOfProducts {
				returnsVector(t, zero)(k.call(s, zero, x))
				returnsVector(t, zero)(k.call(s, x, zero))
			}
			returnsVector(t, multiple)(impl.WedgeProduct(s, number, x))
			returnsVector(t, multiple)(impl.WedgeProduct(s, x, number))
			// Only a number is contracted into a number.
			returnsVector(t, multiple)(impl.LeftContraction(s, number, x))
			returnsVector(t, scalar)(impl.LeftContraction(s, x, number))
			returnsVector(t, scalar)(impl.RightContraction(s, number, x))
			returnsVector(t, multiple)(impl.RightContraction(s, x, number))
			returns(t, c*x[0]%s.P)(impl.ScalarProduct(s, x, number))
			returns(t, 0)(impl.ScalarProduct(s, x, zero))
			returns(t, 0)(impl.ScalarProduct(s, zero, x))
		}
	})
}

// TestWedgeProductsAreAssociative tests what contractions by wedge products are, and reverses, too.
func TestWedgeProductsAreAssociative(t *testing.T) {
	t.Parallel()
	allSpaces(func(s impl.Space, r *source) {
		c := productCallsOf(t, s)
		for i, x := range someMultivectors(s, r) {
			others := someMultivectors(s, r)
			y, z := others[r.below(5)], others[i]
			returnsVector(t, c.wedge(x, c.wedge(y, z)))(impl.WedgeProduct(s, c.wedge(x, y), z))
			returnsVector(t, c.left(x, c.left(y, z)))(impl.LeftContraction(s, c.wedge(x, y), z))
			returnsVector(t, c.right(c.right(z, x), y))(impl.RightContraction(s, z, c.wedge(x, y)))
			returnsVector(t, c.left(x, c.right(y, z)))(impl.RightContraction(s, c.left(x, y), z))
			returnsVector(t, c.wedge(c.reverse(y), c.reverse(x)))(impl.ReverseOf(s, c.wedge(x, y)))
			returnsVector(t, c.right(c.reverse(y), c.reverse(x)))(impl.ReverseOf(s, c.left(x, y)))
		}
	})
}

// TestWedgesOfThreeBlades has all blades, so that wedge products are associative for all multivectors.
func TestWedgesOfThreeBlades(t *testing.T) {
	t.Parallel()
	fewSpaces(func(s impl.Space, r *source) {
		if len(s.Squares) > 3 && (len(s.Squares) > 4 || s.P > 5) {
			return
		}
		c := productCallsOf(t, s)
		for a := range bladesOf(s) {
			for b := range bladesOf(s) {
				ab := c.wedge(blade(s, a, 1), blade(s, b, 1))
				for d := range bladesOf(s) {
					bd := c.wedge(blade(s, b, 1), blade(s, d, 1))
					returnsVector(t, c.wedge(ab, blade(s, d, 1)))(impl.WedgeProduct(s, blade(s, a, 1), bd))
				}
			}
		}
	})
}

func TestProductsOfVectorsAreSums(t *testing.T) {
	t.Parallel()
	allSpaces(func(s impl.Space, r *source) {
		c, zero, n := productCallsOf(t, s), make([]int64, bladesOf(s)), len(s.Squares)
		for _, x := range someMultivectors(s, r) {
			v, w := r.vector(s.P, n), r.vector(s.P, n)
			a, b := vectorPart(s, v), vectorPart(s, w)
			returnsVector(t, c.times(a, x))(impl.AddMultivectors(s, c.left(a, x), c.wedge(a, x)))
			returnsVector(t, c.times(x, a))(impl.AddMultivectors(s, c.right(x, a), c.wedge(x, a)))
			returnsVector(t, zero)(impl.WedgeProduct(s, a, a))
			returnsVector(t, plus(s.P, zero, -1, c.wedge(a, b)))(impl.WedgeProduct(s, b, a))
			returnsVector(t, blade(s, 0, pairing(s, v, w)))(impl.LeftContraction(s, a, b))
			returnsVector(t, blade(s, 0, pairing(s, v, w)))(impl.RightContraction(s, a, b))
			returns(t, pairing(s, v, w))(impl.ScalarProduct(s, a, b))
		}
	})
}

// TestKindsAreGradeParts uses that the products of blades of grades k and l are the parts of the grades
// k + l, l - k and k - l of their geometric products.
func TestKindsAreGradeParts(t *testing.T) {
	t.Parallel()
	allSpaces(func(s impl.Space, r *source) {
		n, x, y := len(s.Squares), r.vector(s.P, bladesOf(s)), r.vector(s.P, bladesOf(s))
		for k := range n + 1 {
			for l := range n + 1 {
				a, b := must[[]int64](t)(impl.GradePart(s, x, int64(k))), must[[]int64](t)(impl.GradePart(s, y, int64(l)))
				ab := must[[]int64](t)(impl.GeometricProduct(s, a, b))
				for i, grade := range []int{k + l, l - k, k - l} {
					part := make([]int64, bladesOf(s))
					if grade >= 0 && grade <= n {
						part = must[[]int64](t)(impl.GradePart(s, ab, int64(grade)))
					}
					returnsVector(t, part)(kindsOfProducts[i].call(s, a, b))
				}
			}
		}
	})
}

func TestScalarProducts(t *testing.T) {
	t.Parallel()
	allSpaces(func(s impl.Space, r *source) {
		c := productCallsOf(t, s)
		for i, x := range someMultivectors(s, r) {
			others := someMultivectors(s, r)
			y, z := others[i], others[r.below(5)]
			want := scalarProduct(s, x, y)
			returns(t, want)(impl.ScalarProduct(s, x, y))
			returns(t, want)(impl.ScalarProduct(s, y, x))
			returns(t, want)(impl.ScalarProduct(s, c.reverse(x), c.reverse(y)))
			returns(t, want)(impl.ScalarOf(s, c.times(c.reverse(x), y)))
			// Taking a factor to the other side makes a wedge product a contraction.
			returns(t, must[int64](t)(impl.ScalarProduct(s, x, c.left(c.reverse(y), z))))(impl.ScalarProduct(s, c.wedge(y, x), z))
		}
	})
}

// TestScalarProductsOfWedges uses that they are the determinants of the products of the vectors.
func TestScalarProductsOfWedges(t *testing.T) {
	t.Parallel()
	allSpaces(func(s impl.Space, r *source) {
		n := len(s.Squares)
		for k := range n + 1 {
			first, second := r.matrix(s.P, k, n), r.matrix(s.P, k, n)
			products := zeros(k, k)
			for i, v := range first {
				for j, w := range second {
					products[i][j] = pairing(s, v, w)
				}
			}
			x, y := must[[]int64](t)(impl.WedgeOfVectors(s, first)), must[[]int64](t)(impl.WedgeOfVectors(s, second))
			returns(t, determinantOf(s.P, products))(impl.ScalarProduct(s, x, y))
		}
	})
}

func TestPseudoscalars(t *testing.T) {
	t.Parallel()
	signs := []int64{0, 1, -1, -1, 1, 1, -1}
	allSpaces(func(s impl.Space, r *source) {
		whole, square := blade(s, bladesOf(s)-1, 1), s.P+signs[len(s.Squares)]
		for _, a := range s.Squares {
			square = square * a % s.P
		}
		returnsVector(t, whole)(impl.PseudoscalarOf(s))
		returns(t, square)(impl.PseudoscalarSquare(s))
		returnsVector(t, blade(s, 0, square))(impl.GeometricProduct(s, whole, whole))
		returnsVector(t, whole)(impl.WedgeOfVectors(s, unit(len(s.Squares))))
	})
}

// inverseWhole looks for the multiple of the pseudoscalar whose product with it is 1.
func inverseWhole(s impl.Space) []int64 {
	last, one := bladesOf(s)-1, blade(s, 0, 1)
	for factor := range s.P {
		if slices.Equal(geometric(s, blade(s, last, 1), blade(s, last, factor)), one) {
			return blade(s, last, factor)
		}
	}
	return nil
}

// regularSpaces calls do with those of allSpaces that are regular.
func regularSpaces(do func(s impl.Space, r *source)) {
	allSpaces(func(s impl.Space, r *source) {
		if regularOf(s) {
			do(s, r)
		}
	})
}

func TestDuals(t *testing.T) {
	t.Parallel()
	regularSpaces(func(s impl.Space, r *source) {
		c, zero, one := productCallsOf(t, s), make([]int64, bladesOf(s)), blade(s, 0, 1)
		whole, inverse := blade(s, bladesOf(s)-1, 1), inverseWhole(s)
		for _, x := range append(someMultivectors(s, r), zero, one, whole, inverse, r.vector(s.P, bladesOf(s))) {
			returnsVector(t, geometric(s, x, inverse))(impl.DualOf(s, x))
			returnsVector(t, geometric(s, x, whole))(impl.UndualOf(s, x))
			returnsVector(t, x)(impl.UndualOf(s, c.dual(x)))
			returnsVector(t, x)(impl.DualOf(s, c.undual(x)))
		}
		returnsVector(t, zero)(impl.DualOf(s, zero))
		returnsVector(t, inverse)(impl.DualOf(s, one))
		returnsVector(t, one)(impl.DualOf(s, whole))
		returnsVector(t, whole)(impl.UndualOf(s, one))
		if len(s.Squares) <= 4 {
			returnsVector(t, inverse)(impl.InverseOf(s, whole))
		}
		// A vector is orthogonal to others exactly if its dual contains them.
		v, w := r.vector(s.P, len(s.Squares)), r.vector(s.P, len(s.Squares))
		contained := c.wedge(vectorPart(s, w), c.dual(vectorPart(s, v)))
		if isZero(contained) != (pairing(s, v, w) == 0) {
			t.Errorf("the dual of %v in %v, wedge %v, is %v", v, s, w, contained)
		}
	})
}

// TestAllSmallDuals has all multivectors of some spaces, and all blades of others.
func TestAllSmallDuals(t *testing.T) {
	t.Parallel()
	for _, s := range []impl.Space{space(3, 1), space(3, 2), space(5, 2), space(7, 3), space(13, 5), space(3, 1, 2), space(5, 2, 1), space(3, 2, 1, 2)} {
		inverse, whole := inverseWhole(s), blade(s, bladesOf(s)-1, 1)
		allVectors(s.P, bladesOf(s), func(x []int64) {
			returnsVector(t, geometric(s, x, inverse))(impl.DualOf(s, x))
			returnsVector(t, geometric(s, x, whole))(impl.UndualOf(s, x))
		})
	}
	regularSpaces(func(s impl.Space, r *source) {
		inverse, whole := inverseWhole(s), blade(s, bladesOf(s)-1, 1)
		for mask := range bladesOf(s) {
			x := blade(s, mask, 1+r.below(s.P-1))
			returnsVector(t, geometric(s, x, inverse))(impl.DualOf(s, x))
			returnsVector(t, geometric(s, x, whole))(impl.UndualOf(s, x))
		}
	})
}

// meetOf follows the definition with geometric products by the pseudoscalar.
func meetOf(s impl.Space, x []int64, y []int64) []int64 {
	inverse := inverseWhole(s)
	duals := kindsOfProducts[0].of(s, geometric(s, x, inverse), geometric(s, y, inverse))
	return geometric(s, duals, blade(s, bladesOf(s)-1, 1))
}

func TestMeets(t *testing.T) {
	t.Parallel()
	regularSpaces(func(s impl.Space, r *source) {
		c, zero, whole := productCallsOf(t, s), make([]int64, bladesOf(s)), blade(s, bladesOf(s)-1, 1)
		ones := space(s.P, slices.Repeat([]int64{1}, len(s.Squares))...)
		for i, x := range someMultivectors(s, r) {
			others := someMultivectors(s, r)
			y, z := others[r.below(5)], others[i]
			xy := meetOf(s, x, y)
			returnsVector(t, xy)(impl.MeetOf(s, x, y))
			// In the meet the squares are multiplied and divided by.
			returnsVector(t, xy)(impl.MeetOf(ones, x, y))
			returnsVector(t, c.meet(x, c.meet(y, z)))(impl.MeetOf(s, xy, z))
			returnsVector(t, c.wedge(c.dual(x), c.dual(y)))(impl.DualOf(s, xy))
			returnsVector(t, plus(s.P, xy, 1, c.meet(z, y)))(impl.MeetOf(s, plus(s.P, x, 1, z), y))
			returnsVector(t, x)(impl.MeetOf(s, whole, x))
			returnsVector(t, x)(impl.MeetOf(s, x, whole))
			returnsVector(t, zero)(impl.MeetOf(s, zero, x))
			returnsVector(t, zero)(impl.MeetOf(s, x, zero))
			returnsVector(t, blade(s, 0, x[len(x)-1]))(impl.MeetOf(s, x, blade(s, 0, 1)))
		}
	})
}

func TestMeetsOfAllBlades(t *testing.T) {
	t.Parallel()
	fewSpaces(func(s impl.Space, r *source) {
		if !regularOf(s) {
			return
		}
		n, inverse := len(s.Squares), inverseWhole(s)
		whole, last := blade(s, bladesOf(s)-1, 1), bladesOf(s)-1
		// The dual of a blade has the other basis vectors.
		var duals []int64
		for mask := range bladesOf(s) {
			duals = append(duals, geometric(s, blade(s, mask, 1), inverse)[last^mask])
		}
		for a := range bladesOf(s) {
			for b := range bladesOf(s) {
				want := make([]int64, bladesOf(s))
				if a|b == last {
					factor, mask := kindsOfProducts[0].ofBlades(s, last^a, last^b)
					want = geometric(s, blade(s, mask, duals[a]*duals[b]%s.P*factor%s.P), whole)
					if len(indicesOf(a&b)) != len(indicesOf(a))+len(indicesOf(b))-n || want[a&b] == 0 {
						t.Errorf("the test makes the meet %v of the masks %d and %d", want, a, b)
					}
				}
				returnsVector(t, want)(impl.MeetOf(s, blade(s, a, 1), blade(s, b, 1)))
			}
		}
	})
}

// TestMeetsAreIntersections compares with the vectors that satisfy the equations of both subspaces.
func TestMeetsAreIntersections(t *testing.T) {
	t.Parallel()
	regularSpaces(func(s impl.Space, r *source) {
		n := len(s.Squares)
		k, l := 1+int(r.below(int64(n))), 1+int(r.below(int64(n)))
		a, b := r.reducedBasis(s.P, k, n), r.reducedBasis(s.P, l, n)
		x, y := wedgeOf(s, a), wedgeOf(s, b)
		meet := must[[]int64](t)(impl.MeetOf(s, x, y))
		if must[int64](t)(impl.RankOf(s.P, slices.Concat(a, b))) < int64(n) {
			returnsVector(t, make([]int64, bladesOf(s)))(meet, impl.ErrNone)
			return
		}
		if isZero(meet) {
			t.Errorf("the meet of %v and %v in %v is 0", a, b, s)
		}
		equations := slices.Concat(zeros(1, n), must[[][]int64](t)(impl.KernelBasis(s.P, a)), must[[][]int64](t)(impl.KernelBasis(s.P, b)))
		both := must[[][]int64](t)(impl.KernelBasis(s.P, equations))
		returnsVector(t, []int64{int64(k + l - n)})(impl.GradesOf(s, meet))
		for _, v := range both {
			returnsVector(t, make([]int64, bladesOf(s)))(impl.WedgeProduct(s, vectorPart(s, v), meet))
		}
		v := r.vector(s.P, n)
		inBoth := isZero(apply(s.P, equations, v))
		if isZero(must[[]int64](t)(impl.WedgeProduct(s, vectorPart(s, v), meet))) != inBoth {
			t.Errorf("%v in the meet of %v and %v in %v has to be %v", v, a, b, s, inBoth)
		}
	})
}

// TestSpacesWithoutDuals has one square that is 0, at each place, and more of them.
func TestSpacesWithoutDuals(t *testing.T) {
	t.Parallel()
	allSpaces(func(s impl.Space, r *source) {
		if regularOf(s) {
			return
		}
		bad := blade(s, 0, s.P)
		for _, x := range append(someMultivectors(s, r), make([]int64, bladesOf(s)), blade(s, 0, 1)) {
			refuses(t, "DualOf", ofVector(impl.DualOf(s, x)), impl.ErrState)
			refuses(t, "UndualOf", ofVector(impl.UndualOf(s, x)), impl.ErrState)
			refuses(t, "MeetOf", ofVector(impl.MeetOf(s, x, x)), impl.ErrState)
			refuses(t, "MeetOf", ofVector(impl.MeetOf(s, x, bad)), impl.ErrRange)
			refuses(t, "MeetOf", ofVector(impl.MeetOf(s, bad, x)), impl.ErrRange)
			refuses(t, "MeetOf", ofVector(impl.MeetOf(s, x, x[1:])), impl.ErrRange)
			refuses(t, "MeetOf", ofVector(impl.MeetOf(s, nil, x)), impl.ErrRange)
		}
		refuses(t, "DualOf", ofVector(impl.DualOf(s, bad)), impl.ErrRange)
		refuses(t, "UndualOf", ofVector(impl.UndualOf(s, bad)), impl.ErrRange)
		returnsVector(t, blade(s, bladesOf(s)-1, 1))(impl.PseudoscalarOf(s))
		returns(t, 0)(impl.PseudoscalarSquare(s))
		u := space(s.P, append(slices.Clone(s.Squares[1:]), s.P)...)
		refuses(t, "DualOf", ofVector(impl.DualOf(u, blade(s, 0, 1))), impl.ErrInvalid)
		refuses(t, "UndualOf", ofVector(impl.UndualOf(u, bad)), impl.ErrInvalid)
		refuses(t, "MeetOf", ofVector(impl.MeetOf(u, nil, bad)), impl.ErrInvalid)
	})
}

func TestWedgesOfVectors(t *testing.T) {
	t.Parallel()
	allSpaces(func(s impl.Space, r *source) {
		n, one, zero := len(s.Squares), blade(s, 0, 1), make([]int64, bladesOf(s))
		returnsVector(t, one)(impl.WedgeOfVectors(s, nil))
		returnsVector(t, one)(impl.WedgeOfVectors(s, [][]int64{}))
		for k := 1; k <= n; k++ {
			list := r.matrix(s.P, k, n)
			wedge, steps := wedgeOf(s, list), one
			for _, v := range list {
				steps = must[[]int64](t)(impl.WedgeProduct(s, steps, vectorPart(s, v)))
			}
			returnsVector(t, wedge)(impl.WedgeOfVectors(s, list))
			returnsVector(t, wedge)(steps, impl.ErrNone)
			if k == 1 {
				continue
			}
			// A multiple of another vector changes nothing, an exchange the sign.
			i, j := int(r.below(int64(k))), int(r.below(int64(k)-1))
			if j >= i {
				j++
			}
			sheared, exchanged := slices.Clone(list), slices.Clone(list)
			sheared[i] = plus(s.P, list[i], r.below(s.P), list[j])
			exchanged[i], exchanged[j] = list[j], list[i]
			returnsVector(t, wedge)(impl.WedgeOfVectors(s, sheared))
			returnsVector(t, plus(s.P, zero, -1, wedge))(impl.WedgeOfVectors(s, exchanged))
		}
		for k := n + 1; k <= 16; k++ {
			returnsVector(t, zero)(impl.WedgeOfVectors(s, slices.Concat(unit(n), r.matrix(s.P, k-n, n))))
		}
		returnsVector(t, zero)(impl.WedgeOfVectors(s, zeros(1, n)))
		returnsVector(t, zero)(impl.WedgeOfVectors(s, zeros(16, n)))
	})
}

// checkDependence compares with the wedge product, the rank and, if they are few, all sums of multiples.
func checkDependence(t *testing.T, s impl.Space, list [][]int64) {
	t.Helper()
	dependent := isZero(must[[]int64](t)(impl.WedgeOfVectors(s, list)))
	returnsBool(t, dependent)(impl.AreDependent(s, list))
	if len(list) > 0 {
		returnsBool(t, must[int64](t)(impl.RankOf(s.P, list)) < int64(len(list)))(impl.AreDependent(s, list))
	}
	if len(list) == 0 || powerOf(s.P, min(len(list), 6)) > 400 {
		return
	}
	found := false
	allVectors(s.P, len(list), func(factors []int64) {
		found = found || !isZero(factors) && isZero(apply(s.P, flip(list), factors))
	})
	returnsBool(t, found)(impl.AreDependent(s, list))
}

func TestDependence(t *testing.T) {
	t.Parallel()
	allSpaces(func(s impl.Space, r *source) {
		n := len(s.Squares)
		returnsBool(t, false)(impl.AreDependent(s, nil))
		returnsBool(t, false)(impl.AreDependent(s, [][]int64{}))
		returnsBool(t, true)(impl.AreDependent(s, zeros(1, n)))
		returnsBool(t, true)(impl.AreDependent(s, zeros(16, n)))
		returnsBool(t, true)(impl.AreDependent(s, slices.Concat(unit(n), r.matrix(s.P, 1, n))))
		for k := range n + 1 {
			returnsBool(t, false)(impl.AreDependent(s, unit(n)[n-k:]))
			returnsBool(t, true)(impl.AreDependent(s, slices.Concat(unit(n)[:k], zeros(1, n))))
			checkDependence(t, s, unit(n)[:k])
		}
		for k := range 17 {
			checkDependence(t, s, r.matrix(s.P, k, n))
		}
		for k := 1; k <= n; k++ {
			v := 1 + r.below(s.P-1)
			independent := r.reducedBasis(s.P, k, n)
			returnsBool(t, false)(impl.AreDependent(s, independent))
			checkDependence(t, s, independent)
			multiple := plus(s.P, make([]int64, n), v, independent[k-1])
			returnsBool(t, true)(impl.AreDependent(s, append(independent, multiple)))
			checkDependence(t, s, r.matrixOfRank(s.P, k, n, k-1))
		}
	})
}

// TestAllSmallLists has all lists of some lengths.
func TestAllSmallLists(t *testing.T) {
	t.Parallel()
	for _, size := range [][3]int{{3, 1, 1}, {3, 1, 3}, {3, 2, 1}, {3, 2, 2}, {3, 2, 3}, {3, 3, 2}, {5, 1, 2}, {5, 2, 2}, {7, 2, 1}, {13, 1, 2}} {
		p, n, k := int64(size[0]), size[1], size[2]
		s := space(p, slices.Repeat([]int64{p - 1}, n)...)
		allMatrices(p, k, n, func(list [][]int64) {
			checkDependence(t, s, list)
			returnsVector(t, wedgeOf(s, list))(impl.WedgeOfVectors(s, list))
			if n == k {
				returns(t, determinantOf(p, list))(impl.VolumeOf(s, list))
			} else {
				refuses(t, "VolumeOf", ofNumber(impl.VolumeOf(s, list)), impl.ErrRange)
			}
		})
	}
}

func TestVolumes(t *testing.T) {
	t.Parallel()
	allSpaces(func(s impl.Space, r *source) {
		n := len(s.Squares)
		returns(t, 1)(impl.VolumeOf(s, unit(n)))
		returns(t, 0)(impl.VolumeOf(s, zeros(n, n)))
		for _, list := range [][][]int64{r.matrix(s.P, n, n), r.regular(s.P, n), r.matrixOfRank(s.P, n, n, n-1)} {
			volume := determinantOf(s.P, list)
			returns(t, volume)(impl.VolumeOf(s, list))
			returns(t, must[int64](t)(impl.Determinant(s.P, list)))(impl.VolumeOf(s, list))
			returnsBool(t, volume == 0)(impl.AreDependent(s, list))
			returnsVector(t, blade(s, bladesOf(s)-1, volume))(impl.WedgeOfVectors(s, list))
		}
		for length := range 20 {
			if length != n {
				refuses(t, "VolumeOf", ofNumber(impl.VolumeOf(s, r.matrix(s.P, length, n))), impl.ErrRange)
			}
		}
		refuses(t, "VolumeOf nil", ofNumber(impl.VolumeOf(s, nil)), impl.ErrRange)
	})
}

// callsOfProducts are the calls with multivectors of a space, of which x is one.
func callsOfProducts(s impl.Space, x []int64, good []int64) map[string]result {
	return map[string]result{
		"WedgeProduct first":      ofVector(impl.WedgeProduct(s, x, good)),
		"WedgeProduct second":     ofVector(impl.WedgeProduct(s, good, x)),
		"WedgeProduct both":       ofVector(impl.WedgeProduct(s, x, x)),
		"LeftContraction first":   ofVector(impl.LeftContraction(s, x, good)),
		"LeftContraction second":  ofVector(impl.LeftContraction(s, good, x)),
		"LeftContraction both":    ofVector(impl.LeftContraction(s, x, x)),
		"RightContraction first":  ofVector(impl.RightContraction(s, x, good)),
		"RightContraction second": ofVector(impl.RightContraction(s, good, x)),
		"RightContraction both":   ofVector(impl.RightContraction(s, x, x)),
		"ScalarProduct first":     ofNumber(impl.ScalarProduct(s, x, good)),
		"ScalarProduct second":    ofNumber(impl.ScalarProduct(s, good, x)),
		"ScalarProduct both":      ofNumber(impl.ScalarProduct(s, x, x)),
		"DualOf":                  ofVector(impl.DualOf(s, x)),
		"UndualOf":                ofVector(impl.UndualOf(s, x)),
		"MeetOf first":            ofVector(impl.MeetOf(s, x, good)),
		"MeetOf second":           ofVector(impl.MeetOf(s, good, x)),
		"MeetOf both":             ofVector(impl.MeetOf(s, x, x)),
	}
}

func callsOfProductLists(s impl.Space, list [][]int64) map[string]result {
	return map[string]result{
		"WedgeOfVectors": ofVector(impl.WedgeOfVectors(s, list)),
		"AreDependent":   ofBool(impl.AreDependent(s, list)),
		"VolumeOf":       ofNumber(impl.VolumeOf(s, list)),
	}
}

// TestProductsOfNoSpaces gives other arguments that are right, and some that are wrong, too.
func TestProductsOfNoSpaces(t *testing.T) {
	t.Parallel()
	for _, s := range notSpaces() {
		n := len(s.Squares)
		refuses(t, "PseudoscalarOf", ofVector(impl.PseudoscalarOf(s)), impl.ErrInvalid)
		refuses(t, "PseudoscalarSquare", ofNumber(impl.PseudoscalarSquare(s)), impl.ErrInvalid)
		for _, length := range []int{0, 4, 1 << min(n, 7)} {
			x := slices.Repeat([]int64{1}, length)
			for call, got := range callsOfProducts(s, x, x) {
				refuses(t, call, got, impl.ErrInvalid)
			}
		}
		for _, list := range [][][]int64{nil, unit(n), zeros(1, n), zeros(n, n), zeros(17, 2), {nil}, {{-1, 1}}, {{1, 0}, {1}}} {
			for call, got := range callsOfProductLists(s, list) {
				refuses(t, call, got, impl.ErrInvalid)
			}
		}
	}
}

func TestProductsOfNoMultivectors(t *testing.T) {
	t.Parallel()
	for _, p := range primes {
		for n := 1; n <= 6; n++ {
			for _, square := range []int64{0, 1} {
				s := space(p, slices.Repeat([]int64{square}, n)...)
				for _, bad := range notMultivectors(s) {
					for call, got := range callsOfProducts(s, bad, blade(s, 0, 1)) {
						refuses(t, call, got, impl.ErrRange)
					}
				}
			}
		}
	}
}

func TestProductsOfNoVectors(t *testing.T) {
	t.Parallel()
	for _, p := range primes {
		for n := 1; n <= 6; n++ {
			for _, square := range []int64{0, 1} {
				s := space(p, slices.Repeat([]int64{square}, n)...)
				for _, bad := range notVectors(s) {
					for length := range 17 {
						for _, place := range []int{0, length / 2, length} {
							for call, got := range callsOfProductLists(s, slices.Insert(zeros(length, n), place, bad)) {
								refuses(t, call, got, impl.ErrRange)
							}
						}
					}
				}
				for length := 17; length <= 40; length++ {
					for call, got := range callsOfProductLists(s, zeros(length, n)) {
						refuses(t, call, got, impl.ErrRange)
					}
				}
			}
		}
	}
}

// listsOfProducts are the results of the calls that return lists.
func listsOfProducts(t *testing.T, s impl.Space, list [][]int64, x []int64, y []int64) map[string][]int64 {
	t.Helper()
	one, zero := blade(s, 0, 1), make([]int64, bladesOf(s))
	lists := map[string][]int64{
		"WedgeProduct":             must[[]int64](t)(impl.WedgeProduct(s, x, y)),
		"WedgeProduct by 1":        must[[]int64](t)(impl.WedgeProduct(s, x, one)),
		"WedgeProduct of 1":        must[[]int64](t)(impl.WedgeProduct(s, one, y)),
		"WedgeProduct by 0":        must[[]int64](t)(impl.WedgeProduct(s, zero, zero)),
		"LeftContraction":          must[[]int64](t)(impl.LeftContraction(s, x, y)),
		"LeftContraction of 1":     must[[]int64](t)(impl.LeftContraction(s, one, y)),
		"RightContraction":         must[[]int64](t)(impl.RightContraction(s, x, y)),
		"RightContraction by 1":    must[[]int64](t)(impl.RightContraction(s, x, one)),
		"PseudoscalarOf":           must[[]int64](t)(impl.PseudoscalarOf(s)),
		"WedgeOfVectors":           must[[]int64](t)(impl.WedgeOfVectors(s, list)),
		"WedgeOfVectors of one":    must[[]int64](t)(impl.WedgeOfVectors(s, list[:1])),
		"WedgeOfVectors of no one": must[[]int64](t)(impl.WedgeOfVectors(s, list[:0])),
	}
	if regularOf(s) {
		lists["DualOf"] = must[[]int64](t)(impl.DualOf(s, x))
		lists["UndualOf"] = must[[]int64](t)(impl.UndualOf(s, x))
		lists["MeetOf"] = must[[]int64](t)(impl.MeetOf(s, x, y))
		lists["MeetOf the pseudoscalar"] = must[[]int64](t)(impl.MeetOf(s, blade(s, bladesOf(s)-1, 1), y))
	}
	return lists
}

// TestProductsAreNewMemory overwrites all results, and then calls everything again.
func TestProductsAreNewMemory(t *testing.T) {
	t.Parallel()
	fewSpaces(func(kept impl.Space, r *source) {
		var g guard
		n := len(kept.Squares)
		s := impl.Space{P: kept.P, Squares: g.keep([][]int64{kept.Squares})[0]}
		list := g.keep(r.matrix(s.P, n, n))
		rows := g.keep([][]int64{r.vector(s.P, bladesOf(s)), slices.Repeat([]int64{s.P - 1}, bladesOf(s))})
		x, y := rows[0], rows[1]
		before := map[string][]int64{}
		for call, row := range listsOfProducts(t, s, list, x, y) {
			g.check(t, call)
			before[call] = slices.Clone(row)
			overwrite(t, call, [][]int64{row})
			g.check(t, "overwriting the result of "+call)
		}
		for call, row := range listsOfProducts(t, s, list, x, y) {
			if !slices.Equal(row, before[call]) {
				t.Errorf("%s of %v returns something else the second time", call, s)
			}
		}
		must[int64](t)(impl.ScalarProduct(s, x, y))
		must[int64](t)(impl.PseudoscalarSquare(s))
		must[bool](t)(impl.AreDependent(s, list))
		must[int64](t)(impl.VolumeOf(s, list))
		impl.DualOf(s, x)
		impl.UndualOf(s, x)
		impl.MeetOf(s, x, y)
		impl.VolumeOf(s, list[:n-1])
		g.check(t, "a call that returns no list")
	})
}
