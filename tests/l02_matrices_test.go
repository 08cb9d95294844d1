package tests

import (
	"math"
	"slices"
	"strconv"
	"testing"

	"loop.example/g01124/impl"
)

func ofMatrix(m [][]int64, code int64) result { return result{code, len(m) == 0} }

func ofVector(v []int64, code int64) result { return result{code, len(v) == 0} }

func equalRows(a [][]int64, b [][]int64) bool {
	return slices.EqualFunc(a, b, slices.Equal[[]int64])
}

// returnsMatrix checks that a call returns a matrix or list of vectors, and ErrNone.
func returnsMatrix(t *testing.T, want [][]int64) func(got [][]int64, code int64) {
	t.Helper()
	return func(got [][]int64, code int64) {
		t.Helper()
		if !equalRows(got, want) || code != impl.ErrNone {
			t.Errorf("rows %v, code %d; it has to be %v, code 0", got, code, want)
		}
	}
}

// returnsVector checks that a call returns a list of numbers and ErrNone.
func returnsVector(t *testing.T, want []int64) func(got []int64, code int64) {
	t.Helper()
	return func(got []int64, code int64) {
		t.Helper()
		if !slices.Equal(got, want) || code != impl.ErrNone {
			t.Errorf("list %v, code %d; it has to be %v, code 0", got, code, want)
		}
	}
}

func returnsBool(t *testing.T, want bool) func(got bool, code int64) {
	t.Helper()
	return func(got bool, code int64) {
		t.Helper()
		if got != want || code != impl.ErrNone {
			t.Errorf("%v, code %d; it has to be %v, code 0", got, code, want)
		}
	}
}

// must returns the result of a call that has to return ErrNone.
func must[T any](t *testing.T) func(got T, code int64) T {
	t.Helper()
	return func(got T, code int64) T {
		t.Helper()
		if code != impl.ErrNone {
			t.Fatalf("code %d; it has to be 0", code)
		}
		return got
	}
}

// source makes numbers that look like random ones, the same ones in each run.
type source uint64

func (s *source) below(n int64) int64 {
	*s = *s*6364136223846793005 + 1442695040888963407
	return int64(*s>>33) % n
}

func (s *source) vector(p int64, length int) []int64 {
	v := make([]int64, length)
	for i := range v {
		v[i] = s.below(p)
	}
	return v
}

func (s *source) matrix(p int64, rows int, columns int) [][]int64 {
	m := make([][]int64, rows)
	for i := range m {
		m[i] = s.vector(p, columns)
	}
	return m
}

// matrixOfRank has at most the given rank: it is a product of two matrices that are that narrow.
func (s *source) matrixOfRank(p int64, rows int, columns int, rank int) [][]int64 {
	if rank == 0 {
		return zeros(rows, columns)
	}
	return product(p, s.matrix(p, rows, rank), s.matrix(p, rank, columns))
}

// regular returns a matrix with an inverse: a product of triangular ones, with rows exchanged.
func (s *source) regular(p int64, size int) [][]int64 {
	upper, lower := s.matrix(p, size, size), s.matrix(p, size, size)
	for i := range size {
		for j := range size {
			if i > j {
				upper[i][j] = 0
			}
			if i < j {
				lower[i][j] = 0
			}
		}
		upper[i][i], lower[i][i] = 1+s.below(p-1), 1+s.below(p-1)
	}
	m := product(p, lower, upper)
	for i := range m {
		j := s.below(int64(size))
		m[i], m[j] = m[j], m[i]
	}
	return m
}

func zeros(rows int, columns int) [][]int64 {
	m := make([][]int64, rows)
	for i := range m {
		m[i] = make([]int64, columns)
	}
	return m
}

func diagonal(numbers ...int64) [][]int64 {
	m := zeros(len(numbers), len(numbers))
	for i, a := range numbers {
		m[i][i] = a
	}
	return m
}

func unit(size int) [][]int64 {
	m := zeros(size, size)
	for i := range m {
		m[i][i] = 1
	}
	return m
}

func flip(m [][]int64) [][]int64 {
	flipped := zeros(len(m[0]), len(m))
	for i := range m {
		for j := range m[i] {
			flipped[j][i] = m[i][j]
		}
	}
	return flipped
}

func apply(p int64, a [][]int64, v []int64) []int64 {
	image := make([]int64, len(a))
	for i := range a {
		for j := range v {
			image[i] = (image[i] + a[i][j]*v[j]) % p
		}
	}
	return image
}

func product(p int64, a [][]int64, b [][]int64) [][]int64 {
	m := zeros(len(a), len(b[0]))
	for i := range m {
		for j := range m[i] {
			for k := range b {
				m[i][j] = (m[i][j] + a[i][k]*b[k][j]) % p
			}
		}
	}
	return m
}

// determinantOf expands along the first row.
func determinantOf(p int64, a [][]int64) int64 {
	if len(a) == 0 {
		return 1
	}
	sum, sign := int64(0), int64(1)
	for j := range a {
		if a[0][j] != 0 {
			var minor [][]int64
			for _, row := range a[1:] {
				minor = append(minor, slices.Concat(row[:j], row[j+1:]))
			}
			sum = (sum + sign*a[0][j]*determinantOf(p, minor)) % p
		}
		sign = p - sign
	}
	return sum
}

// allVectors calls do with each vector of a length, the last number changing fastest.
func allVectors(p int64, length int, do func(v []int64)) {
	v := make([]int64, length)
	for {
		do(v)
		i := length - 1
		for i >= 0 && v[i] == p-1 {
			v[i] = 0
			i--
		}
		if i < 0 {
			return
		}
		v[i]++
	}
}

// allMatrices calls do with each matrix of a size.
func allMatrices(p int64, rows int, columns int, do func(m [][]int64)) {
	allVectors(p, rows*columns, func(v []int64) {
		m := make([][]int64, rows)
		for i := range m {
			m[i] = slices.Clone(v[i*columns : (i+1)*columns])
		}
		do(m)
	})
}

// spanOf has all sums of multiples of the vectors, by their numbers as bytes.
func spanOf(p int64, list [][]int64, length int) map[string]bool {
	span := map[string]bool{key(make([]int64, length)): true}
	for _, v := range list {
		wider := map[string]bool{}
		for k := range span {
			for factor := range p {
				w := make([]int64, length)
				for i := range w {
					w[i] = (int64(k[i]) + factor*v[i]) % p
				}
				wider[key(w)] = true
			}
		}
		span = wider
	}
	return span
}

func key(v []int64) string {
	bytes := make([]byte, len(v))
	for i, a := range v {
		bytes[i] = byte(a)
	}
	return string(bytes)
}

func powerOf(p int64, exponent int) int {
	power := 1
	for range exponent {
		power *= int(p)
	}
	return power
}

// isReduced reports whether a list has the form of a reduced basis.
func isReduced(p int64, basis [][]int64) bool {
	last := -1
	for _, v := range basis {
		place := slices.IndexFunc(v, func(a int64) bool { return a != 0 })
		if place <= last || v[place] != 1 {
			return false
		}
		for _, a := range v {
			if a < 0 || a >= p {
				return false
			}
		}
		others := 0
		for _, w := range basis {
			if w[place] != 0 {
				others++
			}
		}
		if others != 1 {
			return false
		}
		last = place
	}
	return true
}

// smallSizes are those for which all vectors can be gone through.
func smallSizes(p int64) [][2]int {
	switch p {
	case 3:
		return [][2]int{{1, 1}, {1, 4}, {2, 3}, {3, 2}, {3, 3}, {4, 1}, {3, 5}, {5, 3}, {4, 4}, {2, 6}}
	case 5, 7:
		return [][2]int{{1, 1}, {1, 3}, {2, 2}, {2, 3}, {3, 2}, {3, 1}, {3, 3}, {4, 2}}
	}
	return [][2]int{{1, 1}, {1, 3}, {2, 2}, {2, 3}, {3, 2}, {3, 1}}
}

// greatSizes are those for which only equations can be tested.
func greatSizes() [][2]int {
	return [][2]int{{1, 16}, {16, 1}, {5, 16}, {16, 5}, {7, 9}, {15, 16}, {16, 15}, {16, 16}}
}

func TestMaxRows(t *testing.T) {
	t.Parallel()
	if impl.MaxRows != 16 {
		t.Errorf("MaxRows is %d", impl.MaxRows)
	}
}

func TestIsMatrix(t *testing.T) {
	t.Parallel()
	for _, p := range primes {
		for rows := range impl.MaxRows + 3 {
			for columns := range impl.MaxRows + 3 {
				want := rows >= 1 && rows <= 16 && columns >= 1 && columns <= 16
				if impl.IsMatrix(p, zeros(rows, columns)) != want {
					t.Errorf("IsMatrix(%d) of %d rows with %d numbers has to be %v", p, rows, columns, want)
				}
			}
		}
		var s source
		for _, size := range greatSizes() {
			m := s.matrix(p, size[0], size[1])
			if !impl.IsMatrix(p, m) {
				t.Errorf("IsMatrix(%d, %v) has to be true", p, m)
			}
			for _, bad := range notNumbers(p) {
				i, j := s.below(int64(size[0])), s.below(int64(size[1]))
				for _, place := range [][2]int64{{i, j}, {0, 0}, {int64(size[0]) - 1, int64(size[1]) - 1}} {
					kept := m[place[0]][place[1]]
					m[place[0]][place[1]] = bad
					if impl.IsMatrix(p, m) {
						t.Errorf("IsMatrix(%d, %v) has to be false", p, m)
					}
					m[place[0]][place[1]] = kept
				}
			}
		}
	}
}

func TestIsMatrixRefuses(t *testing.T) {
	t.Parallel()
	for _, p := range primes {
		for _, m := range notMatrices(p) {
			if impl.IsMatrix(p, m) {
				t.Errorf("IsMatrix(%d, %v) has to be false", p, m)
			}
		}
	}
	for _, p := range notPrimes() {
		for _, m := range [][][]int64{nil, {}, {{}}, {{0}}, {{1}}, zeros(2, 3), zeros(16, 16)} {
			if impl.IsMatrix(p, m) {
				t.Errorf("IsMatrix(%d, %v) has to be false", p, m)
			}
		}
	}
}

// notLists are neither matrices nor lists of vectors.
func notLists(p int64) [][][]int64 {
	return [][][]int64{
		{{}}, {nil}, {nil, nil}, {{0}, nil}, {nil, {0}}, {{0}, {0, 0}}, {{0, 0}, {0}}, {{0, 0}, {0, 0}, {0}}, {{0, 0}, {0, 0}, {0, 0, 0}},
		{{p}}, {{-1}}, {{0, 0}, {0, p}}, {{0, -1}, {0, 0}}, {{math.MinInt64}}, {{1, 1 << 32}},
		zeros(17, 1), zeros(1, 17), zeros(17, 17), zeros(17, 16), zeros(16, 17), zeros(17, 0), zeros(1000, 1000),
		append(zeros(15, 16), make([]int64, 17)), append(zeros(15, 16), make([]int64, 15)),
	}
}

func notMatrices(p int64) [][][]int64 {
	return append(notLists(p), nil, [][]int64{})
}

func TestProductsAndSums(t *testing.T) {
	t.Parallel()
	returnsVector(t, []int64{3, 3})(impl.ApplyMatrix(5, [][]int64{{1, 2}, {0, 3}}, []int64{1, 1}))
	returnsMatrix(t, [][]int64{{5, 1}, {1, 1}})(impl.MultiplyMatrices(7, [][]int64{{1, 2}, {3, 4}}, [][]int64{{5, 6}, {0, 1}}))
	for _, p := range primes {
		var s source
		for _, size := range slices.Concat(smallSizes(p), greatSizes()) {
			a, b, v, k := s.matrix(p, size[0], size[1]), s.matrix(p, size[0], size[1]), s.vector(p, size[1]), s.below(p)
			sum, scaled := zeros(size[0], size[1]), zeros(size[0], size[1])
			for i := range a {
				for j := range a[i] {
					sum[i][j], scaled[i][j] = (a[i][j]+b[i][j])%p, a[i][j]*k%p
				}
			}
			returnsMatrix(t, sum)(impl.AddMatrices(p, a, b))
			returnsMatrix(t, scaled)(impl.ScaleMatrix(p, a, k))
			returnsMatrix(t, zeros(size[0], size[1]))(impl.ScaleMatrix(p, a, 0))
			returnsMatrix(t, a)(impl.ScaleMatrix(p, a, 1))
			returnsMatrix(t, flip(a))(impl.TransposeMatrix(p, a))
			returnsVector(t, apply(p, a, v))(impl.ApplyMatrix(p, a, v))
			for _, columns := range []int{1, 2, size[0], size[1], 16} {
				c := s.matrix(p, size[1], columns)
				returnsMatrix(t, product(p, a, c))(impl.MultiplyMatrices(p, a, c))
			}
		}
		// The greatest numbers make the greatest sums.
		m := zeros(16, 16)
		for i := range m {
			for j := range m {
				m[i][j] = p - 1
			}
		}
		returnsMatrix(t, product(p, m, m))(impl.MultiplyMatrices(p, m, m))
	}
}

func TestTraceOf(t *testing.T) {
	t.Parallel()
	for _, p := range primes {
		var s source
		for size := 1; size <= impl.MaxRows; size++ {
			m, trace := s.matrix(p, size, size), int64(0)
			for i := range m {
				trace += m[i][i]
			}
			returns(t, trace%p)(impl.TraceOf(p, m))
			returns(t, int64(size)%p)(impl.TraceOf(p, unit(size)))
			returns(t, 0)(impl.TraceOf(p, zeros(size, size)))
		}
	}
}

// checkSquareMatrix tests what the chapter guarantees of a square matrix, by its known determinant.
func checkSquareMatrix(t *testing.T, p int64, m [][]int64, determinant int64) {
	t.Helper()
	size := len(m)
	returns(t, determinant)(impl.Determinant(p, m))
	rank := must[int64](t)(impl.RankOf(p, m))
	if (rank == int64(size)) != (determinant != 0) {
		t.Errorf("RankOf(%d, %v) = %d, and the determinant is %d", p, m, rank, determinant)
	}
	if determinant == 0 {
		refuses(t, "InverseMatrix", ofMatrix(impl.InverseMatrix(p, m)), impl.ErrState)
	} else {
		inverse := must[[][]int64](t)(impl.InverseMatrix(p, m))
		if !impl.IsMatrix(p, inverse) || !equalRows(product(p, m, inverse), unit(size)) || !equalRows(product(p, inverse, m), unit(size)) {
			t.Errorf("InverseMatrix(%d, %v) = %v", p, m, inverse)
		}
	}
	checkCharacteristic(t, p, m, determinant)
}

// checkCharacteristic tests the form of the characteristic polynomial, its known coefficients, and
// that the matrix put into it is 0.
func checkCharacteristic(t *testing.T, p int64, m [][]int64, determinant int64) {
	t.Helper()
	size := len(m)
	polynomial := must[[]int64](t)(impl.CharacteristicPolynomial(p, m))
	if len(polynomial) != size+1 || polynomial[size] != 1 {
		t.Fatalf("CharacteristicPolynomial(%d, %v) = %v", p, m, polynomial)
	}
	trace := int64(0)
	for i := range m {
		trace += m[i][i]
	}
	if size%2 == 1 {
		determinant = (p - determinant) % p
	}
	if (polynomial[size-1]+trace)%p != 0 || polynomial[0] != determinant {
		t.Errorf("CharacteristicPolynomial(%d, %v) = %v, but the trace is %d", p, m, polynomial, trace)
	}
	value, power := zeros(size, size), unit(size)
	for _, coefficient := range polynomial {
		if coefficient < 0 || coefficient >= p {
			t.Errorf("CharacteristicPolynomial(%d, %v) = %v", p, m, polynomial)
		}
		for i := range m {
			for j := range m {
				value[i][j] = (value[i][j] + coefficient*power[i][j]) % p
			}
		}
		power = product(p, power, m)
	}
	if !equalRows(value, zeros(size, size)) {
		t.Errorf("CharacteristicPolynomial(%d, %v) = %v, with the value %v", p, m, polynomial, value)
	}
}

// checkValues compares the characteristic polynomial with determinants at all numbers. These
// determine it if the matrix has fewer rows than there are numbers.
func checkValues(t *testing.T, p int64, m [][]int64) {
	t.Helper()
	polynomial := must[[]int64](t)(impl.CharacteristicPolynomial(p, m))
	for z := range p {
		value, less := int64(0), zeros(len(m), len(m))
		for i := len(polynomial) - 1; i >= 0; i-- {
			value = (value*z + polynomial[i]) % p
		}
		for i := range m {
			for j := range m {
				less[i][j] = (p - m[i][j]) % p
			}
			less[i][i] = (less[i][i] + z) % p
		}
		if want := determinantOf(p, less); value != want {
			t.Errorf("CharacteristicPolynomial(%d, %v) = %v, at %d %d; it has to be %d", p, m, polynomial, z, value, want)
		}
	}
}

func TestAllSmallSquareMatrices(t *testing.T) {
	t.Parallel()
	check := func(p int64, size int) {
		allMatrices(p, size, size, func(m [][]int64) {
			checkSquareMatrix(t, p, m, determinantOf(p, m))
		})
	}
	check(3, 3)
	for _, p := range primes {
		check(p, 1)
		check(p, 2)
	}
}

func TestSquareMatrices(t *testing.T) {
	t.Parallel()
	for _, p := range primes {
		var s source
		for range 40 {
			for size := 2; size <= 6; size++ {
				m := s.matrix(p, size, size)
				checkSquareMatrix(t, p, m, determinantOf(p, m))
				checkValues(t, p, m)
				m = s.matrixOfRank(p, size, size, int(s.below(int64(size))))
				checkSquareMatrix(t, p, m, 0)
				checkValues(t, p, m)
			}
		}
	}
}

func TestGreatSquareMatrices(t *testing.T) {
	t.Parallel()
	for _, p := range primes {
		var s source
		for size := 7; size <= impl.MaxRows; size++ {
			for range 6 {
				a, b := s.regular(p, size), s.matrix(p, size, size)
				x, y := must[int64](t)(impl.Determinant(p, a)), must[int64](t)(impl.Determinant(p, b))
				if x == 0 {
					t.Errorf("Determinant(%d, %v) = 0, but there is an inverse", p, a)
				}
				checkSquareMatrix(t, p, a, x)
				checkSquareMatrix(t, p, b, y)
				checkSquareMatrix(t, p, product(p, a, b), x*y%p)
				checkSquareMatrix(t, p, product(p, b, a), x*y%p)
				checkSquareMatrix(t, p, flip(a), x)
				checkSquareMatrix(t, p, s.matrixOfRank(p, size, size, int(s.below(int64(size)))), 0)
				similar := product(p, a, product(p, b, must[[][]int64](t)(impl.InverseMatrix(p, a))))
				returnsVector(t, must[[]int64](t)(impl.CharacteristicPolynomial(p, b)))(impl.CharacteristicPolynomial(p, similar))
			}
		}
	}
}

func TestDeterminantsAreMultiplied(t *testing.T) {
	t.Parallel()
	allMatrices(3, 2, 2, func(a [][]int64) {
		allMatrices(3, 2, 2, func(b [][]int64) {
			m := must[[][]int64](t)(impl.MultiplyMatrices(3, a, b))
			returns(t, determinantOf(3, a)*determinantOf(3, b)%3)(impl.Determinant(3, m))
		})
	})
	for _, p := range primes {
		var s source
		for range 60 {
			size := 1 + int(s.below(16))
			a, b := s.matrix(p, size, size), s.matrix(p, size, size)
			m := must[[][]int64](t)(impl.MultiplyMatrices(p, a, b))
			x, y := must[int64](t)(impl.Determinant(p, a)), must[int64](t)(impl.Determinant(p, b))
			returns(t, x*y%p)(impl.Determinant(p, m))
		}
	}
}

// TestDeterminantsThatAreKnown has the signs of exchanged and of rotated rows, and triangles.
func TestDeterminantsThatAreKnown(t *testing.T) {
	t.Parallel()
	for _, p := range primes {
		var s source
		for size := 1; size <= impl.MaxRows; size++ {
			returns(t, 1)(impl.Determinant(p, unit(size)))
			returns(t, 0)(impl.Determinant(p, zeros(size, size)))
			for i := range size {
				for j := range i {
					m := unit(size)
					m[i], m[j] = m[j], m[i]
					checkSquareMatrix(t, p, m, p-1)
				}
			}
			rotated, sign := unit(size), int64(1)
			rotated = append(rotated[1:], rotated[0])
			if size%2 == 0 {
				sign = p - 1
			}
			checkSquareMatrix(t, p, rotated, sign)
			upper, determinant, polynomial := s.matrix(p, size, size), int64(1), []int64{1}
			for i := range upper {
				clear(upper[i][:i])
				determinant = determinant * upper[i][i] % p
				polynomial = timesRoot(p, polynomial, upper[i][i])
			}
			checkSquareMatrix(t, p, upper, determinant)
			checkSquareMatrix(t, p, flip(upper), determinant)
			returnsVector(t, polynomial)(impl.CharacteristicPolynomial(p, upper))
			returnsVector(t, polynomial)(impl.CharacteristicPolynomial(p, flip(upper)))
		}
	}
}

// timesRoot multiplies a polynomial by z less a root.
func timesRoot(p int64, polynomial []int64, root int64) []int64 {
	longer := make([]int64, len(polynomial)+1)
	for i, a := range polynomial {
		longer[i] = (longer[i] + (p-root)*a) % p
		longer[i+1] = (longer[i+1] + a) % p
	}
	return longer
}

func TestCharacteristicPolynomial(t *testing.T) {
	t.Parallel()
	returnsVector(t, []int64{2, 2, 1})(impl.CharacteristicPolynomial(5, [][]int64{{1, 1}, {0, 2}}))
	for _, p := range primes {
		var s source
		for a := range p {
			returnsVector(t, []int64{(p - a) % p, 1})(impl.CharacteristicPolynomial(p, [][]int64{{a}}))
		}
		for size := 1; size <= impl.MaxRows; size++ {
			zero := make([]int64, size+1)
			zero[size] = 1
			returnsVector(t, zero)(impl.CharacteristicPolynomial(p, zeros(size, size)))
			// The matrix that multiplies by z modulo a polynomial has that one.
			polynomial, m := append(s.vector(p, size), 1), zeros(size, size)
			for i := range m {
				if i > 0 {
					m[i][i-1] = 1
				}
				m[i][size-1] = (p - polynomial[i]) % p
			}
			returnsVector(t, polynomial)(impl.CharacteristicPolynomial(p, m))
			returnsVector(t, polynomial)(impl.CharacteristicPolynomial(p, flip(m)))
		}
	}
}

func TestPowerMatrix(t *testing.T) {
	t.Parallel()
	for _, p := range primes {
		var s source
		for size := 1; size <= impl.MaxRows; size++ {
			m := s.matrix(p, size, size)
			if size%3 == 0 {
				m = s.regular(p, size)
			}
			returnsMatrix(t, unit(size))(impl.PowerMatrix(p, m, 0))
			returnsMatrix(t, m)(impl.PowerMatrix(p, m, 1))
			returnsMatrix(t, unit(size))(impl.PowerMatrix(p, zeros(size, size), 0))
			returnsMatrix(t, zeros(size, size))(impl.PowerMatrix(p, zeros(size, size), 1))
			returnsMatrix(t, zeros(size, size))(impl.PowerMatrix(p, zeros(size, size), 1000))
			power := unit(size)
			for k := range int64(1001) {
				if k <= 40 || k >= 998 || k%97 == 0 || size <= 2 {
					returnsMatrix(t, power)(impl.PowerMatrix(p, m, k))
				}
				power = product(p, power, m)
			}
		}
	}
}

func TestPowerMatrixRefusesExponents(t *testing.T) {
	t.Parallel()
	for _, p := range primes {
		for _, k := range []int64{math.MinInt64, -1 << 32, -1000, -2, -1, 1001, 1002, 1 << 32, math.MaxInt64} {
			for _, m := range [][][]int64{{{1}}, {{0}}, unit(2), zeros(3, 3), unit(16)} {
				refuses(t, "PowerMatrix with "+strconv.FormatInt(k, 10), ofMatrix(impl.PowerMatrix(p, m, k)), impl.ErrRange)
			}
		}
	}
}

// checkSpan tests the basis and the rank of a list, and all vectors, by all sums of multiples.
func checkSpan(t *testing.T, p int64, list [][]int64) {
	t.Helper()
	length := len(list[0])
	basis, span := must[[][]int64](t)(impl.SpanBasis(p, list)), spanOf(p, list, length)
	if !isReduced(p, basis) || powerOf(p, len(basis)) != len(span) {
		t.Errorf("SpanBasis(%d, %v) = %v, for %d sums", p, list, basis, len(span))
	}
	for _, v := range basis {
		if !span[key(v)] {
			t.Errorf("SpanBasis(%d, %v) = %v, but %v is no sum", p, list, basis, v)
		}
	}
	returns(t, int64(len(basis)))(impl.RankOf(p, list))
	returns(t, int64(len(basis)))(impl.RankOf(p, flip(list)))
	if powerOf(p, length) <= 100 {
		allVectors(p, length, func(v []int64) {
			returnsBool(t, span[key(v)])(impl.InSpan(p, list, v))
		})
	}
}

// checkKernel tests a kernel by all vectors.
func checkKernel(t *testing.T, p int64, m [][]int64) {
	t.Helper()
	basis, zero := must[[][]int64](t)(impl.KernelBasis(p, m)), make([]int64, len(m))
	count := 0
	allVectors(p, len(m[0]), func(v []int64) {
		if slices.Equal(apply(p, m, v), zero) {
			count++
		}
	})
	if !isReduced(p, basis) || powerOf(p, len(basis)) != count {
		t.Errorf("KernelBasis(%d, %v) = %v, for %d vectors", p, m, basis, count)
	}
	for _, v := range basis {
		if !slices.Equal(apply(p, m, v), zero) {
			t.Errorf("KernelBasis(%d, %v) = %v, but %v is not led to 0", p, m, basis, v)
		}
	}
	returns(t, int64(len(m[0])-len(basis)))(impl.RankOf(p, m))
}

// checkSolutions tests all systems with a matrix: the solutions are among all vectors, and the
// columns that depend on those before them are found by all sums of these.
func checkSolutions(t *testing.T, p int64, m [][]int64) {
	t.Helper()
	columns, free := flip(m), make([]bool, len(m[0]))
	for i, column := range columns {
		free[i] = spanOf(p, columns[:i], len(m))[key(column)]
	}
	solutions := map[string][]int64{}
	allVectors(p, len(m[0]), func(x []int64) {
		for i := range x {
			if free[i] && x[i] != 0 {
				return
			}
		}
		solutions[key(apply(p, m, x))] = slices.Clone(x)
	})
	allVectors(p, len(m), func(v []int64) {
		if x, found := solutions[key(v)]; found {
			returnsVector(t, x)(impl.SolveMatrix(p, m, v))
		} else {
			refuses(t, "SolveMatrix", ofVector(impl.SolveMatrix(p, m, v)), impl.ErrNotFound)
		}
	})
}

func TestAllSmallSystems(t *testing.T) {
	t.Parallel()
	check := func(p int64, rows int, columns int) {
		allMatrices(p, rows, columns, func(m [][]int64) {
			checkSpan(t, p, m)
			checkKernel(t, p, m)
			checkSolutions(t, p, m)
		})
	}
	for _, size := range [][2]int{{1, 3}, {2, 2}, {2, 3}, {3, 2}, {3, 1}} {
		check(3, size[0], size[1])
	}
	check(5, 2, 2)
	for _, p := range primes {
		check(p, 1, 1)
		check(p, 1, 2)
		check(p, 2, 1)
	}
}

func TestSmallSystems(t *testing.T) {
	t.Parallel()
	for _, p := range primes {
		var s source
		for _, size := range smallSizes(p) {
			for rank := range min(size[0], size[1]) + 1 {
				for range 4 {
					m := s.matrixOfRank(p, size[0], size[1], rank)
					checkSpan(t, p, m)
					checkKernel(t, p, m)
					checkSolutions(t, p, m)
				}
			}
		}
	}
}

// TestSpansThatAreKnown mixes the vectors of a reduced basis, which have to be found again.
func TestSpansThatAreKnown(t *testing.T) {
	t.Parallel()
	returnsMatrix(t, [][]int64{{1, 2}})(impl.SpanBasis(5, [][]int64{{2, 4}, {1, 2}}))
	for _, p := range primes {
		var s source
		for _, size := range slices.Concat(smallSizes(p), greatSizes()) {
			for rank := 1; rank <= min(size[0], size[1]); rank++ {
				basis := s.reducedBasis(p, rank, size[1])
				mixed := product(p, s.regular(p, rank), basis)
				returnsMatrix(t, basis)(impl.SpanBasis(p, mixed))
				returns(t, int64(rank))(impl.RankOf(p, mixed))
				for len(mixed) < size[0] {
					mixed = append(mixed, product(p, s.matrix(p, 1, rank), basis)[0])
				}
				slices.Reverse(mixed)
				returnsMatrix(t, basis)(impl.SpanBasis(p, mixed))
				returns(t, int64(rank))(impl.RankOf(p, mixed))
				returns(t, int64(rank))(impl.RankOf(p, flip(mixed)))
				checkMembers(t, p, mixed, basis, &s)
			}
		}
	}
}

// reducedBasis puts numbers of its own behind the pivots, where no other pivot is.
func (s *source) reducedBasis(p int64, rank int, length int) [][]int64 {
	places := make([]int, length)
	for i := range places {
		j := s.below(int64(i) + 1)
		places[i], places[j] = places[j], i
	}
	pivots := places[:rank]
	slices.Sort(pivots)
	basis := s.matrix(p, rank, length)
	for i, v := range basis {
		clear(v[:pivots[i]])
		for _, pivot := range pivots {
			v[pivot] = 0
		}
		v[pivots[i]] = 1
	}
	return basis
}

// checkMembers tests vectors of a span, and the same ones changed at a place that is no pivot.
func checkMembers(t *testing.T, p int64, list [][]int64, basis [][]int64, s *source) {
	t.Helper()
	length := len(basis[0])
	for range 3 {
		v := product(p, s.matrix(p, 1, len(basis)), basis)[0]
		returnsBool(t, true)(impl.InSpan(p, list, v))
		place := int(s.below(int64(length)))
		isPivot := slices.ContainsFunc(basis, func(w []int64) bool {
			return place == slices.IndexFunc(w, func(a int64) bool { return a != 0 })
		})
		if !isPivot {
			v[place] = (v[place] + 1 + s.below(p-1)) % p
			returnsBool(t, false)(impl.InSpan(p, list, v))
		}
	}
	returnsBool(t, true)(impl.InSpan(p, list, make([]int64, length)))
}

func TestGreatSystems(t *testing.T) {
	t.Parallel()
	for _, p := range primes {
		var s source
		for _, size := range greatSizes() {
			for range 10 {
				rank := int(s.below(int64(min(size[0], size[1]) + 1)))
				m := s.matrixOfRank(p, size[0], size[1], rank)
				checkGreatKernel(t, p, m)
				checkGreatSolutions(t, p, m, &s)
			}
		}
	}
}

func checkGreatKernel(t *testing.T, p int64, m [][]int64) {
	t.Helper()
	basis := must[[][]int64](t)(impl.KernelBasis(p, m))
	rank := must[int64](t)(impl.RankOf(p, m))
	if !isReduced(p, basis) || int(rank)+len(basis) != len(m[0]) {
		t.Errorf("KernelBasis(%d, %v) = %v, with the rank %d", p, m, basis, rank)
	}
	for _, v := range basis {
		if !slices.Equal(apply(p, m, v), make([]int64, len(m))) {
			t.Errorf("KernelBasis(%d, %v) = %v, but %v is not led to 0", p, m, basis, v)
		}
	}
}

func checkGreatSolutions(t *testing.T, p int64, m [][]int64, s *source) {
	t.Helper()
	columns := flip(m)
	v := apply(p, m, s.vector(p, len(m[0])))
	x := must[[]int64](t)(impl.SolveMatrix(p, m, v))
	if len(x) != len(m[0]) || !slices.Equal(apply(p, m, x), v) {
		t.Errorf("SolveMatrix(%d, %v, %v) = %v", p, m, v, x)
	}
	before := int64(0)
	for i := range columns {
		rank := must[int64](t)(impl.RankOf(p, columns[:i+1]))
		if rank == before && x[i] != 0 {
			t.Errorf("SolveMatrix(%d, %v, %v) = %v, but the column %d depends on those before it", p, m, v, x, i)
		}
		before = rank
	}
	w := s.vector(p, len(m))
	if must[bool](t)(impl.InSpan(p, columns, w)) {
		x = must[[]int64](t)(impl.SolveMatrix(p, m, w))
		if !slices.Equal(apply(p, m, x), w) {
			t.Errorf("SolveMatrix(%d, %v, %v) = %v", p, m, w, x)
		}
	} else {
		refuses(t, "SolveMatrix", ofVector(impl.SolveMatrix(p, m, w)), impl.ErrNotFound)
	}
}

func TestSystemsAtTheLimits(t *testing.T) {
	t.Parallel()
	for _, p := range primes {
		for _, size := range [][2]int{{1, 1}, {1, 16}, {16, 1}, {16, 16}, {2, 5}} {
			zero := zeros(size[0], size[1])
			returns(t, 0)(impl.RankOf(p, zero))
			returnsMatrix(t, nil)(impl.SpanBasis(p, zero))
			returnsMatrix(t, unit(size[1]))(impl.KernelBasis(p, zero))
			returnsVector(t, make([]int64, size[1]))(impl.SolveMatrix(p, zero, make([]int64, size[0])))
			v, w := make([]int64, size[0]), make([]int64, size[1])
			v[size[0]-1], w[size[1]-1] = 1, 1
			refuses(t, "SolveMatrix", ofVector(impl.SolveMatrix(p, zero, v)), impl.ErrNotFound)
			returnsBool(t, true)(impl.InSpan(p, zero, make([]int64, size[1])))
			returnsBool(t, false)(impl.InSpan(p, zero, w))
		}
		returnsMatrix(t, nil)(impl.SpanBasis(p, nil))
		returnsMatrix(t, nil)(impl.SpanBasis(p, [][]int64{}))
		returnsMatrix(t, unit(16))(impl.SpanBasis(p, unit(16)))
		returnsMatrix(t, nil)(impl.KernelBasis(p, unit(16)))
		v := make([]int64, 16)
		for i := range v {
			v[i] = int64(i) % p
		}
		returnsVector(t, v)(impl.SolveMatrix(p, unit(16), v))
	}
	// A system with one solution, one with several, and one with none.
	returnsVector(t, []int64{4, 3})(impl.SolveMatrix(5, [][]int64{{1, 1}, {1, 2}}, []int64{2, 0}))
	returnsVector(t, []int64{0, 3, 0})(impl.SolveMatrix(5, [][]int64{{0, 2, 4}}, []int64{1}))
	refuses(t, "SolveMatrix", ofVector(impl.SolveMatrix(5, [][]int64{{1, 2}, {2, 4}}, []int64{1, 1})), impl.ErrNotFound)
	returnsMatrix(t, [][]int64{{1, 0, 0}, {0, 1, 2}})(impl.KernelBasis(5, [][]int64{{0, 1, 2}}))
}

// callsOfOne are the calls with one matrix; the other arguments fit to two rows and two columns.
func callsOfOne(p int64, m [][]int64) map[string]result {
	return map[string]result{
		"MultiplyMatrices first":       ofMatrix(impl.MultiplyMatrices(p, m, unit(2))),
		"MultiplyMatrices second":      ofMatrix(impl.MultiplyMatrices(p, unit(2), m)),
		"MultiplyMatrices other sizes": ofMatrix(impl.MultiplyMatrices(p, unit(15), m)),
		"AddMatrices first":            ofMatrix(impl.AddMatrices(p, m, unit(2))),
		"AddMatrices second":           ofMatrix(impl.AddMatrices(p, unit(2), m)),
		"AddMatrices other sizes":      ofMatrix(impl.AddMatrices(p, unit(15), m)),
		"ScaleMatrix":                  ofMatrix(impl.ScaleMatrix(p, m, 1)),
		"ScaleMatrix no number":        ofMatrix(impl.ScaleMatrix(p, m, -1)),
		"TransposeMatrix":              ofMatrix(impl.TransposeMatrix(p, m)),
		"ApplyMatrix":                  ofVector(impl.ApplyMatrix(p, m, []int64{0, 1})),
		"ApplyMatrix no vector":        ofVector(impl.ApplyMatrix(p, m, nil)),
		"ApplyMatrix no numbers":       ofVector(impl.ApplyMatrix(p, m, []int64{-1, -1})),
		"Determinant":                  ofNumber(impl.Determinant(p, m)),
		"RankOf":                       ofNumber(impl.RankOf(p, m)),
		"TraceOf":                      ofNumber(impl.TraceOf(p, m)),
		"InverseMatrix":                ofMatrix(impl.InverseMatrix(p, m)),
		"PowerMatrix":                  ofMatrix(impl.PowerMatrix(p, m, 1)),
		"PowerMatrix -1":               ofMatrix(impl.PowerMatrix(p, m, -1)),
		"PowerMatrix 1001":             ofMatrix(impl.PowerMatrix(p, m, 1001)),
		"KernelBasis":                  ofMatrix(impl.KernelBasis(p, m)),
		"SolveMatrix":                  ofVector(impl.SolveMatrix(p, m, []int64{0, 1})),
		"SolveMatrix no vector":        ofVector(impl.SolveMatrix(p, m, nil)),
		"SolveMatrix no numbers":       ofVector(impl.SolveMatrix(p, m, []int64{-1, -1})),
		"CharacteristicPolynomial":     ofVector(impl.CharacteristicPolynomial(p, m)),
	}
}

// callsOfLists are the calls with a list of vectors.
func callsOfLists(p int64, list [][]int64) map[string]result {
	return map[string]result{
		"SpanBasis":         ofMatrix(impl.SpanBasis(p, list)),
		"InSpan":            ofBool(impl.InSpan(p, list, []int64{0, 0})),
		"InSpan no vector":  ofBool(impl.InSpan(p, list, nil)),
		"InSpan no numbers": ofBool(impl.InSpan(p, list, []int64{-1, -1})),
	}
}

func TestMatricesOfNoPrime(t *testing.T) {
	t.Parallel()
	for _, p := range notPrimes() {
		for _, m := range [][][]int64{nil, {}, {{0}}, unit(2), zeros(2, 2), {{0, 1}}, {{-1}}, {{1, 2}, {3}}, zeros(17, 17)} {
			for call, got := range callsOfOne(p, m) {
				refuses(t, call, got, impl.ErrInvalid)
			}
			for call, got := range callsOfLists(p, m) {
				refuses(t, call, got, impl.ErrInvalid)
			}
		}
	}
}

func TestNoMatrices(t *testing.T) {
	t.Parallel()
	for _, p := range primes {
		for _, m := range notMatrices(p) {
			for call, got := range callsOfOne(p, m) {
				refuses(t, call, got, impl.ErrInvalid)
			}
		}
		for _, list := range notLists(p) {
			for call, got := range callsOfLists(p, list) {
				refuses(t, call, got, impl.ErrInvalid)
			}
		}
		for _, v := range [][]int64{nil, {}, {0}, {0, 0}, {-1}} {
			refuses(t, "InSpan of no vectors", ofBool(impl.InSpan(p, nil, v)), impl.ErrRange)
			refuses(t, "InSpan of no vectors", ofBool(impl.InSpan(p, [][]int64{}, v)), impl.ErrRange)
		}
	}
}

func TestMatricesThatAreNotSquare(t *testing.T) {
	t.Parallel()
	for _, p := range primes {
		for rows := 1; rows <= impl.MaxRows; rows++ {
			for columns := 1; columns <= impl.MaxRows; columns++ {
				if rows == columns {
					continue
				}
				m := zeros(rows, columns)
				for call, got := range map[string]result{
					"Determinant":              ofNumber(impl.Determinant(p, m)),
					"TraceOf":                  ofNumber(impl.TraceOf(p, m)),
					"InverseMatrix":            ofMatrix(impl.InverseMatrix(p, m)),
					"PowerMatrix 0":            ofMatrix(impl.PowerMatrix(p, m, 0)),
					"PowerMatrix 1":            ofMatrix(impl.PowerMatrix(p, m, 1)),
					"PowerMatrix -1":           ofMatrix(impl.PowerMatrix(p, m, -1)),
					"CharacteristicPolynomial": ofVector(impl.CharacteristicPolynomial(p, m)),
				} {
					refuses(t, call, got, impl.ErrRange)
				}
			}
		}
	}
}

func TestSizesThatDoNotFit(t *testing.T) {
	t.Parallel()
	sizes := [][2]int{{1, 1}, {1, 2}, {2, 1}, {2, 2}, {2, 3}, {3, 2}, {3, 3}, {1, 16}, {16, 1}, {16, 16}}
	for _, p := range primes {
		var s source
		for _, a := range sizes {
			for _, b := range sizes {
				x, y := s.matrix(p, a[0], a[1]), s.matrix(p, b[0], b[1])
				if a[1] == b[0] {
					returnsMatrix(t, product(p, x, y))(impl.MultiplyMatrices(p, x, y))
				} else {
					refuses(t, "MultiplyMatrices", ofMatrix(impl.MultiplyMatrices(p, x, y)), impl.ErrRange)
				}
				if a != b {
					refuses(t, "AddMatrices", ofMatrix(impl.AddMatrices(p, x, y)), impl.ErrRange)
				}
			}
			m := zeros(a[0], a[1])
			for length := range 18 {
				v := make([]int64, length)
				if length != a[1] {
					refuses(t, "ApplyMatrix", ofVector(impl.ApplyMatrix(p, m, v)), impl.ErrRange)
					refuses(t, "InSpan", ofBool(impl.InSpan(p, m, v)), impl.ErrRange)
				}
				if length != a[0] {
					refuses(t, "SolveMatrix", ofVector(impl.SolveMatrix(p, m, v)), impl.ErrRange)
				}
			}
		}
	}
}

func TestVectorsWithoutNumbers(t *testing.T) {
	t.Parallel()
	for _, p := range primes {
		m := [][]int64{{1, 0, 1}, {0, 1, 0}}
		for _, bad := range notNumbers(p) {
			refuses(t, "ScaleMatrix", ofMatrix(impl.ScaleMatrix(p, m, bad)), impl.ErrRange)
			for place := range 3 {
				v := []int64{0, 1, 0}
				v[place] = bad
				refuses(t, "ApplyMatrix", ofVector(impl.ApplyMatrix(p, m, v)), impl.ErrRange)
				refuses(t, "InSpan", ofBool(impl.InSpan(p, m, v)), impl.ErrRange)
				refuses(t, "SolveMatrix", ofVector(impl.SolveMatrix(p, flip(m), v)), impl.ErrRange)
				// No solution would be found for the numbers that are left.
				refuses(t, "SolveMatrix", ofVector(impl.SolveMatrix(p, zeros(3, 1), v)), impl.ErrRange)
			}
		}
	}
}

// guarded lays the rows of a matrix out in greater memory, so that writing behind them is seen.
func guarded(m [][]int64) (rows [][]int64, memory []int64) {
	for _, row := range m {
		memory = append(append(memory, row...), 90, 91, 92)
	}
	place := 0
	rows = make([][]int64, 0, len(m)+2)
	for _, row := range m {
		rows = append(rows, memory[place:place+len(row)])
		place += len(row) + 3
	}
	copy(rows[len(m):cap(rows)], [][]int64{{93}, {94}})
	return rows, memory
}

// guard is a list of matrices in memory that has to stay as it is.
type guard struct {
	matrices, copies [][][]int64
	memory, before   [][]int64
}

func (g *guard) keep(m [][]int64) [][]int64 {
	rows, memory := guarded(m)
	g.matrices, g.copies = append(g.matrices, rows), append(g.copies, slices.Clone(rows[:cap(rows)]))
	g.memory, g.before = append(g.memory, memory), append(g.before, slices.Clone(memory))
	return rows
}

func (g *guard) check(t *testing.T, call string) {
	t.Helper()
	for i, rows := range g.matrices {
		same := func(a []int64, b []int64) bool { return len(a) == len(b) && &a[0] == &b[0] }
		if !slices.Equal(g.memory[i], g.before[i]) || !slices.EqualFunc(rows[:cap(rows)], g.copies[i], same) {
			t.Fatalf("%s writes into its arguments or behind them", call)
		}
	}
}

// overwrite fills the rows of a result up to their capacities, and checks that none has changed
// another one.
func overwrite(t *testing.T, call string, rows [][]int64) {
	t.Helper()
	for i := range rows {
		whole := rows[i][:cap(rows[i])]
		for j := range whole {
			whole[j] = 1000 + int64(i)
		}
	}
	for i := range rows {
		for _, a := range rows[i][:cap(rows[i])] {
			if a != 1000+int64(i) {
				t.Fatalf("%s returns rows that share memory", call)
			}
		}
	}
	whole := rows[:cap(rows)]
	for i := range whole {
		whole[i] = nil
	}
}

func TestMatricesAreNewMemory(t *testing.T) {
	t.Parallel()
	for _, p := range primes {
		var s source
		for _, size := range []int{1, 2, 5, 16} {
			var g guard
			a, b := g.keep(s.regular(p, size)), g.keep(s.matrix(p, size, size))
			tall, list := g.keep(s.matrix(p, size, 1)), g.keep(s.reducedBasis(p, 1+size/2, size))
			v := g.keep(s.matrix(p, 1, size))[0]
			for call, rows := range map[string][][]int64{
				"MultiplyMatrices":         must[[][]int64](t)(impl.MultiplyMatrices(p, a, b)),
				"MultiplyMatrices by 1":    must[[][]int64](t)(impl.MultiplyMatrices(p, a, unit(size))),
				"AddMatrices":              must[[][]int64](t)(impl.AddMatrices(p, a, b)),
				"AddMatrices to 0":         must[[][]int64](t)(impl.AddMatrices(p, zeros(size, size), b)),
				"AddMatrices 0":            must[[][]int64](t)(impl.AddMatrices(p, b, zeros(size, size))),
				"ScaleMatrix":              must[[][]int64](t)(impl.ScaleMatrix(p, a, 2)),
				"ScaleMatrix by 1":         must[[][]int64](t)(impl.ScaleMatrix(p, a, 1)),
				"TransposeMatrix":          must[[][]int64](t)(impl.TransposeMatrix(p, a)),
				"TransposeMatrix tall":     must[[][]int64](t)(impl.TransposeMatrix(p, tall)),
				"InverseMatrix":            must[[][]int64](t)(impl.InverseMatrix(p, a)),
				"PowerMatrix 0":            must[[][]int64](t)(impl.PowerMatrix(p, a, 0)),
				"PowerMatrix 1":            must[[][]int64](t)(impl.PowerMatrix(p, a, 1)),
				"PowerMatrix 2":            must[[][]int64](t)(impl.PowerMatrix(p, a, 2)),
				"SpanBasis":                must[[][]int64](t)(impl.SpanBasis(p, b)),
				"SpanBasis of one":         must[[][]int64](t)(impl.SpanBasis(p, list)),
				"SpanBasis of units":       must[[][]int64](t)(impl.SpanBasis(p, a)),
				"KernelBasis":              must[[][]int64](t)(impl.KernelBasis(p, list)),
				"KernelBasis of zeros":     must[[][]int64](t)(impl.KernelBasis(p, zeros(1, size))),
				"ApplyMatrix":              {must[[]int64](t)(impl.ApplyMatrix(p, a, v))},
				"ApplyMatrix of 1":         {must[[]int64](t)(impl.ApplyMatrix(p, unit(size), v))},
				"SolveMatrix":              {must[[]int64](t)(impl.SolveMatrix(p, a, v))},
				"SolveMatrix of 1":         {must[[]int64](t)(impl.SolveMatrix(p, unit(size), v))},
				"CharacteristicPolynomial": {must[[]int64](t)(impl.CharacteristicPolynomial(p, b))},
			} {
				g.check(t, call)
				overwrite(t, call, rows)
				g.check(t, "overwriting the result of "+call)
			}
			must[int64](t)(impl.Determinant(p, a))
			must[int64](t)(impl.RankOf(p, b))
			must[int64](t)(impl.TraceOf(p, b))
			must[bool](t)(impl.InSpan(p, list, v))
			impl.IsMatrix(p, a)
			impl.InverseMatrix(p, b)
			g.check(t, "a call that returns no rows")
		}
	}
}
