package tests

import (
	"math"
	"slices"
	"strconv"
	"strings"
	"testing"

	"loop.example/g01124/impl"
)

var primes = []int64{3, 5, 7, 11, 13}

// texts are written out, so that the tests do not repeat the program's rule.
func textsOf(p int64) []string {
	switch p {
	case 3:
		return []string{"0", "1", "-1"}
	case 5:
		return []string{"0", "1", "2", "-2", "-1"}
	case 7:
		return []string{"0", "1", "2", "3", "-3", "-2", "-1"}
	case 11:
		return []string{"0", "1", "2", "3", "4", "5", "-5", "-4", "-3", "-2", "-1"}
	default:
		return []string{"0", "1", "2", "3", "4", "5", "6", "-6", "-5", "-4", "-3", "-2", "-1"}
	}
}

// notPrimes has prime numbers that are too large or too small, composite and negative ones, and
// numbers whose lowest bits are a prime.
func notPrimes() []int64 {
	list := []int64{math.MinInt64, -13, -7, -5, -3, 17, 19, 21, 25, 1<<8 + 5, 1<<16 + 7, 1<<32 + 3, math.MaxInt64}
	for n := int64(-2); n <= 20; n++ {
		if !slices.Contains(primes, n) {
			list = append(list, n)
		}
	}
	return list
}

func notNumbers(p int64) []int64 {
	return []int64{math.MinInt64, -p, -1, p, p + 1, 2 * p, 1 << 32, math.MaxInt64}
}

// result is what a call returns: its code, and whether all other results are zero values.
type result struct {
	code int64
	zero bool
}

func ofNumber(n int64, code int64) result { return result{code, n == 0} }

func ofBool(b bool, code int64) result { return result{code, !b} }

func ofText(s string, code int64) result { return result{code, s == ""} }

func ofTwoNumbers(x int64, y int64, code int64) result { return result{code, x == 0 && y == 0} }

// refuses checks that a call returns a code, and nothing else.
func refuses(t *testing.T, call string, got result, code int64) {
	t.Helper()
	if got.code != code || !got.zero {
		t.Errorf("%s: code %d, zero values %v; it has to be code %d with zero values", call, got.code, got.zero, code)
	}
}

// returns checks that a call returns a number and ErrNone; a pair of results is passed on whole.
func returns(t *testing.T, want int64) func(got int64, code int64) {
	t.Helper()
	return func(got int64, code int64) {
		t.Helper()
		if got != want || code != impl.ErrNone {
			t.Errorf("number %d, code %d; it has to be %d, code 0", got, code, want)
		}
	}
}

func TestErrorCodesAndLimits(t *testing.T) {
	t.Parallel()
	codes := []int64{impl.ErrNone, impl.ErrInvalid, impl.ErrRange, impl.ErrLimit, impl.ErrNotFound, impl.ErrState, impl.ErrSyntax}
	if !slices.Equal(codes, []int64{0, 1, 2, 3, 4, 5, 6}) {
		t.Errorf("the error codes are %v", codes)
	}
	if impl.MaxPrime != 13 || impl.MaxList != 64 {
		t.Errorf("the limits are %d and %d", impl.MaxPrime, impl.MaxList)
	}
}

func TestIsPrime(t *testing.T) {
	t.Parallel()
	for _, p := range primes {
		if !impl.IsPrime(p) {
			t.Errorf("%d is a prime", p)
		}
	}
	for _, p := range notPrimes() {
		if impl.IsPrime(p) {
			t.Errorf("%d is not a prime", p)
		}
	}
}

func TestNumberOf(t *testing.T) {
	t.Parallel()
	for _, p := range primes {
		want := int64(0)
		for n := -20 * p; n <= 20*p; n++ {
			returns(t, want)(impl.NumberOf(p, n))
			want++
			if want == p {
				want = 0
			}
		}
	}
	// 2^63 has the remainders 2, 3, 1, 8 and 8 by the primes in turn.
	least, greatest := []int64{1, 2, 6, 3, 5}, []int64{1, 2, 0, 7, 7}
	for i, p := range primes {
		returns(t, least[i])(impl.NumberOf(p, math.MinInt64))
		returns(t, greatest[i])(impl.NumberOf(p, math.MaxInt64))
	}
}

func TestSumsDifferencesAndProducts(t *testing.T) {
	t.Parallel()
	for _, p := range primes {
		for a := range p {
			for b := range p {
				returns(t, (a+b)%p)(impl.AddNumbers(p, a, b))
				returns(t, (a+p-b)%p)(impl.SubtractNumbers(p, a, b))
				returns(t, a*b%p)(impl.MultiplyNumbers(p, a, b))
			}
		}
	}
}

func TestDividingUndoesMultiplying(t *testing.T) {
	t.Parallel()
	returns(t, 3)(impl.DivideNumbers(5, 1, 2))
	for _, p := range primes {
		for a := range p {
			for b := int64(1); b < p; b++ {
				returns(t, a)(impl.DivideNumbers(p, a*b%p, b))
				quotient, code := impl.DivideNumbers(p, a, b)
				if quotient < 0 || quotient >= p || code != impl.ErrNone {
					t.Errorf("DivideNumbers(%d, %d, %d) = %d, %d", p, a, b, quotient, code)
				}
				returns(t, a)(impl.MultiplyNumbers(p, quotient, b))
			}
			refuses(t, "DivideNumbers by 0", ofNumber(impl.DivideNumbers(p, a, 0)), impl.ErrState)
		}
	}
}

// TestPowerNumber tests all exponents, each power by the one with the exponent before it.
func TestPowerNumber(t *testing.T) {
	t.Parallel()
	for _, p := range primes {
		for a := range p {
			power := int64(1)
			for k := range int64(1001) {
				returns(t, power)(impl.PowerNumber(p, a, k))
				power = power * a % p
			}
			if a == 0 {
				continue
			}
			for k := int64(-1); k >= -1000; k-- {
				inverse, code := impl.PowerNumber(p, a, k)
				if inverse < 0 || inverse >= p || code != impl.ErrNone {
					t.Fatalf("PowerNumber(%d, %d, %d) = %d, %d", p, a, k, inverse, code)
				}
				opposite, _ := impl.PowerNumber(p, a, -k)
				if inverse*opposite%p != 1 {
					t.Errorf("PowerNumber(%d, %d, %d) = %d, with the exponent %d %d", p, a, k, inverse, -k, opposite)
				}
			}
		}
	}
}

func TestPowerNumberRefusesExponents(t *testing.T) {
	t.Parallel()
	returns(t, 5)(impl.PowerNumber(7, 3, -1))
	returns(t, 1)(impl.PowerNumber(7, 0, 0))
	returns(t, 0)(impl.PowerNumber(7, 0, 1000))
	for _, p := range primes {
		for _, k := range []int64{-1, -2, -1000} {
			refuses(t, "PowerNumber of 0", ofNumber(impl.PowerNumber(p, 0, k)), impl.ErrState)
		}
		for _, k := range []int64{math.MinInt64, -1 << 32, -1001, 1001, 1 << 32, math.MaxInt64} {
			for a := range p {
				refuses(t, "PowerNumber of "+strconv.FormatInt(k, 10), ofNumber(impl.PowerNumber(p, a, k)), impl.ErrRange)
			}
		}
	}
}

// rootOf looks from the greatest number down, and keeps the least one.
func rootOf(p int64, a int64) (int64, bool) {
	root, found := int64(0), false
	for r := p - 1; r >= 0; r-- {
		if r*r%p == a {
			root, found = r, true
		}
	}
	return root, found
}

func TestSquaresAndRoots(t *testing.T) {
	t.Parallel()
	returns(t, 3)(impl.SquareRoot(7, 2))
	for _, p := range primes {
		for a := range p {
			root, found := rootOf(p, a)
			square, code := impl.IsSquare(p, a)
			if square != found || code != impl.ErrNone {
				t.Errorf("IsSquare(%d, %d) = %v, %d", p, a, square, code)
			}
			power, _ := impl.PowerNumber(p, a, (p-1)/2)
			if a != 0 && square != (power == 1) {
				t.Errorf("IsSquare(%d, %d) = %v, and its power is %d", p, a, square, power)
			}
			if found {
				returns(t, root)(impl.SquareRoot(p, a))
			} else {
				refuses(t, "SquareRoot", ofNumber(impl.SquareRoot(p, a)), impl.ErrNotFound)
			}
		}
	}
}

func firstSquares(p int64, a int64) (int64, int64) {
	for x := range p {
		for y := range p {
			if (x*x+y*y)%p == a {
				return x, y
			}
		}
	}
	return -1, -1
}

func TestSumOfSquares(t *testing.T) {
	t.Parallel()
	if x, y, code := impl.SumOfSquares(7, 3); x != 1 || y != 3 || code != impl.ErrNone {
		t.Errorf("SumOfSquares(7, 3) = %d, %d, %d", x, y, code)
	}
	for _, p := range primes {
		for a := range p {
			x, y, code := impl.SumOfSquares(p, a)
			wantX, wantY := firstSquares(p, a)
			if x != wantX || y != wantY || code != impl.ErrNone {
				t.Errorf("SumOfSquares(%d, %d) = %d, %d, %d; it has to be %d, %d", p, a, x, y, code, wantX, wantY)
			}
		}
	}
}

func TestOrderOfNumber(t *testing.T) {
	t.Parallel()
	returns(t, 3)(impl.OrderOfNumber(7, 2))
	for _, p := range primes {
		for a := int64(1); a < p; a++ {
			order, power := int64(1), a
			for power != 1 {
				order, power = order+1, power*a%p
			}
			returns(t, order)(impl.OrderOfNumber(p, a))
		}
		refuses(t, "OrderOfNumber of 0", ofNumber(impl.OrderOfNumber(p, 0)), impl.ErrState)
	}
}

func TestPrimitiveNumber(t *testing.T) {
	t.Parallel()
	for i, want := range []int64{2, 2, 3, 2, 2} {
		returns(t, want)(impl.PrimitiveNumber(primes[i]))
	}
}

func TestDotOf(t *testing.T) {
	t.Parallel()
	returns(t, 1)(impl.DotOf(5, []int64{1, 2}, []int64{3, 4}))
	for _, p := range primes {
		returns(t, 0)(impl.DotOf(p, nil, nil))
		returns(t, 0)(impl.DotOf(p, []int64{}, nil))
		for a := range p {
			for b := range p {
				returns(t, a*b%p)(impl.DotOf(p, []int64{a}, []int64{b}))
				returns(t, (a*b+b+1)%p)(impl.DotOf(p, []int64{a, 1, 1}, []int64{b, b, 1}))
			}
		}
		var a, b []int64
		sum := int64(0)
		for i := range int64(impl.MaxList) {
			x, y := (3*i+1)%p, (i*i+2)%p
			a, b = append(a, x), append(b, y)
			sum += x * y
			returns(t, sum%p)(impl.DotOf(p, a, b))
		}
	}
}

func TestDotOfRefusesLists(t *testing.T) {
	t.Parallel()
	for _, p := range primes {
		full, long := make([]int64, impl.MaxList), make([]int64, impl.MaxList+1)
		returns(t, 0)(impl.DotOf(p, full, full))
		refuses(t, "DotOf of long lists", ofNumber(impl.DotOf(p, long, long)), impl.ErrRange)
		refuses(t, "DotOf of a longer first list", ofNumber(impl.DotOf(p, long, full)), impl.ErrRange)
		refuses(t, "DotOf of a longer second list", ofNumber(impl.DotOf(p, full, long)), impl.ErrRange)
		refuses(t, "DotOf of a list and none", ofNumber(impl.DotOf(p, []int64{1}, nil)), impl.ErrRange)
		refuses(t, "DotOf of none and a list", ofNumber(impl.DotOf(p, nil, []int64{1})), impl.ErrRange)
		for _, bad := range notNumbers(p) {
			for place := range 3 {
				good, list := []int64{1, 1, 1}, []int64{1, 1, 1}
				list[place] = bad
				refuses(t, "DotOf with a wrong first list", ofNumber(impl.DotOf(p, list, good)), impl.ErrRange)
				refuses(t, "DotOf with a wrong second list", ofNumber(impl.DotOf(p, good, list)), impl.ErrRange)
			}
		}
	}
}

func TestDotOfKeepsItsArguments(t *testing.T) {
	t.Parallel()
	a, b := []int64{1, 2, 3, 9}, []int64{4, 0, 2, 8}
	returns(t, 0)(impl.DotOf(5, a[:3], b[:3]))
	returns(t, 4)(impl.DotOf(5, a[:3], a[:3]))
	if !slices.Equal(a, []int64{1, 2, 3, 9}) || !slices.Equal(b, []int64{4, 0, 2, 8}) {
		t.Errorf("the lists became %v and %v", a, b)
	}
}

func TestTexts(t *testing.T) {
	t.Parallel()
	for _, p := range primes {
		for a, want := range textsOf(p) {
			text, code := impl.NumberText(p, int64(a))
			if text != want || code != impl.ErrNone {
				t.Errorf("NumberText(%d, %d) = %q, %d", p, a, text, code)
			}
			returns(t, int64(a))(impl.ParseNumber(p, text))
		}
	}
}

// TestParseNumberAcceptsOnlyTexts tests all texts of at most four of some bytes.
func TestParseNumberAcceptsOnlyTexts(t *testing.T) {
	t.Parallel()
	for _, p := range primes {
		texts, list := textsOf(p), []string{""}
		for range 4 {
			var longer []string
			for _, text := range list {
				checkParse(t, p, text, texts)
				for _, b := range []byte("-+0123456789 ") {
					longer = append(longer, text+string(b))
				}
			}
			list = longer
		}
		for _, text := range list {
			checkParse(t, p, text, texts)
		}
	}
}

func checkParse(t *testing.T, p int64, text string, texts []string) {
	t.Helper()
	if a := slices.Index(texts, text); a >= 0 {
		returns(t, int64(a))(impl.ParseNumber(p, text))
		return
	}
	refuses(t, "ParseNumber of "+strconv.Quote(text), ofNumber(impl.ParseNumber(p, text)), impl.ErrSyntax)
}

func TestParseNumberRefusesOtherTexts(t *testing.T) {
	t.Parallel()
	others := []string{
		"", "-", "+", "--1", "-0", "+0", "+1", "00", "01", "-01", "0x1", "1.", "1e0", "1_0", "e0", "1 ", " 1", "1\n", "\t1",
		"1\x00", "\x00", "\xff1", "\u0661", "\u22121", "18446744073709551617", "4294967297", "-9223372036854775808",
		strings.Repeat("0", 1000) + "1", strings.Repeat("-", 100000),
	}
	for _, p := range primes {
		for _, text := range others {
			refuses(t, "ParseNumber of "+strconv.Quote(text), ofNumber(impl.ParseNumber(p, text)), impl.ErrSyntax)
		}
	}
}

// TestNotPrimes gives arguments that are wrong in other ways too: the prime is checked first.
func TestNotPrimes(t *testing.T) {
	t.Parallel()
	for _, p := range notPrimes() {
		for _, a := range []int64{0, 1, -1, p, math.MaxInt64} {
			list := []int64{a}
			long := make([]int64, impl.MaxList+1)
			for call, got := range map[string]result{
				"NumberOf":         ofNumber(impl.NumberOf(p, a)),
				"AddNumbers":       ofNumber(impl.AddNumbers(p, a, a)),
				"SubtractNumbers":  ofNumber(impl.SubtractNumbers(p, a, 0)),
				"MultiplyNumbers":  ofNumber(impl.MultiplyNumbers(p, a, a)),
				"DivideNumbers":    ofNumber(impl.DivideNumbers(p, 1, a)),
				"PowerNumber":      ofNumber(impl.PowerNumber(p, a, 2)),
				"PowerNumber -1":   ofNumber(impl.PowerNumber(p, a, -1)),
				"PowerNumber 1001": ofNumber(impl.PowerNumber(p, a, 1001)),
				"IsSquare":         ofBool(impl.IsSquare(p, a)),
				"SquareRoot":       ofNumber(impl.SquareRoot(p, a)),
				"SumOfSquares":     ofTwoNumbers(impl.SumOfSquares(p, a)),
				"OrderOfNumber":    ofNumber(impl.OrderOfNumber(p, a)),
				"PrimitiveNumber":  ofNumber(impl.PrimitiveNumber(p)),
				"DotOf":            ofNumber(impl.DotOf(p, list, list)),
				"DotOf none":       ofNumber(impl.DotOf(p, nil, nil)),
				"DotOf lengths":    ofNumber(impl.DotOf(p, list, nil)),
				"DotOf long":       ofNumber(impl.DotOf(p, long, long)),
				"NumberText":       ofText(impl.NumberText(p, a)),
				"ParseNumber":      ofNumber(impl.ParseNumber(p, "1")),
				"ParseNumber none": ofNumber(impl.ParseNumber(p, "")),
			} {
				refuses(t, call, got, impl.ErrInvalid)
			}
		}
	}
}

// TestNotNumbers gives arguments that would be a wrong state too: numbers are checked before it.
func TestNotNumbers(t *testing.T) {
	t.Parallel()
	for _, p := range primes {
		for _, bad := range notNumbers(p) {
			for call, got := range map[string]result{
				"AddNumbers first":       ofNumber(impl.AddNumbers(p, bad, 1)),
				"AddNumbers second":      ofNumber(impl.AddNumbers(p, 1, bad)),
				"AddNumbers both":        ofNumber(impl.AddNumbers(p, bad, bad)),
				"SubtractNumbers first":  ofNumber(impl.SubtractNumbers(p, bad, 1)),
				"SubtractNumbers second": ofNumber(impl.SubtractNumbers(p, 1, bad)),
				"MultiplyNumbers first":  ofNumber(impl.MultiplyNumbers(p, bad, 1)),
				"MultiplyNumbers second": ofNumber(impl.MultiplyNumbers(p, 1, bad)),
				"DivideNumbers first":    ofNumber(impl.DivideNumbers(p, bad, 1)),
				"DivideNumbers second":   ofNumber(impl.DivideNumbers(p, 1, bad)),
				"DivideNumbers by 0":     ofNumber(impl.DivideNumbers(p, bad, 0)),
				"PowerNumber":            ofNumber(impl.PowerNumber(p, bad, 1)),
				"PowerNumber 0":          ofNumber(impl.PowerNumber(p, bad, 0)),
				"PowerNumber -1":         ofNumber(impl.PowerNumber(p, bad, -1)),
				"IsSquare":               ofBool(impl.IsSquare(p, bad)),
				"SquareRoot":             ofNumber(impl.SquareRoot(p, bad)),
				"SumOfSquares":           ofTwoNumbers(impl.SumOfSquares(p, bad)),
				"OrderOfNumber":          ofNumber(impl.OrderOfNumber(p, bad)),
				"NumberText":             ofText(impl.NumberText(p, bad)),
			} {
				refuses(t, call+" with "+strconv.FormatInt(bad, 10), got, impl.ErrRange)
			}
		}
	}
}
