package impl

import "strconv"

// Error codes.
const (
	ErrNone = iota
	ErrInvalid
	ErrRange
	ErrLimit
	ErrNotFound
	ErrState
	ErrSyntax
)

// Limits of chapter 1.
const (
	MaxPrime = 13
	MaxList  = 64
)

const maxExponent = 1000

// number carries its prime, so that its operations need no other argument than numbers.
type number struct {
	prime int64
	value int64
}

// remainderOf requires a prime. Go's remainder has the sign of n, hence the second step.
func remainderOf(prime int64, n int64) number {
	value := n % prime
	if value < 0 {
		value += prime
	}
	return number{prime, value}
}

func (a number) plus(b number) number {
	return remainderOf(a.prime, a.value+b.value)
}

func (a number) minus(b number) number {
	return remainderOf(a.prime, a.value-b.value)
}

func (a number) times(b number) number {
	return remainderOf(a.prime, a.value*b.value)
}

// over requires a divisor other than 0.
func (a number) over(b number) number {
	return a.times(b.inverse())
}

// inverse requires a number other than 0: its power with the exponent prime - 1 is 1, so that
// the power with one factor less is its inverse.
func (a number) inverse() number {
	return a.power(a.prime - 2)
}

// power requires that the number is not 0 if the exponent is negative.
func (a number) power(exponent int64) number {
	if exponent < 0 {
		return a.inverse().power(-exponent)
	}
	product := number{a.prime, 1}
	for range exponent {
		product = product.times(a)
	}
	return product
}

// root returns the least square root, and whether there is one.
func (a number) root() (number, bool) {
	for value := range a.prime {
		r := number{a.prime, value}
		if r.times(r) == a {
			return r, true
		}
	}
	return number{}, false
}

// order requires a number other than 0, for otherwise no power is 1.
func (a number) order() int64 {
	exponent := int64(1)
	for power := a; power.value != 1; power = power.times(a) {
		exponent++
	}
	return exponent
}

func (a number) text() string {
	if a.value <= (a.prime-1)/2 {
		return strconv.FormatInt(a.value, 10)
	}
	return "-" + strconv.FormatInt(a.prime-a.value, 10)
}

// checkNumbers tests the prime before any number, as the chapter orders the errors.
func checkNumbers(p int64, values ...int64) int64 {
	if !IsPrime(p) {
		return ErrInvalid
	}
	for _, value := range values {
		if value < 0 || value >= p {
			return ErrRange
		}
	}
	return ErrNone
}

// combine applies an operation that is defined for all pairs of numbers.
func combine(p int64, a int64, b int64, operation func(number, number) number) (int64, int64) {
	if code := checkNumbers(p, a, b); code != ErrNone {
		return 0, code
	}
	return operation(number{p, a}, number{p, b}).value, ErrNone
}

// IsPrime reports whether p is a prime.
func IsPrime(p int64) bool {
	switch p {
	case 3, 5, 7, 11, MaxPrime:
		return true
	}
	return false
}

// NumberOf returns the remainder of n by p, in 0..p - 1 also for negative n, and ErrNone.
// (ErrRange is not returned.)
func NumberOf(p int64, n int64) (int64, int64) {
	if !IsPrime(p) {
		return 0, ErrInvalid
	}
	return remainderOf(p, n).value, ErrNone
}

// AddNumbers returns the sum of two numbers, and ErrNone.
func AddNumbers(p int64, a int64, b int64) (int64, int64) {
	return combine(p, a, b, number.plus)
}

// SubtractNumbers returns the difference of two numbers, and ErrNone.
func SubtractNumbers(p int64, a int64, b int64) (int64, int64) {
	return combine(p, a, b, number.minus)
}

// MultiplyNumbers returns the product of two numbers, and ErrNone.
func MultiplyNumbers(p int64, a int64, b int64) (int64, int64) {
	return combine(p, a, b, number.times)
}

// DivideNumbers returns the quotient of a and b, and ErrNone. Errors: ErrState if b is 0.
func DivideNumbers(p int64, a int64, b int64) (int64, int64) {
	if code := checkNumbers(p, a, b); code != ErrNone {
		return 0, code
	}
	if b == 0 {
		return 0, ErrState
	}
	return number{p, a}.over(number{p, b}).value, ErrNone
}

// PowerNumber returns the power of a with the exponent k, and ErrNone. Errors: ErrState if a is 0
// and k is negative.
func PowerNumber(p int64, a int64, k int64) (int64, int64) {
	if code := checkNumbers(p, a); code != ErrNone {
		return 0, code
	}
	if k < -maxExponent || k > maxExponent {
		return 0, ErrRange
	}
	if a == 0 && k < 0 {
		return 0, ErrState
	}
	return number{p, a}.power(k).value, ErrNone
}

// IsSquare reports whether a is a square, and returns ErrNone.
func IsSquare(p int64, a int64) (bool, int64) {
	if code := checkNumbers(p, a); code != ErrNone {
		return false, code
	}
	_, square := number{p, a}.root()
	return square, ErrNone
}

// SquareRoot returns the least number whose product with itself is a, and ErrNone. Errors:
// ErrNotFound if a is not a square.
func SquareRoot(p int64, a int64) (int64, int64) {
	if code := checkNumbers(p, a); code != ErrNone {
		return 0, code
	}
	r, square := number{p, a}.root()
	if !square {
		return 0, ErrNotFound
	}
	return r.value, ErrNone
}

// SumOfSquares returns the lexicographically first numbers x and y for which x x + y y is a, and
// ErrNone. (There always are some.)
func SumOfSquares(p int64, a int64) (int64, int64, int64) {
	if code := checkNumbers(p, a); code != ErrNone {
		return 0, 0, code
	}
	sum, x := number{p, a}, number{p, 0}
	y, square := sum.root()
	// More than half of the numbers are squares, so that some x below p leaves one.
	for !square {
		x.value++
		y, square = sum.minus(x.times(x)).root()
	}
	return x.value, y.value, ErrNone
}

// OrderOfNumber returns the order of a, and ErrNone. Errors: ErrState if a is 0.
func OrderOfNumber(p int64, a int64) (int64, int64) {
	if code := checkNumbers(p, a); code != ErrNone {
		return 0, code
	}
	if a == 0 {
		return 0, ErrState
	}
	return number{p, a}.order(), ErrNone
}

// PrimitiveNumber returns the least primitive number, and ErrNone. (ErrRange is not returned.)
func PrimitiveNumber(p int64) (int64, int64) {
	if !IsPrime(p) {
		return 0, ErrInvalid
	}
	// Each prime has a primitive number, so that the loop ends below p.
	a := number{p, 1}
	for a.order() != p-1 {
		a.value++
	}
	return a.value, ErrNone
}

// DotOf returns the sum of the products of the numbers with the same indices of two lists of
// equally many, at most MaxList, numbers, and ErrNone. Errors: ErrRange also if the lists have
// different or greater lengths.
func DotOf(p int64, a []int64, b []int64) (int64, int64) {
	if !IsPrime(p) {
		return 0, ErrInvalid
	}
	if len(a) != len(b) || len(a) > MaxList {
		return 0, ErrRange
	}
	sum := number{p, 0}
	for i := range a {
		if code := checkNumbers(p, a[i], b[i]); code != ErrNone {
			return 0, code
		}
		sum = sum.plus(number{p, a[i]}.times(number{p, b[i]}))
	}
	return sum.value, ErrNone
}

// NumberText returns the text of a, and ErrNone.
func NumberText(p int64, a int64) (string, int64) {
	if code := checkNumbers(p, a); code != ErrNone {
		return "", code
	}
	return number{p, a}.text(), ErrNone
}

// ParseNumber returns the number with a text, and ErrNone. Errors: ErrSyntax if there is none.
// (ErrRange is not returned.)
func ParseNumber(p int64, text string) (int64, int64) {
	if !IsPrime(p) {
		return 0, ErrInvalid
	}
	// Comparing with the texts of all numbers accepts exactly these.
	for value := range p {
		if (number{p, value}).text() == text {
			return value, ErrNone
		}
	}
	return 0, ErrSyntax
}
