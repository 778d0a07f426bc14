package impl

import (
	"strconv"
	"strings"
)

// The error codes of all chapters.
const (
	ErrNone = iota
	ErrInvalid
	ErrRange
	ErrLimit
	ErrNotFound
	ErrState
	ErrSyntax
)

// MaxEntry is the greatest number in a matrix or in a fraction, without its sign.
const MaxEntry = 1000000000

const (
	maxPower      = 1000000
	maxModulus    = 1000000
	maxCounted    = 1000
	maxWithin     = 3
	greatestOrder = 6
)

// Matrix has the rows m[0] m[1] and m[2] m[3].
type Matrix [4]int64

// Fraction is f[0] / f[1]; infinity is 1/0.
type Fraction [2]int64

var (
	identity = Matrix{1, 0, 0, 1}
	matrixS  = Matrix{0, -1, 1, 0}
)

// IsMatrix reports whether m has numbers within MaxEntry and the determinant 1.
func IsMatrix(m Matrix) bool {
	return allWithin(m[:], MaxEntry) && m[0]*m[3]-m[1]*m[2] == 1
}

// ProductOf returns the product, m first, and ErrNone.
func ProductOf(m Matrix, n Matrix) (Matrix, int64) {
	return productOfAll(m, n)
}

// InverseOf returns the inverse, and ErrNone.
func InverseOf(m Matrix) (Matrix, int64) {
	if !IsMatrix(m) {
		return Matrix{}, ErrInvalid
	}
	return inverse(m), ErrNone
}

// PowerOf returns the power of m and k, in -1000000..1000000, and ErrNone.
func PowerOf(m Matrix, k int64) (Matrix, int64) {
	if !IsMatrix(m) {
		return Matrix{}, ErrInvalid
	}
	if !isWithin(k, maxPower) {
		return Matrix{}, ErrRange
	}
	if k < 0 {
		m, k = inverse(m), -k
	}
	return powerBySquares(m, k)
}

// TraceOf returns the trace, and ErrNone.
func TraceOf(m Matrix) (int64, int64) {
	if !IsMatrix(m) {
		return 0, ErrInvalid
	}
	return m[0] + m[3], ErrNone
}

// KindOf returns the kind, and ErrNone.
func KindOf(m Matrix) (int64, int64) {
	if !IsMatrix(m) {
		return 0, ErrInvalid
	}
	if m == identity || m == negative(identity) {
		return 0, ErrNone
	}
	trace := absolute(m[0] + m[3])
	switch {
	case trace < 2:
		return 1, ErrNone
	case trace == 2:
		return 2, ErrNone
	}
	return 3, ErrNone
}

// OrderOf returns the order, and ErrNone. Errors: ErrNotFound if there is none.
func OrderOf(m Matrix) (int64, int64) {
	if !IsMatrix(m) {
		return 0, ErrInvalid
	}
	order, found := firstPowers(m)[identity]
	if !found {
		return 0, ErrNotFound
	}
	return order, ErrNone
}

// ConjugateBy returns the product of n, m and the inverse of n, and ErrNone. Errors: ErrLimit as
// told, also for the product of n and m.
func ConjugateBy(m Matrix, n Matrix) (Matrix, int64) {
	return productOfAll(n, m, inverse(n))
}

// CommutatorOf returns the product of m, n, the inverse of m, and the inverse of n, and ErrNone.
// Errors: ErrLimit as told, also for the products of the first two and of the first three.
func CommutatorOf(m Matrix, n Matrix) (Matrix, int64) {
	return productOfAll(m, n, inverse(m), inverse(n))
}

// IsFraction reports whether f has numbers within MaxEntry and is written in lowest terms.
func IsFraction(f Fraction) bool {
	if !allWithin(f[:], MaxEntry) || f == (Fraction{}) {
		return false
	}
	return lowestTerms(f[0], f[1]) == f
}

// FractionOf returns the fraction that two numbers from -MaxEntry to MaxEntry make, and ErrNone.
// Errors: ErrState if both are 0.
func FractionOf(p int64, q int64) (Fraction, int64) {
	if !isWithin(p, MaxEntry) || !isWithin(q, MaxEntry) {
		return Fraction{}, ErrRange
	}
	if p == 0 && q == 0 {
		return Fraction{}, ErrState
	}
	return lowestTerms(p, q), ErrNone
}

// CompareFractions returns -1, 0 or 1 if f is less than g, is g, or is greater, and ErrNone.
func CompareFractions(f Fraction, g Fraction) (int64, int64) {
	if !IsFraction(f) || !IsFraction(g) {
		return 0, ErrInvalid
	}
	// Infinity needs no case of its own: 1/0 has 1 on its side of the products against 0.
	return signOf(f[0]*g[1] - g[0]*f[1]), ErrNone
}

// LeadFraction returns the fraction to which m leads f, and ErrNone.
func LeadFraction(m Matrix, f Fraction) (Fraction, int64) {
	if !IsMatrix(m) || !IsFraction(f) {
		return Fraction{}, ErrInvalid
	}
	led := lowestTerms(m[0]*f[0]+m[1]*f[1], m[2]*f[0]+m[3]*f[1])
	if !allWithin(led[:], MaxEntry) {
		return Fraction{}, ErrLimit
	}
	return led, ErrNone
}

// KeptFraction returns the only fraction that a matrix keeps, and ErrNone. Errors: ErrState if m is
// of the kind 0; ErrNotFound if it keeps none.
func KeptFraction(m Matrix) (Fraction, int64) {
	kind, code := KindOf(m)
	if code != ErrNone {
		return Fraction{}, code
	}
	if kind == 0 {
		return Fraction{}, ErrState
	}
	// p/q is kept if c p p + (d - a) p q - b q q = 0, an equation with the discriminant
	// trace * trace - 4, which is a square for no other kind than 2.
	if kind != 2 {
		return Fraction{}, ErrNotFound
	}
	if m[2] == 0 {
		return Fraction{1, 0}, ErrNone
	}
	return lowestTerms(m[0]-m[3], 2*m[2]), ErrNone
}

// RestsOf returns the rests in 0..n - 1 of the four numbers of m by n, in 1..1000000, and ErrNone.
func RestsOf(m Matrix, n int64) ([]int64, int64) {
	if !IsMatrix(m) {
		return nil, ErrInvalid
	}
	if n < 1 || n > maxModulus {
		return nil, ErrRange
	}
	rests := make([]int64, 0, len(m))
	for _, x := range m {
		rests = append(rests, restOf(x, n))
	}
	return rests, ErrNone
}

// CountModulo returns the number of the different rests of all matrices by n, in 1..1000, and
// ErrNone.
func CountModulo(n int64) (int64, int64) {
	if n < 1 || n > maxCounted {
		return 0, ErrRange
	}
	// The number is n * n * n times 1 - 1 / (p * p) for each prime p that divides n.
	count, rest := n*n*n, n
	for p := int64(2); p <= rest; p++ {
		if rest%p != 0 {
			continue
		}
		count = count / (p * p) * (p*p - 1)
		for rest%p == 0 {
			rest /= p
		}
	}
	return count, ErrNone
}

// MatricesWithin returns all matrices whose numbers are from -n to n, n in 0..3, in order, and
// ErrNone.
func MatricesWithin(n int64) ([]Matrix, int64) {
	if n < 0 || n > maxWithin {
		return nil, ErrRange
	}
	var list []Matrix
	for a := -n; a <= n; a++ {
		for b := -n; b <= n; b++ {
			for c := -n; c <= n; c++ {
				for d := -n; d <= n; d++ {
					if m := (Matrix{a, b, c, d}); IsMatrix(m) {
						list = append(list, m)
					}
				}
			}
		}
	}
	return list, ErrNone
}

// NamedMatrix returns the matrix with a name, and ErrNone. Errors: ErrNotFound if there is none.
func NamedMatrix(name string) (Matrix, int64) {
	m, found := namedMatrices()[name]
	if !found {
		return Matrix{}, ErrNotFound
	}
	return m, ErrNone
}

// MatrixText returns the text of m, and ErrNone.
func MatrixText(m Matrix) (string, int64) {
	if !IsMatrix(m) {
		return "", ErrInvalid
	}
	return joinNumbers(m[:], ","), ErrNone
}

// ParseMatrix returns the matrix with a text, and ErrNone. Errors: ErrSyntax if there is none. (No
// other errors are returned.)
func ParseMatrix(text string) (Matrix, int64) {
	numbers, ok := splitNumbers(text, ",", len(Matrix{}))
	if !ok || !IsMatrix(Matrix(numbers)) {
		return Matrix{}, ErrSyntax
	}
	return Matrix(numbers), ErrNone
}

// FractionText returns the text of f, and ErrNone.
func FractionText(f Fraction) (string, int64) {
	if !IsFraction(f) {
		return "", ErrInvalid
	}
	return joinNumbers(f[:], "/"), ErrNone
}

// ParseFraction returns the fraction with a text, and ErrNone. Errors: ErrSyntax if there is none.
// (No other errors are returned.)
func ParseFraction(text string) (Fraction, int64) {
	numbers, ok := splitNumbers(text, "/", len(Fraction{}))
	if !ok || !IsFraction(Fraction(numbers)) {
		return Fraction{}, ErrSyntax
	}
	return Fraction(numbers), ErrNone
}

// productOfAll returns the product of the list, taken from the left. It checks all of the list
// ahead of the first product, since ErrInvalid comes before ErrLimit.
func productOfAll(list ...Matrix) (Matrix, int64) {
	for _, m := range list {
		if !IsMatrix(m) {
			return Matrix{}, ErrInvalid
		}
	}
	product := identity
	for _, m := range list {
		product = multiply(product, m)
		if !allWithin(product[:], MaxEntry) {
			return Matrix{}, ErrLimit
		}
	}
	return product, ErrNone
}

// multiply cannot overflow for numbers within MaxEntry.
func multiply(m, n Matrix) Matrix {
	return Matrix{
		m[0]*n[0] + m[1]*n[2], m[0]*n[1] + m[1]*n[3],
		m[2]*n[0] + m[3]*n[2], m[2]*n[1] + m[3]*n[3],
	}
}

// powerBySquares returns the power for k of at least 0. Along the powers of a matrix no number
// comes nearer to 0 again once it is beyond MaxEntry (those of the kind 1 stay small enough), so a
// square beyond the limit means that the power of k is beyond it, too.
func powerBySquares(m Matrix, k int64) (Matrix, int64) {
	power, code := identity, int64(ErrNone)
	for ; k > 0; k /= 2 {
		if k%2 == 1 {
			if power, code = productOfAll(power, m); code != ErrNone {
				return Matrix{}, code
			}
		}
		// The last square would not be used, and may be beyond the limit.
		if k == 1 {
			break
		}
		if m, code = productOfAll(m, m); code != ErrNone {
			return Matrix{}, code
		}
	}
	return power, ErrNone
}

// firstPowers returns the least exponent of each matrix among the first powers of m. No finite
// order of a matrix is above greatestOrder, so the identity is among them if m has an order.
func firstPowers(m Matrix) map[Matrix]int64 {
	exponents := map[Matrix]int64{}
	power := m
	for k := int64(1); k <= greatestOrder; k++ {
		if _, met := exponents[power]; met {
			break
		}
		exponents[power] = k
		next, code := productOfAll(power, m)
		if code != ErrNone {
			break
		}
		power = next
	}
	return exponents
}

func namedMatrices() map[string]Matrix {
	return map[string]Matrix{
		"S": matrixS,
		"T": {1, 1, 0, 1},
		"L": {1, 0, 1, 1},
		"U": {1, -1, 1, 0},
		"I": identity,
	}
}

func inverse(m Matrix) Matrix {
	return Matrix{m[3], -m[1], -m[2], m[0]}
}

func negative(m Matrix) Matrix {
	return Matrix{-m[0], -m[1], -m[2], -m[3]}
}

// lowestTerms returns the fraction that two numbers, not both 0, make. Its numbers may be beyond
// MaxEntry if those given are.
func lowestTerms(p, q int64) Fraction {
	divisor := commonDivisor(p, q)
	if q < 0 || q == 0 && p < 0 {
		divisor = -divisor
	}
	return Fraction{p / divisor, q / divisor}
}

func commonDivisor(x, y int64) int64 {
	for y != 0 {
		x, y = y, x%y
	}
	return absolute(x)
}

// restOf is in 0..n - 1, also where Go's rest is less than 0.
func restOf(x, n int64) int64 {
	return (x%n + n) % n
}

func absolute(x int64) int64 {
	if x < 0 {
		return -x
	}
	return x
}

func signOf(x int64) int64 {
	switch {
	case x < 0:
		return -1
	case x > 0:
		return 1
	}
	return 0
}

// isWithin compares without turning the sign of x, which has no opposite if it is the least int64.
func isWithin(x, limit int64) bool {
	return -limit <= x && x <= limit
}

func allWithin(list []int64, limit int64) bool {
	for _, x := range list {
		if !isWithin(x, limit) {
			return false
		}
	}
	return true
}

func joinNumbers(list []int64, separator string) string {
	words := make([]string, 0, len(list))
	for _, x := range list {
		words = append(words, strconv.FormatInt(x, 10))
	}
	return strings.Join(words, separator)
}

// splitNumbers reads just count numbers.
func splitNumbers(text, separator string, count int) ([]int64, bool) {
	words := strings.SplitN(text, separator, count+1)
	if len(words) != count {
		return nil, false
	}
	numbers := make([]int64, 0, count)
	for _, word := range words {
		x, ok := parseNumber(word)
		if !ok {
			return nil, false
		}
		numbers = append(numbers, x)
	}
	return numbers, true
}

// parseNumber takes a number just as joinNumbers writes it, which strconv alone would not ask for: it
// takes +1, 01 and -0, too.
func parseNumber(word string) (int64, bool) {
	x, err := strconv.ParseInt(word, 10, 64)
	return x, err == nil && strconv.FormatInt(x, 10) == word
}
