package tests

import (
	"slices"
	"testing"

	"loop.example/g01380/impl"
)

const (
	most  = impl.MaxEntry
	least = -impl.MaxEntry
)

// beyond has the numbers that every limit of MaxEntry must reject, with those of which the
// products wrap around.
func beyond() []int64 {
	return []int64{most + 1, least - 1, 1 << 32, -1 << 32, 1<<63 - 1, -1 << 63}
}

// someMatrices has all small matrices, and some with numbers at MaxEntry.
func someMatrices(t *testing.T, n int64) []impl.Matrix {
	t.Helper()
	list, code := impl.MatricesWithin(n)
	if code != impl.ErrNone || len(list) == 0 {
		t.Fatalf("MatricesWithin(%d) = %v, %d", n, list, code)
	}
	return append(list,
		impl.Matrix{1, most, 0, 1}, impl.Matrix{1, 0, least, 1}, impl.Matrix{-1, least, 0, -1},
		impl.Matrix{0, -1, 1, most}, impl.Matrix{most, most - 1, 1, 1},
		impl.Matrix{most - 1, least, 2 - most, most - 1},
		impl.Matrix{-31622, 31623, 31621, -31622}, impl.Matrix{144, 89, 55, 34})
}

func badMatrices() []impl.Matrix {
	list := []impl.Matrix{
		{}, {1, 1, 1, 1}, {0, 1, 1, 0}, {1, 0, 0, -1}, {2, 0, 0, 1}, {1, 2, 3, 4}, {most, most, most, most},
		{1 << 32, -1, 1, 1 << 32}, {-1 << 63, -1, 1, -1 << 63}, {1, 1 << 32, 1 << 32, 1},
	}
	for _, x := range beyond() {
		list = append(list, impl.Matrix{1, x, 0, 1}, impl.Matrix{1, 0, x, 1}, impl.Matrix{x, -1, 1, 0}, impl.Matrix{0, -1, 1, x})
	}
	return list
}

// someFractions is strictly ascending.
func someFractions() []impl.Fraction {
	return []impl.Fraction{
		{least, 1}, {least + 1, 1}, {least, 3}, {-7, 2}, {-3, 1}, {-5, 2}, {-1, 1}, {-2, 3}, {-1, 2}, {-1, most}, {0, 1},
		{1, most}, {1, most - 1}, {1, 3}, {1, 2}, {most - 2, most - 1}, {most - 1, most}, {1, 1}, {most, most - 1},
		{most - 1, most - 2}, {3, 2}, {2, 1}, {most, 3}, {most - 1, 1}, {most, 1}, {1, 0},
	}
}

func badFractions() []impl.Fraction {
	list := []impl.Fraction{
		{}, {0, 2}, {2, 0}, {-1, 0}, {0, -1}, {1, -1}, {-1, -2}, {2, 4}, {-6, 3}, {most, most}, {most, 0}, {most, 10},
	}
	for _, x := range beyond() {
		list = append(list, impl.Fraction{x, 1}, impl.Fraction{1, x}, impl.Fraction{x, 0}, impl.Fraction{0, x})
	}
	return list
}

func wantMatrix(t *testing.T, what string, m impl.Matrix, code int64, want impl.Matrix) {
	t.Helper()
	if m != want || code != impl.ErrNone {
		t.Errorf("%s = %v, %d, not %v", what, m, code, want)
	}
}

// wantNoMatrix asks for the error, and for the zero value beside it.
func wantNoMatrix(t *testing.T, what string, m impl.Matrix, code int64, want int64) {
	t.Helper()
	if m != (impl.Matrix{}) || code != want {
		t.Errorf("%s = %v, %d, not the error %d", what, m, code, want)
	}
}

func wantFraction(t *testing.T, what string, f impl.Fraction, code int64, want impl.Fraction) {
	t.Helper()
	if f != want || code != impl.ErrNone {
		t.Errorf("%s = %v, %d, not %v", what, f, code, want)
	}
}

func wantNoFraction(t *testing.T, what string, f impl.Fraction, code int64, want int64) {
	t.Helper()
	if f != (impl.Fraction{}) || code != want {
		t.Errorf("%s = %v, %d, not the error %d", what, f, code, want)
	}
}

func wantNumber(t *testing.T, what string, x int64, code int64, want int64) {
	t.Helper()
	if x != want || code != impl.ErrNone {
		t.Errorf("%s = %d, %d, not %d", what, x, code, want)
	}
}

func wantNoNumber(t *testing.T, what string, x int64, code int64, want int64) {
	t.Helper()
	if x != 0 || code != want {
		t.Errorf("%s = %d, %d, not the error %d", what, x, code, want)
	}
}

func wantList(t *testing.T, what string, list []int64, code int64, want []int64) {
	t.Helper()
	if !slices.Equal(list, want) || code != impl.ErrNone {
		t.Errorf("%s = %v, %d, not %v", what, list, code, want)
	}
}

func wantNoList(t *testing.T, what string, list []int64, code int64, want int64) {
	t.Helper()
	if len(list) != 0 || code != want {
		t.Errorf("%s = %v, %d, not the error %d", what, list, code, want)
	}
}

func wantText(t *testing.T, what string, text string, code int64, want string) {
	t.Helper()
	if text != want || code != impl.ErrNone {
		t.Errorf("%s = %q, %d, not %q", what, text, code, want)
	}
}

func wantNoText(t *testing.T, what string, text string, code int64, want int64) {
	t.Helper()
	if text != "" || code != want {
		t.Errorf("%s = %q, %d, not the error %d", what, text, code, want)
	}
}

func wantAnswer(t *testing.T, what string, answer bool, code int64, want bool) {
	t.Helper()
	if answer != want || code != impl.ErrNone {
		t.Errorf("%s = %t, %d, not %t", what, answer, code, want)
	}
}

func wantNoAnswer(t *testing.T, what string, answer bool, code int64, want int64) {
	t.Helper()
	if answer || code != want {
		t.Errorf("%s = %t, %d, not the error %d", what, answer, code, want)
	}
}

func wantFractions(t *testing.T, what string, list []impl.Fraction, code int64, want []impl.Fraction) {
	t.Helper()
	if !slices.Equal(list, want) || code != impl.ErrNone {
		t.Errorf("%s = %v, %d, not %v", what, list, code, want)
	}
}

func wantNoFractions(t *testing.T, what string, list []impl.Fraction, code int64, want int64) {
	t.Helper()
	if len(list) != 0 || code != want {
		t.Errorf("%s = %v, %d, not the error %d", what, list, code, want)
	}
}
