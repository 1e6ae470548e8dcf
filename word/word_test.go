package word_test

import (
	"math"
	"math/big"
	"testing"

	"coxswain/api"
	"coxswain/word"
)

const top = api.Top

// edges are numbers at which sums, products and bounds turn.
var edges = []int{math.MinInt, math.MinInt + 1, -top, -7, -1, 0, 1, 2, 3, 7, 1<<20 - 1, 1 << 20, 1<<20 + 1, top/2 - 1, top / 2, top/2 + 1, top - 1, top, top + 1, 2 * top, math.MaxInt - 1, math.MaxInt}

var words = []uint32{0, 1, 2, 3, 1 << 20, 1<<31 - 1, 1 << 31, 1<<31 + 1, math.MaxUint32 - 1, math.MaxUint32}

// P1.2, and P1.5's counters: small ones, step by step.
func TestCountersStepByStep(t *testing.T) {
	for mod := uint32(1); mod < 8; mod++ {
		for c := uint32(0); c < 20; c++ {
			next := c%mod + 1
			if next == mod {
				next = 0
			}
			if got := word.Next(c, mod); got != next {
				t.Errorf("Next(%d, %d): %d, not %d", c, mod, got, next)
			}
			at := c % mod
			for n := uint32(0); n < 20; n++ {
				if got := word.Step(c, n, mod); got != at {
					t.Errorf("Step(%d, %d, %d): %d, not %d", c, n, mod, got, at)
				}
				if got := word.Gap(c, at, mod); got != n%mod {
					t.Errorf("Gap(%d, %d, %d): %d, not %d", c, at, mod, got, n%mod)
				}
				at = word.Next(at, mod)
			}
		}
	}
}

// P1.2, P1.5: counters right ahead of where words wrap.
func TestCountersAtTheEdges(t *testing.T) {
	for _, mod := range words[1:] {
		for _, c := range words {
			for _, n := range words {
				m := uint64(mod)
				to := word.Step(c, n, mod)
				if uint64(to) != (uint64(c)+uint64(n))%m {
					t.Errorf("Step(%d, %d, %d): %d", c, n, mod, to)
				}
				if got := word.Gap(c, to, mod); got != n%mod {
					t.Errorf("Gap(%d, %d, %d): %d, not %d", c, to, mod, got, n%mod)
				}
				there, back := word.Gap(c, n, mod), word.Gap(n, c, mod)
				if sum := uint64(there) + uint64(back); there >= mod || back >= mod || sum != m && sum != 0 {
					t.Errorf("Gaps of %d and %d, modulus %d: %d and %d", c, n, mod, there, back)
				}
			}
			if word.Next(c, mod) != word.Step(c, 1, mod) {
				t.Errorf("Next(%d, %d): %d", c, mod, word.Next(c, mod))
			}
		}
	}
}

// P1.2: the modulus 0.
func TestCountersOfNoModulus(t *testing.T) {
	for _, c := range words {
		if word.Next(c, 0) != 0 || word.Step(c, 5, 0) != 0 || word.Gap(c, 5, 0) != 0 || word.Gap(5, c, 0) != 0 {
			t.Errorf("counter %d of the modulus 0", c)
		}
	}
}

// P1.3: Clamp, also where high is below low.
func TestClamp(t *testing.T) {
	for _, n := range edges {
		for _, low := range edges {
			for _, high := range edges {
				want := n
				if n > high {
					want = high
				}
				if want < low {
					want = low
				}
				if got := word.Clamp(n, low, high); got != want {
					t.Errorf("Clamp(%d, %d, %d): %d, not %d", n, low, high, got, want)
				}
			}
		}
	}
	if word.Clamp(3, 9, 5) != 9 || word.Clamp(7, 9, 5) != 9 || word.Clamp(12, 9, 5) != 9 {
		t.Error("Clamp: high below low")
	}
}

// bounded is what is at most Top of a number of any size.
func bounded(x *big.Int) int {
	if x.Cmp(big.NewInt(top)) > 0 {
		return top
	}
	return int(x.Int64())
}

// P1.3: Add and Mul, held against numbers of any size.
func TestSums(t *testing.T) {
	for _, a := range edges {
		for _, b := range edges {
			x, y := big.NewInt(int64(min(max(a, 0), top))), big.NewInt(int64(min(max(b, 0), top)))
			if got, want := word.Add(a, b), bounded(new(big.Int).Add(x, y)); got != want {
				t.Errorf("Add(%d, %d): %d, not %d", a, b, got, want)
			}
			if got, want := word.Mul(a, b), bounded(new(big.Int).Mul(x, y)); got != want {
				t.Errorf("Mul(%d, %d): %d, not %d", a, b, got, want)
			}
		}
	}
}

// P1.3, P1.5: Ceil, by its words.
func TestCeil(t *testing.T) {
	for a := -3; a < 50; a++ {
		for b := -3; b < 12; b++ {
			want := 0
			if a >= 1 && b >= 1 {
				for want*b < a {
					want++
				}
			}
			if got := word.Ceil(a, b); got != want {
				t.Errorf("Ceil(%d, %d): %d, not %d", a, b, got, want)
			}
			if a > b && b >= 1 && word.Ceil(a, b)-1 != word.Ceil(a-b, b) {
				t.Errorf("Ceil(%d, %d): not 1 less a step further down", a, b)
			}
		}
	}
	if word.Ceil(math.MaxInt, 1) != math.MaxInt || word.Ceil(math.MaxInt, math.MaxInt) != 1 || word.Ceil(math.MaxInt, 2) != 1<<62 || word.Ceil(math.MinInt, 2) != 0 || word.Ceil(2, math.MinInt) != 0 || word.Ceil(1, math.MaxInt) != 1 {
		t.Error("Ceil: huge numbers")
	}
}

// P1.4, P1.5: Gcd and Lcm, by their words.
func TestDivisors(t *testing.T) {
	for a := -2; a < 32; a++ {
		for b := -2; b < 32; b++ {
			gcd, lcm := 0, 0
			if a >= 1 && b >= 1 {
				for d := 1; d <= a; d++ {
					if a%d == 0 && b%d == 0 {
						gcd = d
					}
				}
				for lcm = a; lcm%b != 0; lcm += a {
				}
			}
			if got := word.Gcd(a, b); got != gcd {
				t.Errorf("Gcd(%d, %d): %d, not %d", a, b, got, gcd)
			}
			if got := word.Lcm(a, b); got != lcm {
				t.Errorf("Lcm(%d, %d): %d, not %d", a, b, got, lcm)
			}
			if a >= 1 && b >= 1 && word.Gcd(a, b)*word.Lcm(a, b) != a*b {
				t.Errorf("Gcd times Lcm of %d and %d", a, b)
			}
		}
	}
}

// P1.4, P1.5: Gcd and Lcm at huge numbers: only Lcm is at most Top.
func TestDivisorsAtTheEdges(t *testing.T) {
	for _, a := range edges {
		for _, b := range edges {
			gcd, lcm := 0, 0
			if a >= 1 && b >= 1 {
				x, y := big.NewInt(int64(a)), big.NewInt(int64(b))
				g := new(big.Int).GCD(nil, nil, x, y)
				gcd = int(g.Int64())
				lcm = bounded(new(big.Int).Mul(new(big.Int).Div(x, g), y))
			}
			if got := word.Gcd(a, b); got != gcd {
				t.Errorf("Gcd(%d, %d): %d, not %d", a, b, got, gcd)
			}
			if got := word.Lcm(a, b); got != lcm {
				t.Errorf("Lcm(%d, %d): %d, not %d", a, b, got, lcm)
			}
		}
	}
}

// The chapter's examples, and P1.1: the same arguments, the same answers.
func TestExamples(t *testing.T) {
	for range 2 {
		if word.Next(2, 3) != 0 || word.Gap(2, 1, 4) != 3 || word.Ceil(7, 3) != 3 || word.Lcm(4, 6) != 12 {
			t.Error("an example of the chapter")
		}
	}
}
