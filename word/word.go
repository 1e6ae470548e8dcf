// Package word is layer 1: see ../../shared/doc/01-word.md.
package word

import (
	"coxswain/api"
)

// Next is a counter, one further on.
func Next(c, mod uint32) uint32 { return Step(c, 1, mod) }

// Step is a counter, n further on.
func Step(c, n, mod uint32) uint32 {
	if mod == 0 {
		return 0
	}
	// Two words together may pass the end of 32 bits: there they would go round at 2^32, not at mod.
	return uint32((uint64(c) + uint64(n)) % uint64(mod))
}

// Gap is how far it is from one to another one.
func Gap(from, to, mod uint32) uint32 {
	if mod == 0 {
		return 0
	}
	return Step(to, mod-from%mod, mod)
}

// Ceil is how many of b are at least a.
func Ceil(a, b int) int {
	if a < 1 || b < 1 {
		return 0
	}
	// Not (a+b-1)/b: that sum may go round.
	return (a-1)/b + 1
}

// Clamp is a number within bounds.
func Clamp(n, low, high int) int { return max(low, min(n, high)) }

// Add is a sum that is at most top.
func Add(a, b int) int { return min(summand(a)+summand(b), api.Top) }

// Mul is a product that is at most top.
func Mul(a, b int) int {
	a, b = summand(a), summand(b)
	// Two numbers of up to 2^40 may pass the end of 63 bits, so the product is held against Top ahead of being made.
	if b > 0 && a > api.Top/b {
		return api.Top
	}
	return a * b
}

// summand is a number as it goes into sums and products.
func summand(n int) int { return Clamp(n, 0, api.Top) }

// Gcd is what divides both.
func Gcd(a, b int) int {
	if a < 1 || b < 1 {
		return 0
	}
	for b > 0 {
		a, b = b, a%b
	}
	return a
}

// Lcm is what both divide.
func Lcm(a, b int) int {
	g := Gcd(a, b)
	if g == 0 {
		return 0
	}
	return Mul(a/g, b)
}
