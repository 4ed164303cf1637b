// Package limit tells whether numbers are within their limits; the layers share it.
package limit

// Within tells whether x is from least to most.
func Within(x int, least int, most int) bool {
	return least <= x && x <= most
}
