package tests

import (
	"math"
	"testing"

	"loop.example/g00969/impl"
)

// notElements are beside the field; some of them would be elements if only their low bits were looked at.
var notElements = []int{
	-1, -2, -27, -127, -128, -255, -256, -283, -1 << 32, math.MinInt, math.MinInt + 1, math.MinInt + 2,
	256, 257, 283, 511, 512, 1000, 65535, 1 << 32, 1<<32 + 1, 1 << 62, math.MaxInt - 1, math.MaxInt,
}

var notPowers = []int{
	-1, -2, -254, -255, -1000, -1 << 32, math.MinInt, math.MinInt + 1,
	1001, 1002, 1023, 1024, 1254, 65536, 1 << 32, 1<<32 + 1, 1 << 62, math.MaxInt - 1, math.MaxInt,
}

// knownBox is the substitution box as the standard of AES prints it, row by row.
var knownBox = [256]int{
	0x63, 0x7c, 0x77, 0x7b, 0xf2, 0x6b, 0x6f, 0xc5, 0x30, 0x01, 0x67, 0x2b, 0xfe, 0xd7, 0xab, 0x76,
	0xca, 0x82, 0xc9, 0x7d, 0xfa, 0x59, 0x47, 0xf0, 0xad, 0xd4, 0xa2, 0xaf, 0x9c, 0xa4, 0x72, 0xc0,
	0xb7, 0xfd, 0x93, 0x26, 0x36, 0x3f, 0xf7, 0xcc, 0x34, 0xa5, 0xe5, 0xf1, 0x71, 0xd8, 0x31, 0x15,
	0x04, 0xc7, 0x23, 0xc3, 0x18, 0x96, 0x05, 0x9a, 0x07, 0x12, 0x80, 0xe2, 0xeb, 0x27, 0xb2, 0x75,
	0x09, 0x83, 0x2c, 0x1a, 0x1b, 0x6e, 0x5a, 0xa0, 0x52, 0x3b, 0xd6, 0xb3, 0x29, 0xe3, 0x2f, 0x84,
	0x53, 0xd1, 0x00, 0xed, 0x20, 0xfc, 0xb1, 0x5b, 0x6a, 0xcb, 0xbe, 0x39, 0x4a, 0x4c, 0x58, 0xcf,
	0xd0, 0xef, 0xaa, 0xfb, 0x43, 0x4d, 0x33, 0x85, 0x45, 0xf9, 0x02, 0x7f, 0x50, 0x3c, 0x9f, 0xa8,
	0x51, 0xa3, 0x40, 0x8f, 0x92, 0x9d, 0x38, 0xf5, 0xbc, 0xb6, 0xda, 0x21, 0x10, 0xff, 0xf3, 0xd2,
	0xcd, 0x0c, 0x13, 0xec, 0x5f, 0x97, 0x44, 0x17, 0xc4, 0xa7, 0x7e, 0x3d, 0x64, 0x5d, 0x19, 0x73,
	0x60, 0x81, 0x4f, 0xdc, 0x22, 0x2a, 0x90, 0x88, 0x46, 0xee, 0xb8, 0x14, 0xde, 0x5e, 0x0b, 0xdb,
	0xe0, 0x32, 0x3a, 0x0a, 0x49, 0x06, 0x24, 0x5c, 0xc2, 0xd3, 0xac, 0x62, 0x91, 0x95, 0xe4, 0x79,
	0xe7, 0xc8, 0x37, 0x6d, 0x8d, 0xd5, 0x4e, 0xa9, 0x6c, 0x56, 0xf4, 0xea, 0x65, 0x7a, 0xae, 0x08,
	0xba, 0x78, 0x25, 0x2e, 0x1c, 0xa6, 0xb4, 0xc6, 0xe8, 0xdd, 0x74, 0x1f, 0x4b, 0xbd, 0x8b, 0x8a,
	0x70, 0x3e, 0xb5, 0x66, 0x48, 0x03, 0xf6, 0x0e, 0x61, 0x35, 0x57, 0xb9, 0x86, 0xc1, 0x1d, 0x9e,
	0xe1, 0xf8, 0x98, 0x11, 0x69, 0xd9, 0x8e, 0x94, 0x9b, 0x1e, 0x87, 0xe9, 0xce, 0x55, 0x28, 0xdf,
	0x8c, 0xa1, 0x89, 0x0d, 0xbf, 0xe6, 0x42, 0x68, 0x41, 0x99, 0x2d, 0x0f, 0xb0, 0x54, 0xbb, 0x16,
}

// longProduct multiplies as polynomials first and reduces by long division after that.
func longProduct(a int, b int) int {
	product := 0
	for place := 0; place < 8; place++ {
		if b&(1<<place) != 0 {
			product ^= a << place
		}
	}
	for place := 15; place >= 8; place-- {
		if product&(1<<place) != 0 {
			product ^= 283 << (place - 8)
		}
	}
	return product
}

// fieldLogs returns the powers of 3, which are all elements but 0, and for each of these elements its exponent.
func fieldLogs() ([255]int, [256]int) {
	var powers [255]int
	var exponents [256]int
	power := 1
	for exponent := range powers {
		powers[exponent] = power
		exponents[power] = exponent
		// Times 3 is times 2 and once more.
		twice := power * 2
		if twice >= 256 {
			twice = (twice - 256) ^ 27
		}
		power ^= twice
	}
	return powers, exponents
}

func checkFieldDouble(t *testing.T, a int, want int) {
	t.Helper()
	if got := impl.FieldDouble(a); got != want {
		t.Errorf("FieldDouble(%d): got %d, want %d", a, got, want)
	}
}

// checkFieldMul tries both orders.
func checkFieldMul(t *testing.T, a int, b int, want int) {
	t.Helper()
	if got := impl.FieldMul(a, b); got != want {
		t.Errorf("FieldMul(%d, %d): got %d, want %d", a, b, got, want)
	}
	if got := impl.FieldMul(b, a); got != want {
		t.Errorf("FieldMul(%d, %d): got %d, want %d", b, a, got, want)
	}
}

func checkFieldPow(t *testing.T, a int, n int, want int) {
	t.Helper()
	if got := impl.FieldPow(a, n); got != want {
		t.Errorf("FieldPow(%d, %d): got %d, want %d", a, n, got, want)
	}
}

func checkFieldInverse(t *testing.T, a int, want int) {
	t.Helper()
	if got := impl.FieldInverse(a); got != want {
		t.Errorf("FieldInverse(%d): got %d, want %d", a, got, want)
	}
}

func checkBoxOf(t *testing.T, a int, want int) {
	t.Helper()
	if got := impl.BoxOf(a); got != want {
		t.Errorf("BoxOf(%d): got %d, want %d", a, got, want)
	}
}

func TestFieldEveryElementButZeroHasAnInverse(t *testing.T) {
	var seen [256]bool
	for a := 1; a <= 255; a++ {
		inverse := impl.FieldInverse(a)
		if inverse < 1 || inverse > 255 {
			t.Errorf("FieldInverse(%d): got %d, want an element other than 0", a, inverse)
			continue
		}
		if seen[inverse] {
			t.Errorf("FieldInverse(%d): got %d, as for another element", a, inverse)
		}
		seen[inverse] = true
		checkFieldMul(t, a, inverse, 1)
		checkFieldInverse(t, inverse, a)
	}
}

// The inverse is found by a search of its own, with the second way to multiply.
func TestFieldInverseOfEveryElement(t *testing.T) {
	for a := 1; a <= 255; a++ {
		for b := 1; b <= 255; b++ {
			if longProduct(a, b) == 1 {
				checkFieldInverse(t, a, b)
			}
		}
	}
}

func TestFieldInverseKnownElements(t *testing.T) {
	for _, c := range []struct{ a, want int }{
		{1, 1}, {2, 141}, {3, 246}, {83, 202}, {141, 2}, {202, 83}, {246, 3}, {255, 28}, {28, 255},
	} {
		checkFieldInverse(t, c.a, c.want)
	}
}

func TestFieldInverseWhereThereIsNone(t *testing.T) {
	checkFieldInverse(t, 0, 0)
	for _, a := range notElements {
		checkFieldInverse(t, a, 0)
	}
}

func TestFieldDoubleOfEveryElement(t *testing.T) {
	for _, c := range []struct{ a, want int }{
		{0, 0}, {1, 2}, {87, 174}, {127, 254}, {128, 27}, {129, 25}, {141, 1}, {174, 71}, {255, 229},
	} {
		checkFieldDouble(t, c.a, c.want)
	}
	for a := 0; a <= 127; a++ {
		checkFieldDouble(t, a, a+a)
	}
	for a := 128; a <= 255; a++ {
		checkFieldDouble(t, a, (a+a-256)^27)
	}
}

func TestFieldDoubleOutsideTheField(t *testing.T) {
	for _, a := range notElements {
		checkFieldDouble(t, a, 0)
	}
}

func TestFieldMulKnownProducts(t *testing.T) {
	for _, c := range []struct{ a, b, want int }{
		{87, 131, 193}, {87, 2, 174}, {87, 4, 71}, {87, 8, 142}, {87, 16, 7}, {87, 19, 254},
		{83, 202, 1}, {2, 128, 27}, {3, 3, 5}, {16, 16, 27}, {127, 2, 254}, {128, 128, 154}, {255, 255, 19},
	} {
		checkFieldMul(t, c.a, c.b, c.want)
	}
}

func TestFieldMulWithZeroAndOne(t *testing.T) {
	for a := range 256 {
		checkFieldMul(t, a, 0, 0)
		checkFieldMul(t, a, 1, a)
	}
}

func TestFieldMulOfAllPairs(t *testing.T) {
	powers, exponents := fieldLogs()
	for a := range 256 {
		for b := range 256 {
			checkFieldMul(t, a, b, longProduct(a, b))
			if a != 0 && b != 0 {
				checkFieldMul(t, a, b, powers[(exponents[a]+exponents[b])%255])
			}
		}
	}
}

func TestFieldMulOutsideTheField(t *testing.T) {
	for _, a := range notElements {
		for b := range 256 {
			checkFieldMul(t, a, b, 0)
		}
		for _, b := range notElements {
			checkFieldMul(t, a, b, 0)
		}
	}
}

func TestFieldPowKnownPowers(t *testing.T) {
	for _, c := range []struct{ a, n, want int }{
		{2, 0, 1}, {2, 1, 2}, {2, 7, 128}, {2, 8, 27}, {2, 9, 54}, {2, 254, 141}, {2, 255, 1}, {2, 1000, 114}, {2, 1001, 0},
		{3, 0, 1}, {3, 1, 3}, {3, 2, 5}, {3, 254, 246}, {3, 255, 1}, {3, 256, 3}, {3, 1000, 148}, {3, 1001, 0},
		{0, 0, 1}, {0, 1, 0}, {0, 2, 0}, {0, 254, 0}, {0, 255, 0}, {0, 1000, 0}, {0, 1001, 0},
		{1, 0, 1}, {1, 1, 1}, {1, 254, 1}, {1, 255, 1}, {1, 1000, 1}, {1, 1001, 0},
		{255, 0, 1}, {255, 1, 255}, {255, 2, 19}, {255, 254, 28}, {255, 255, 1}, {255, 1000, 125}, {255, 1001, 0},
	} {
		checkFieldPow(t, c.a, c.n, c.want)
	}
}

// Every power within the range is reckoned as a product of n factors.
func TestFieldPowOfEveryElement(t *testing.T) {
	for a := range 256 {
		power := 1
		for n := 0; n <= 1000; n++ {
			checkFieldPow(t, a, n, power)
			power = longProduct(power, a)
		}
	}
}

func TestFieldPowOutsideTheRanges(t *testing.T) {
	for _, a := range notElements {
		for _, n := range []int{0, 1, 2, 8, 254, 255, 999, 1000} {
			checkFieldPow(t, a, n, 0)
		}
		for _, n := range notPowers {
			checkFieldPow(t, a, n, 0)
		}
	}
	for a := range 256 {
		for _, n := range notPowers {
			checkFieldPow(t, a, n, 0)
		}
	}
}

func TestBoxOfKnownElements(t *testing.T) {
	for _, c := range []struct{ a, want int }{{0, 99}, {1, 124}, {82, 0}, {83, 237}, {255, 22}} {
		checkBoxOf(t, c.a, c.want)
	}
	for a, want := range knownBox {
		checkBoxOf(t, a, want)
	}
}

func TestBoxOfTakesEveryValueOnce(t *testing.T) {
	var times [256]int
	for a := range 256 {
		value := impl.BoxOf(a)
		if value < 0 || value > 255 {
			t.Errorf("BoxOf(%d): got %d, want a byte", a, value)
			continue
		}
		times[value]++
	}
	for value, n := range times {
		if n != 1 {
			t.Errorf("BoxOf: got the value %d %d times, want once", value, n)
		}
	}
}

func TestBoxOfOutsideTheField(t *testing.T) {
	for _, a := range notElements {
		checkBoxOf(t, a, 0)
	}
}
