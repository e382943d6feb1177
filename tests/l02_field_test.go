package tests

import (
	"math"
	"math/bits"
	"slices"
	"testing"

	"loop.example/g00835/impl"
)

// productByDivision is the product of two bytes as one reckons it on paper: whole first, then the rest of its division.
func productByDivision(a, b int) int {
	product := 0
	for k := range 8 {
		if b>>k&1 == 1 {
			product ^= a << k
		}
	}
	for k := 14; k >= 8; k-- {
		if product>>k&1 == 1 {
			product ^= 0x11b << (k - 8)
		}
	}
	return product
}

// namesOf tells numbers whose lowest eight bits are the byte b.
func namesOf(b int) []int {
	return []int{
		b, b + 256, b + 512, b - 256, b - 512, b + 0x12345600, b + 1<<32, b - 1<<32, b + 255<<8, b + 1<<62,
		math.MaxInt - 255 + b, math.MinInt + b,
	}
}

// allProducts is what Times tells of all pairs of bytes.
func allProducts() *[256][256]int {
	var products [256][256]int
	for a := range 256 {
		for b := range 256 {
			products[a][b] = impl.Times(a, b)
		}
	}
	return &products
}

func TestTwice(t *testing.T) {
	for b, want := range map[int]int{
		0: 0, 1: 2, 2: 4, 64: 128, 127: 254, 128: 27, 129: 25, 192: 155, 254: 231, 255: 229,
		256: 0, 257: 2, 384: 27, 511: 229, -1: 229, -128: 27, -129: 254, -256: 0, math.MaxInt: 229, math.MinInt: 0,
	} {
		if got := impl.Twice(b); got != want {
			t.Errorf("Twice(%d) = %d, not %d", b, got, want)
		}
	}
	for b := range 256 {
		for _, n := range namesOf(b) {
			if got := impl.Twice(n); got != productByDivision(b, 2) {
				t.Errorf("Twice(%d) = %d", n, got)
			}
		}
	}
}

func TestTimes(t *testing.T) {
	for _, c := range []struct{ a, b, want int }{
		{0x57, 0x83, 0xc1}, {0x57, 0x13, 0xfe}, {0x57, 0x80, 0x38}, {2, 128, 27}, {128, 2, 27}, {128, 128, 0x9a},
		{255, 255, 0x13}, {0, 77, 0}, {77, 0, 0}, {1, 77, 77}, {77, 1, 77}, {0, 0, 0}, {1, 1, 1},
		{256, 77, 0}, {77, 256, 0}, {257, 77, 77}, {-1, -1, 0x13}, {-1, 1, 255}, {-256, 255, 0},
		{math.MaxInt, 2, 229}, {math.MinInt, 2, 0}, {2, math.MaxInt, 229}, {2, math.MinInt, 0},
	} {
		if got := impl.Times(c.a, c.b); got != c.want {
			t.Errorf("Times(%d, %d) = %d, not %d", c.a, c.b, got, c.want)
		}
	}
	for a := range 256 {
		for b := range 256 {
			if got := impl.Times(a, b); got != productByDivision(a, b) {
				t.Errorf("Times(%d, %d) = %d, not %d", a, b, got, productByDivision(a, b))
			}
		}
	}
}

func TestTimesTakesTheLowestBits(t *testing.T) {
	for a := range 256 {
		for b := 0; b < 256; b += 5 {
			want := productByDivision(a, b)
			for _, n := range namesOf(a) {
				for _, m := range namesOf(b) {
					if got := impl.Times(n, m); got != want {
						t.Fatalf("Times(%d, %d) = %d, not %d", n, m, got, want)
					}
				}
			}
		}
	}
}

func TestProductsDoNotAskForOrder(t *testing.T) {
	products := allProducts()
	for a := range 256 {
		for b := range 256 {
			if products[a][b] != products[b][a] {
				t.Errorf("Times(%d, %d) = %d, the other way %d", a, b, products[a][b], products[b][a])
			}
			for c := range 256 {
				if products[products[a][b]][c] != products[a][products[b][c]] {
					t.Fatalf("the product of %d, %d and %d asks which two come first", a, b, c)
				}
			}
		}
	}
}

func TestProductsGoOverSums(t *testing.T) {
	products := allProducts()
	for a := range 256 {
		for b := range 256 {
			if impl.Twice(a^b) != impl.Twice(a)^impl.Twice(b) {
				t.Fatalf("Twice of the sum of %d and %d", a, b)
			}
			for c := range 256 {
				if products[a][b^c] != products[a][b]^products[a][c] || products[b^c][a] != products[b][a]^products[c][a] {
					t.Fatalf("the product of %d and the sum of %d and %d", a, b, c)
				}
			}
		}
	}
}

func TestInverse(t *testing.T) {
	for a, want := range map[int]int{0: 0, 1: 1, 2: 141, 3: 246, 0x53: 0xca, 0xca: 0x53, 255: 28, 256: 0, 257: 1, -1: 28, -256: 0} {
		if got := impl.Inverse(a); got != want {
			t.Errorf("Inverse(%d) = %d, not %d", a, got, want)
		}
	}
	for a := range 256 {
		inverse := 0
		for b := range 256 {
			if productByDivision(a, b) == 1 {
				inverse = b
			}
		}
		if a != 0 && inverse == 0 {
			t.Errorf("%d has no inverse", a)
		}
		for _, n := range namesOf(a) {
			if got := impl.Inverse(n); got != inverse {
				t.Errorf("Inverse(%d) = %d, not %d", n, got, inverse)
			}
		}
	}
}

func TestEachByteButNoughtHasAnInverse(t *testing.T) {
	for a := 1; a < 256; a++ {
		b := impl.Inverse(a)
		if impl.Times(a, b) != 1 || impl.Times(b, a) != 1 || impl.Inverse(b) != a {
			t.Errorf("Inverse(%d) = %d, and back %d", a, b, impl.Inverse(b))
		}
	}
}

func TestPower(t *testing.T) {
	for _, c := range []struct{ a, n, want int }{
		{2, 8, 27}, {2, 1, 2}, {2, 7, 128}, {3, 255, 1}, {3, 256, 3}, {5, 0, 1}, {0, 0, 1}, {0, 1, 0}, {0, 3, 0}, {1, 1000, 1},
		{256, 0, 1}, {256, 1, 0}, {258, 8, 27}, {-254, 8, 27}, {5, -1, 0}, {1, -1, 0}, {0, -1, 0}, {255, math.MinInt, 0},
		{math.MaxInt, 1, 255}, {math.MinInt, 1, 0}, {math.MinInt, 0, 1}, {0, math.MaxInt, 0}, {1, math.MaxInt, 1},
	} {
		if got := impl.Power(c.a, c.n); got != c.want {
			t.Errorf("Power(%d, %d) = %d, not %d", c.a, c.n, got, c.want)
		}
	}
	for a := range 256 {
		for n, want := 0, 1; n < 600; n++ {
			if got := impl.Power(a, n); got != want {
				t.Fatalf("Power(%d, %d) = %d, not %d", a, n, got, want)
			}
			want = productByDivision(want, a)
		}
	}
}

// The powers of a byte but 0 come again after 255 of them, so a great n is known by its rest.
func TestPowerOfGreatNumbers(t *testing.T) {
	great := []int{
		math.MaxInt, math.MaxInt - 1, math.MaxInt - 2, 1 << 62, 1<<62 - 1, 1<<62 + 1, 1 << 32, 1<<32 - 1, 1<<32 + 1,
		1 << 31, 1<<31 - 1, 1 << 16, 1<<16 + 1, 65535, 255 * 1000003, 255*1000003 + 1, 123456789012345678,
	}
	for a := range 256 {
		for _, n := range great {
			want := 0
			if a != 0 {
				want = impl.Power(a, n%255)
			}
			for _, name := range namesOf(a) {
				if got := impl.Power(name, n); got != want {
					t.Errorf("Power(%d, %d) = %d, not %d", name, n, got, want)
				}
				if got := impl.Power(name, -n); got != 0 {
					t.Errorf("Power(%d, %d) = %d", name, -n, got)
				}
			}
		}
	}
}

func TestParity(t *testing.T) {
	for b, want := range map[int]int{0: 0, 1: 1, 3: 0, 7: 1, 128: 1, 129: 0, 254: 1, 255: 0, 256: 0, 257: 1, -1: 0, -2: 1, math.MaxInt: 0, math.MinInt: 0} {
		if got := impl.Parity(b); got != want {
			t.Errorf("Parity(%d) = %d, not %d", b, got, want)
		}
	}
	for b := range 256 {
		for _, n := range namesOf(b) {
			if got := impl.Parity(n); got != bits.OnesCount(uint(b))%2 {
				t.Errorf("Parity(%d) = %d", n, got)
			}
		}
	}
}

func TestPlane(t *testing.T) {
	itself := []int{1, 2, 4, 8, 16, 32, 64, 128}
	mirrored := []int{128, 64, 32, 16, 8, 4, 2, 1}
	all := []int{255, 255, 255, 255, 255, 255, 255, 255}
	for b := range 256 {
		for _, n := range namesOf(b) {
			if got := impl.Plane(n, itself); got != b {
				t.Errorf("Plane(%d, itself) = %d", n, got)
			}
			if got := impl.Plane(n, mirrored); got != int(bits.Reverse8(uint8(b))) {
				t.Errorf("Plane(%d, mirrored) = %d", n, got)
			}
			if got := impl.Plane(n, all); got != 255*(bits.OnesCount8(uint8(b))%2) {
				t.Errorf("Plane(%d, all) = %d", n, got)
			}
			if got := impl.Plane(n, make([]int, 8)); got != 0 {
				t.Errorf("Plane(%d, noughts) = %d", n, got)
			}
		}
	}
	if got := impl.Plane(5, []int{5, 1, 4, 0, 255, 2, 7, 8}); got != 6 {
		t.Errorf("Plane of 5 = %d, not 6", got)
	}
}

// Each bit of each place tells alone: bit k hears of bit j just where it stands at place k.
func TestPlaneOfSingleBits(t *testing.T) {
	for k := range 8 {
		for j := range 8 {
			matrix := make([]int, 8)
			matrix[k] = 1 << j
			for b := range 256 {
				if got := impl.Plane(b, matrix); got != b>>j&1<<k {
					t.Errorf("Plane(%d, bit %d at place %d) = %d", b, j, k, got)
				}
			}
		}
	}
}

func TestPlaneTakesEightPlacesOfBytes(t *testing.T) {
	matrix := []int{0xf1, 0xe3, 0xc7, 0x8f, 0x1f, 0x3e, 0x7c, 0xf8}
	want := make([]int, 256)
	for b := range want {
		want[b] = impl.Plane(b, matrix)
	}
	for i := range namesOf(0) {
		named := make([]int, len(matrix))
		for k, row := range matrix {
			named[k] = namesOf(row)[i]
		}
		for b := range 256 {
			for _, longer := range [][]int{named, append(slices.Clone(named), 255), append(slices.Clone(named), -1, 0, 255, math.MaxInt)} {
				if got := impl.Plane(b, longer); got != want[b] {
					t.Errorf("Plane(%d, %d) = %d, not %d", b, longer, got, want[b])
				}
			}
		}
	}
}

func TestPlaneRefusesShortMatrices(t *testing.T) {
	for n := range 8 {
		short := slices.Repeat([]int{255}, 12)[:n] // what stands in the spare room is no place of it
		for b := range 256 {
			if got := impl.Plane(b, short); got != 0 {
				t.Errorf("Plane(%d, %d places) = %d", b, n, got)
			}
		}
	}
	if got := impl.Plane(1, nil); got != 0 {
		t.Errorf("Plane(1, nil) = %d", got)
	}
}

func TestPlaneWritesNothing(t *testing.T) {
	whole := []int{1, -2, 300, 8, 16, 32, 64, 128, 9, -10, 11, 12}
	was := slices.Clone(whole)
	for n := range len(whole) + 1 {
		for b := range 256 {
			first := impl.Plane(b, whole[:n])
			if impl.Plane(b, whole[:n]) != first || !slices.Equal(whole, was) {
				t.Fatalf("Plane(%d, %d places) wrote into its matrix: %d", b, n, whole)
			}
		}
	}
}

// Whatever numbers are given, the answer is a byte (or one bit), and it is the same again.
func TestFieldAnswersAtAnything(t *testing.T) {
	numbers := []int{math.MinInt, math.MinInt + 1, -1 << 32, -257, -256, -255, -1, 0, 1, 127, 128, 255, 256, 257, 1 << 31, 1 << 32, math.MaxInt - 1, math.MaxInt}
	for _, a := range numbers {
		for _, b := range numbers {
			matrix := slices.Repeat([]int{b}, 9)
			for name, answer := range map[string]func() int{
				"Twice":   func() int { return impl.Twice(a) },
				"Times":   func() int { return impl.Times(a, b) },
				"Power":   func() int { return impl.Power(a, b) },
				"Inverse": func() int { return impl.Inverse(a) },
				"Plane":   func() int { return impl.Plane(a, matrix) },
			} {
				if got := answer(); got < 0 || got > 255 || answer() != got {
					t.Errorf("%s of %d and %d = %d", name, a, b, got)
				}
			}
			if got := impl.Parity(a); got != 0 && got != 1 {
				t.Errorf("Parity(%d) = %d", a, got)
			}
		}
	}
}
