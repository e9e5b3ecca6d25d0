package tests

import (
	"math"
	"math/big"
	"sync"
	"testing"

	"loop.example/g00279/impl"
)

const mostModulus = 1<<31 - 1

func wantMul(t *testing.T, a int64, b int64, m int64, want int64) {
	t.Helper()
	if got := impl.ModMul(a, b, m); got != want {
		t.Errorf("ModMul(%d, %d, %d): got %d, want %d", a, b, m, got, want)
	}
}

func wantPow(t *testing.T, a int64, n int64, m int64, want int64) {
	t.Helper()
	if got := impl.ModPow(a, n, m); got != want {
		t.Errorf("ModPow(%d, %d, %d): got %d, want %d", a, n, m, got, want)
	}
}

func wantInv(t *testing.T, a int64, m int64, want int64) {
	t.Helper()
	if got := impl.ModInv(a, m); got != want {
		t.Errorf("ModInv(%d, %d): got %d, want %d", a, m, got, want)
	}
}

func wantGroupRight(t *testing.T, y int64, want bool) {
	t.Helper()
	if got := impl.GroupRight(y); got != want {
		t.Errorf("GroupRight(%d): got %t, want %t", y, got, want)
	}
}

func wantGroupMul(t *testing.T, a int64, b int64, want int64) {
	t.Helper()
	if got := impl.GroupMul(a, b); got != want {
		t.Errorf("GroupMul(%d, %d): got %d, want %d", a, b, got, want)
	}
}

func wantGroupPow(t *testing.T, y int64, n int64, want int64) {
	t.Helper()
	if got := impl.GroupPow(y, n); got != want {
		t.Errorf("GroupPow(%d, %d): got %d, want %d", y, n, got, want)
	}
}

// bigMul and bigPow work in numbers that have no bound.
func bigMul(a int64, b int64, m int64) int64 {
	product := new(big.Int).Mul(big.NewInt(a), big.NewInt(b))
	return product.Mod(product, big.NewInt(m)).Int64()
}

func bigPow(a int64, n int64, m int64) int64 {
	return new(big.Int).Exp(big.NewInt(a), big.NewInt(n), big.NewInt(m)).Int64()
}

// isSquare tells the group apart by other means than a power: of a GroupP that is 2 times a prime and 1 it is the squares.
func isSquare(y int64) bool {
	return big.Jacobi(big.NewInt(y), big.NewInt(impl.GroupP)) == 1
}

// wrongModuli are those around the bounds, and some that would be right, were they cut to fewer bits.
func wrongModuli() []int64 {
	return []int64{1, 0, -1, -2, -7, -mostModulus, math.MinInt64, 1 << 31, 1<<31 + 1, 1<<32 + 7, 1 << 62, math.MaxInt64}
}

func greatModuli() []int64 {
	return []int64{impl.GroupQ, impl.GroupP - 1, impl.GroupP, 1 << 30, mostModulus - 1, mostModulus}
}

// edgeNumbers are those around which products leave 32 or 64 bits, and the ends.
func edgeNumbers() []int64 {
	return []int64{0, 1, 2, 3, 46340, 46341, 65535, 65536, impl.GroupQ, impl.GroupP - 1, impl.GroupP, mostModulus - 1, mostModulus,
		1 << 31, 1<<31 + 1, 1<<32 - 1, 1 << 32, 3037000500, 1 << 62, math.MaxInt64 - 1, math.MaxInt64}
}

func belowNought() []int64 {
	return []int64{-1, -2, -5, -impl.GroupQ, -impl.GroupP, -mostModulus, math.MinInt64 + 1, math.MinInt64}
}

// noUnits are those that GroupMul and GroupPow do not take.
func noUnits() []int64 {
	return append(belowNought(), 0, impl.GroupP, impl.GroupP+1, impl.GroupP+4, mostModulus, 1<<32+4, math.MaxInt64)
}

// someUnits are numbers from 1 to GroupP less 1, of the group and outside it.
func someUnits() []int64 {
	out := []int64{1, 2, 3, 4, 5, 16, impl.GroupQ - 1, impl.GroupQ, impl.GroupQ + 1, impl.GroupP - 4, impl.GroupP - 2, impl.GroupP - 1}
	y := int64(12345)
	for range 60 {
		y = (y*48271 + 11) % impl.GroupP
		out = append(out, y)
	}
	return out
}

func someOfTheGroup() []int64 {
	var out []int64
	for _, y := range someUnits() {
		if y != 1 && isSquare(y) {
			out = append(out, y)
		}
	}
	return out
}

func somePowers() []int64 {
	return []int64{0, 1, 2, 3, 7, 1 << 29, 1<<29 - 1, 1<<30 - 1, 1 << 30, impl.GroupQ - 2, impl.GroupQ - 1, impl.GroupQ, impl.GroupQ + 1,
		impl.GroupQ + 2, impl.GroupP - 2, impl.GroupP - 1, impl.GroupP, 2 * impl.GroupQ, 5 * impl.GroupQ, 1 << 62, math.MaxInt64 - 1, math.MaxInt64}
}

func TestTheGroupsNumbers(t *testing.T) {
	if numbers := [3]int64{impl.GroupP, impl.GroupQ, impl.GroupG}; numbers != [3]int64{2147483579, 1073741789, 4} {
		t.Errorf("the numbers of the group are %v", numbers)
	}
	for _, prime := range []int64{impl.GroupP, impl.GroupQ} {
		if !big.NewInt(prime).ProbablyPrime(20) {
			t.Errorf("%d is no prime", prime)
		}
	}
	if impl.GroupP != 2*impl.GroupQ+1 {
		t.Error("GroupP is not 2 times GroupQ and 1")
	}
}

func TestProductsAtSmallModuli(t *testing.T) {
	for m := int64(2); m <= 40; m++ {
		for a := range 2*m + 2 {
			for b := range 2*m + 2 {
				wantMul(t, a, b, m, a*b%m)
			}
		}
	}
}

func TestPowersAtSmallModuli(t *testing.T) {
	for m := int64(2); m <= 40; m++ {
		for a := range 2*m + 2 {
			plain := int64(1)
			for n := range int64(90) {
				wantPow(t, a, n, m, plain)
				plain = plain * a % m
			}
		}
	}
}

func TestProductsOfGreatNumbers(t *testing.T) {
	for _, m := range append(greatModuli(), 2, 3, 10, 65536) {
		for _, a := range edgeNumbers() {
			for _, b := range edgeNumbers() {
				wantMul(t, a, b, m, bigMul(a, b, m))
			}
		}
		for _, a := range []int64{m - 2, m - 1, m, m + 1} {
			for _, b := range []int64{m - 2, m - 1, m, m + 1} {
				wantMul(t, a, b, m, bigMul(a, b, m))
			}
		}
	}
	wantMul(t, mostModulus-1, mostModulus-1, mostModulus, 1)
	wantMul(t, math.MaxInt64, math.MaxInt64, 2, 1)
	wantMul(t, math.MaxInt64, math.MaxInt64, mostModulus, 1)
	wantMul(t, math.MaxInt64, 0, mostModulus, 0)
}

func TestPowersOfGreatNumbers(t *testing.T) {
	for _, m := range append(greatModuli(), 2, 3, 10, 65536) {
		for _, a := range append(edgeNumbers(), m-2, m-1, m, m+1) {
			for _, n := range append(edgeNumbers(), somePowers()...) {
				wantPow(t, a, n, m, bigPow(a, n, m))
			}
		}
	}
	wantPow(t, mostModulus-1, math.MaxInt64, mostModulus, mostModulus-1)
	wantPow(t, 2, math.MaxInt64, mostModulus, 128) // 2^31 is 1 there, and 2^63-1 modulo 31 is 7
	wantPow(t, math.MaxInt64, math.MaxInt64, 2, 1)
}

func TestThePowerNoughtIsOne(t *testing.T) {
	for _, m := range append(greatModuli(), 2, 3, 4, 10) {
		for _, a := range append(edgeNumbers(), m-1, m, m+1, 2*m) {
			wantPow(t, a, 0, m, 1)
			wantPow(t, a, 1, m, a%m)
		}
		wantPow(t, 0, 1, m, 0)
		wantPow(t, 0, math.MaxInt64, m, 0)
		wantPow(t, m, 5, m, 0)
	}
}

func TestModuliThatAreNotRight(t *testing.T) {
	for _, m := range wrongModuli() {
		for _, a := range append(edgeNumbers(), belowNought()...) {
			for _, b := range append(edgeNumbers(), -1) {
				wantMul(t, a, b, m, 0)
				wantPow(t, a, b, m, 0)
			}
			wantInv(t, a, m, 0)
		}
	}
}

func TestProductsAndPowersBelowNought(t *testing.T) {
	for _, m := range append(greatModuli(), 2, 3, 10) {
		for _, low := range belowNought() {
			for _, other := range append(edgeNumbers(), belowNought()...) {
				wantMul(t, low, other, m, 0)
				wantMul(t, other, low, m, 0)
				wantPow(t, low, other, m, 0)
				wantPow(t, other, low, m, 0)
			}
		}
	}
}

func TestInversesOfPrimes(t *testing.T) {
	for m := int64(2); m <= 150; m++ {
		if !big.NewInt(m).ProbablyPrime(20) {
			continue
		}
		for a := int64(1); a < m; a++ {
			inverse := impl.ModInv(a, m)
			if inverse < 1 || inverse >= m || a*inverse%m != 1 {
				t.Errorf("ModInv(%d, %d): got %d, whose product with it is not 1", a, m, inverse)
			}
		}
	}
	for _, m := range []int64{impl.GroupQ, impl.GroupP, mostModulus} {
		for _, a := range []int64{1, 2, 3, 65536, 65537, m / 2, m/2 + 1, m - 3, m - 2, m - 1} {
			wantInv(t, a, m, new(big.Int).ModInverse(big.NewInt(a), big.NewInt(m)).Int64())
			wantMul(t, a, impl.ModInv(a, m), m, 1)
		}
	}
}

func TestInversesOfModuliThatAreNoPrimes(t *testing.T) {
	for m := int64(2); m <= 100; m++ {
		for a := int64(1); a < m; a++ {
			wantInv(t, a, m, bigPow(a, m-2, m))
		}
	}
	wantInv(t, 2, 4, 0)
	wantInv(t, 3, 4, 1)
	wantInv(t, 2, 9, 2)
	wantInv(t, 5, 6, 1)
	wantInv(t, 1, 1<<30, 1)
	wantInv(t, mostModulus-2, mostModulus-1, 1)
	wantInv(t, 3, mostModulus-1, bigPow(3, mostModulus-3, mostModulus-1))
}

func TestInverseEdges(t *testing.T) {
	for _, m := range append(greatModuli(), 2, 3, 4, 5, 9, 10) {
		wantInv(t, 1, m, 1)
		wantInv(t, m-1, m, bigPow(m-1, m-2, m))
		for _, a := range append(belowNought(), 0, m, m+1, 2*m, 2*m+1, 1<<32+1, math.MaxInt64) {
			wantInv(t, a, m, 0)
		}
	}
	wantInv(t, mostModulus-1, mostModulus, mostModulus-1)
	wantInv(t, impl.GroupP-1, impl.GroupP, impl.GroupP-1)
}

func TestGroupRight(t *testing.T) {
	for y, want := range map[int64]bool{
		0: false, 1: false, 2: false, 3: true, impl.GroupG: true, 16: true, impl.GroupP - 2: true,
		impl.GroupP - 4: false, impl.GroupP - 1: false, impl.GroupP: false, impl.GroupP + 1: false, impl.GroupP + impl.GroupG: false,
		-1: false, -impl.GroupG: false, impl.GroupG - impl.GroupP: false, 1<<32 + impl.GroupG: false,
		math.MaxInt64: false, math.MinInt64: false,
	} {
		wantGroupRight(t, y, want)
	}
	for _, y := range noUnits() {
		wantGroupRight(t, y, false)
	}
	for y := int64(2); y <= 3000; y++ {
		wantGroupRight(t, y, isSquare(y))
		wantGroupRight(t, impl.GroupP-y, isSquare(impl.GroupP-y))
		wantGroupRight(t, y*y, true)
		wantGroupRight(t, impl.GroupP-y*y, false)
	}
	for _, y := range someUnits() {
		wantGroupRight(t, y, y != 1 && isSquare(y))
	}
}

func TestGroupMul(t *testing.T) {
	for _, a := range someUnits() {
		for _, b := range someUnits() {
			wantGroupMul(t, a, b, bigMul(a, b, impl.GroupP))
		}
	}
	wantGroupMul(t, 1, 1, 1)
	wantGroupMul(t, 1, impl.GroupP-1, impl.GroupP-1)
	wantGroupMul(t, impl.GroupP-1, impl.GroupP-1, 1)
	wantGroupMul(t, impl.GroupG, impl.GroupG, 16)
	wantGroupMul(t, 2, impl.GroupQ, impl.GroupP-1)
	wantGroupMul(t, 2, impl.GroupQ+1, 1)
	for _, wrong := range noUnits() {
		for _, other := range append(noUnits(), 1, 4, impl.GroupP-1) {
			wantGroupMul(t, wrong, other, 0)
			wantGroupMul(t, other, wrong, 0)
		}
	}
}

func TestGroupPow(t *testing.T) {
	for _, y := range someUnits() {
		for _, n := range somePowers() {
			wantGroupPow(t, y, n, bigPow(y, n%impl.GroupQ, impl.GroupP))
		}
		for _, n := range belowNought() {
			wantGroupPow(t, y, n, 0)
		}
	}
	for _, wrong := range noUnits() {
		for _, n := range append(somePowers(), belowNought()...) {
			wantGroupPow(t, wrong, n, 0)
		}
	}
}

// Outside the group it is to be seen that n is taken modulo GroupQ.
func TestGroupPowTakesItsPowerModuloGroupQ(t *testing.T) {
	for _, y := range someUnits() {
		wantGroupPow(t, y, 0, 1)
		wantGroupPow(t, y, 1, y)
		wantGroupPow(t, y, impl.GroupQ, 1)
		wantGroupPow(t, y, impl.GroupQ+1, y)
		wantGroupPow(t, y, 2*impl.GroupQ, 1)
		wantGroupPow(t, y, 2*impl.GroupQ+1, y)
	}
	wantGroupPow(t, impl.GroupP-1, impl.GroupQ-1, 1)
	wantGroupPow(t, impl.GroupP-1, impl.GroupQ-2, impl.GroupP-1)
	wantGroupPow(t, impl.GroupP-1, math.MaxInt64, []int64{1, impl.GroupP - 1}[math.MaxInt64%impl.GroupQ%2])
}

func TestPowersOfGroupG(t *testing.T) {
	plain := int64(1)
	for n := range int64(2000) {
		wantGroupPow(t, impl.GroupG, n, plain)
		wantGroupPow(t, impl.GroupG, n+impl.GroupQ, plain)
		plain = plain * impl.GroupG % impl.GroupP
	}
	for bit := range 63 {
		for add := int64(-3); add <= 3; add++ {
			if n := int64(1)<<bit + add; n >= 0 {
				wantGroupPow(t, impl.GroupG, n, bigPow(impl.GroupG, n, impl.GroupP))
			}
		}
	}
	for _, n := range somePowers() {
		wantGroupPow(t, impl.GroupG, n, impl.ModPow(impl.GroupG, n, impl.GroupP))
	}
}

// GroupPow has the powers of GroupG from what is kept; ModPow, GroupPow of another one of the group, and PublicOf work them out.
func TestPowersOfGroupGAreTheSameWhicheverWay(t *testing.T) {
	const root = impl.GroupP - 2 // its product with itself is GroupG
	wantGroupMul(t, root, root, impl.GroupG)
	for _, n := range append(somePowers(), 0, 1, 2, impl.GroupQ-1, impl.GroupQ, impl.GroupQ+1, math.MaxInt64) {
		kept := impl.GroupPow(impl.GroupG, n)
		wantPow(t, impl.GroupG, n, impl.GroupP, kept)
		wantPow(t, impl.GroupG, n%impl.GroupQ, impl.GroupP, kept)
		wantGroupPow(t, root, 2*(n%impl.GroupQ), kept)
		wantGroupMul(t, kept, impl.GroupPow(root, 2*(impl.GroupQ-n%impl.GroupQ)), 1)
		wantGroupPow(t, impl.GroupG, n%impl.GroupQ, kept)
		if 1 <= n && n < impl.GroupQ {
			wantPublic(t, n, kept)
		} else {
			wantPublic(t, n, 0)
		}
		if kept != bigPow(impl.GroupG, n, impl.GroupP) {
			t.Errorf("GroupPow(%d, %d): got %d", impl.GroupG, n, kept)
		}
	}
}

func TestEachOfTheGroupHasAnInverse(t *testing.T) {
	for _, y := range append(someOfTheGroup(), impl.GroupG, impl.GroupP-2) {
		inverse := impl.ModInv(y, impl.GroupP)
		wantGroupRight(t, inverse, true)
		wantGroupMul(t, y, inverse, 1)
		wantGroupMul(t, inverse, y, 1)
		wantGroupPow(t, y, impl.GroupQ-1, inverse)
		wantInv(t, inverse, impl.GroupP, y)
	}
	wantInv(t, 1, impl.GroupP, 1)
	wantGroupPow(t, 1, impl.GroupQ-1, 1)
}

func TestProductsStayInTheGroup(t *testing.T) {
	ones := 0
	for _, a := range someOfTheGroup() {
		for _, b := range append(someOfTheGroup(), impl.ModInv(a, impl.GroupP)) {
			product := impl.GroupMul(a, b)
			if product == 1 {
				ones++
			} else {
				wantGroupRight(t, product, true)
			}
			wantGroupMul(t, b, a, product)
			wantGroupMul(t, product, 4, impl.GroupMul(a, impl.GroupMul(b, 4)))
		}
		for _, n := range somePowers() {
			wantGroupRight(t, impl.GroupPow(a, n), n%impl.GroupQ != 0)
		}
	}
	if ones < len(someOfTheGroup()) {
		t.Errorf("1 came up %d times among the products", ones)
	}
}

func TestPowersOfTheGroupGoTogether(t *testing.T) {
	for _, y := range append(someOfTheGroup()[:20], impl.GroupG, 1) {
		for _, n := range somePowers() {
			first := impl.GroupPow(y, n)
			for _, k := range somePowers() {
				if n <= math.MaxInt64-k {
					wantGroupMul(t, first, impl.GroupPow(y, k), impl.GroupPow(y, n+k))
				}
				wantGroupPow(t, first, k, impl.GroupPow(y, impl.ModMul(n, k, impl.GroupQ)))
			}
			wantGroupPow(t, impl.GroupMul(y, 9), n, impl.GroupMul(first, impl.GroupPow(9, n)))
			wantGroupMul(t, first, y, impl.GroupPow(y, n%impl.GroupQ+1))
		}
	}
}

func TestProductsAndPowersGoTogether(t *testing.T) {
	for _, m := range append(greatModuli(), 2, 3, 4, 9, 12, 65536) {
		for _, a := range edgeNumbers() {
			for _, n := range []int64{0, 1, 2, 5, 30, 1 << 31, 1 << 61} {
				power := impl.ModPow(a, n, m)
				wantPow(t, a, n+1, m, impl.ModMul(power, a, m))
				wantPow(t, a, 2*n, m, impl.ModMul(power, power, m))
				wantPow(t, impl.ModMul(a, 7, m), n, m, impl.ModMul(power, impl.ModPow(7, n, m), m))
				wantPow(t, power, 3, m, impl.ModPow(a, 3*n, m))
			}
		}
	}
}

func TestTheGroupIsTheSameEachTime(t *testing.T) {
	for range 3 {
		wantGroupPow(t, impl.GroupG, -1, 0)
		wantGroupPow(t, impl.GroupG, 0, 1)
		wantGroupPow(t, impl.GroupG, 5, 1024)
		wantGroupPow(t, 0, 5, 0)
		wantGroupPow(t, 2, 5, 32)
		wantGroupPow(t, impl.GroupG, impl.GroupQ-1, impl.ModInv(impl.GroupG, impl.GroupP))
	}
}

func TestPowersAskedForAtTheSameTime(t *testing.T) {
	var got [16]int64
	var all sync.WaitGroup
	for i := range got {
		all.Go(func() { got[i] = impl.GroupPow(impl.GroupG, impl.GroupQ-int64(i)) })
	}
	all.Wait()
	for i, power := range got {
		if want := bigPow(impl.GroupG, impl.GroupQ-int64(i), impl.GroupP); power != want {
			t.Errorf("GroupPow(%d, GroupQ less %d): got %d, want %d", impl.GroupG, i, power, want)
		}
	}
}
