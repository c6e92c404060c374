package tests

import (
	"math"
	"testing"

	"loop.example/mixrelay/impl"
)

const lastElement = impl.Group - 1

// someElements has both ends of the range and some numbers between, for tests over three numbers.
var someElements = []int{1, 2, 3, impl.Base, 30, 141, 142, 284, 498, 499, 500, 711, lastElement - 1, lastElement}

// outOfRange has the neighbours of both ends, numbers that are in range after a remainder, and numbers whose
// products or whose lower bits would be in range if they were multiplied or cut off before they are checked.
var outOfRange = []int{
	0, -1, -2, -5, -lastElement, -impl.Group, -impl.Group - 1, -2 * impl.Group,
	impl.Group, impl.Group + 1, 2*impl.Group - 1, 2 * impl.Group, 2*impl.Group + 1, impl.Group * impl.Group,
	math.MaxInt32, math.MinInt32, 1<<32 + 1, 1<<32 + 5, -1<<32 + 1, 1 << 62, 1<<62 + 1,
	math.MaxInt - 1, math.MaxInt, math.MinInt, math.MinInt + 1,
}

func inRange(n int) bool {
	return n >= 1 && n <= lastElement
}

// checkDifferent fails if two numbers of the range have the same result, or one has a result out of the range.
func checkDifferent(t *testing.T, name string, of func(int) int) {
	t.Helper()
	from := map[int]int{}
	for n := 1; n <= lastElement; n++ {
		r := of(n)
		if !inRange(r) {
			t.Fatalf("%s: %d gives %d, which is out of range", name, n, r)
		}
		if other, there := from[r]; there {
			t.Fatalf("%s: %d and %d both give %d", name, other, n, r)
		}
		from[r] = n
	}
}

func TestGroupConstants(t *testing.T) {
	if impl.Group != 997 || impl.Base != 5 {
		t.Errorf("Group is %d and Base is %d, want 997 and 5", impl.Group, impl.Base)
	}
}

func TestPublicOfValues(t *testing.T) {
	for _, c := range []struct{ secret, want int }{
		{1, 5}, {2, 10}, {3, 15}, {199, 995}, {200, 3}, {798, 2}, {399, 1}, {598, 996}, {995, 987}, {996, 992},
	} {
		if got := impl.PublicOf(c.secret); got != c.want {
			t.Errorf("PublicOf(%d) = %d, want %d", c.secret, got, c.want)
		}
	}
}

func TestSharedOfAndBlindOfValues(t *testing.T) {
	for _, c := range []struct{ a, b, want int }{
		{1, 1, 1}, {1, 996, 996}, {996, 1, 996}, {996, 996, 1}, {996, 2, 995}, {995, 995, 4},
		{3, 10, 30}, {500, 2, 3}, {2, 499, 1}, {31, 32, 992}, {32, 32, 27}, {100, 137, 739},
	} {
		if got := impl.SharedOf(c.a, c.b); got != c.want {
			t.Errorf("SharedOf(%d, %d) = %d, want %d", c.a, c.b, got, c.want)
		}
		if got := impl.BlindOf(c.a, c.b); got != c.want {
			t.Errorf("BlindOf(%d, %d) = %d, want %d", c.a, c.b, got, c.want)
		}
	}
}

func TestFactorOfValues(t *testing.T) {
	for _, c := range []struct{ shared, want int }{
		{1, 11}, {2, 18}, {30, 214}, {141, 991}, {142, 2}, {284, 996}, {711, 1}, {995, 993}, {996, 4},
	} {
		if got := impl.FactorOf(c.shared); got != c.want {
			t.Errorf("FactorOf(%d) = %d, want %d", c.shared, got, c.want)
		}
	}
}

func TestGroupOutOfRangeGivesZero(t *testing.T) {
	for _, bad := range outOfRange {
		if got := impl.PublicOf(bad); got != 0 {
			t.Errorf("PublicOf(%d) = %d, want 0", bad, got)
		}
		for _, other := range append(append([]int{}, someElements...), outOfRange...) {
			checkPairGivesZero(t, bad, other)
			checkPairGivesZero(t, other, bad)
		}
	}
}

func checkPairGivesZero(t *testing.T, a, b int) {
	t.Helper()
	if got := impl.SharedOf(a, b); got != 0 {
		t.Errorf("SharedOf(%d, %d) = %d, want 0", a, b, got)
	}
	if got := impl.BlindOf(a, b); got != 0 {
		t.Errorf("BlindOf(%d, %d) = %d, want 0", a, b, got)
	}
}

func TestPromise1BothSidesShareOneKey(t *testing.T) {
	for a := 1; a <= lastElement; a++ {
		for b := 1; b <= lastElement; b++ {
			one, two := impl.SharedOf(a, impl.PublicOf(b)), impl.SharedOf(b, impl.PublicOf(a))
			if one != two || !inRange(one) {
				t.Fatalf("the secrets %d and %d share %d and %d", a, b, one, two)
			}
		}
	}
}

func TestPromise2PublicKeysAreInRangeAndDifferent(t *testing.T) {
	checkDifferent(t, "PublicOf", impl.PublicOf)
}

func TestPromise3SharedKeysOfDifferentElementsDiffer(t *testing.T) {
	for secret := 1; secret <= lastElement; secret++ {
		checkDifferent(t, "SharedOf", func(element int) int { return impl.SharedOf(secret, element) })
	}
}

func TestPromise4BlindingSecretElementOrKeyIsTheSame(t *testing.T) {
	for _, f := range someElements {
		for x := 1; x <= lastElement; x++ {
			for e := 1; e <= lastElement; e++ {
				byElement := impl.SharedOf(x, impl.BlindOf(e, f))
				bySecret := impl.SharedOf(impl.BlindOf(x, f), e)
				byKey := impl.BlindOf(impl.SharedOf(x, e), f)
				if byElement != bySecret || byElement != byKey || !inRange(byElement) {
					t.Fatalf("secret %d, element %d, factor %d: %d, %d and %d", x, e, f, byElement, bySecret, byKey)
				}
			}
		}
	}
}

func TestPromise5FactorsInEitherOrder(t *testing.T) {
	for _, e := range someElements {
		for f := 1; f <= lastElement; f++ {
			for g := 1; g <= lastElement; g++ {
				one, two := impl.BlindOf(impl.BlindOf(e, f), g), impl.BlindOf(impl.BlindOf(e, g), f)
				if one != two || !inRange(one) {
					t.Fatalf("element %d, factors %d and %d: %d and %d", e, f, g, one, two)
				}
			}
		}
	}
}

func TestPromise6DifferentFactorsBlindDifferently(t *testing.T) {
	for e := 1; e <= lastElement; e++ {
		checkDifferent(t, "BlindOf", func(factor int) int { return impl.BlindOf(e, factor) })
		if got := impl.BlindOf(e, 1); got != e {
			t.Fatalf("BlindOf(%d, 1) = %d, want the element", e, got)
		}
	}
}

func TestPromise7FactorIsInRangeOrZero(t *testing.T) {
	for shared := 1; shared <= lastElement; shared++ {
		if got := impl.FactorOf(shared); !inRange(got) {
			t.Fatalf("FactorOf(%d) = %d, which is out of range", shared, got)
		}
	}
	for _, bad := range outOfRange {
		if got := impl.FactorOf(bad); got != 0 {
			t.Errorf("FactorOf(%d) = %d, want 0", bad, got)
		}
	}
}

func TestPromise8FactorsOfDifferentKeysDiffer(t *testing.T) {
	checkDifferent(t, "FactorOf", impl.FactorOf)
}
