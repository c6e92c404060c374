package tests

import (
	"math"
	"slices"
	"testing"

	"loop.example/mixrelay/impl"
)

const finalSeed = 999999

// wrongWeights has the neighbours of both ends, and numbers whose lower bits would be in range.
var wrongWeights = []int{-1, -2, -impl.MaxWeight, -10, impl.MaxWeight + 1, impl.MaxWeight + 2, 2 * impl.MaxWeight, 256, 1 << 32, 1<<32 + 3, -1 << 32, math.MaxInt - 1, math.MaxInt, math.MinInt, math.MinInt + 3}

var wrongPoints = []int{-1, -2, -9, -impl.Group, -1 << 32, -1<<32 + 1, math.MinInt, math.MinInt + 1, math.MinInt + 54}

var wrongSeeds = []int{-1, -2, -23, -finalSeed, -finalSeed - 1, finalSeed + 1, finalSeed + 2, 2 * finalSeed, 1 << 32, 1<<32 + 4, -1<<32 + 4, math.MaxInt, math.MinInt, math.MinInt + 4}

var wrongHops = []int{0, -1, -2, -impl.MaxHops, impl.MaxHops + 1, impl.MaxHops + 2, impl.MaxMixes, impl.Names, 1 << 32, 1<<32 + 1, -1<<32 + 1, math.MaxInt, math.MinInt, math.MinInt + 1}

// wrongSigns has what is neither a signature nor 0, which stands for none.
var wrongSigns = outOfRange[1:]

// namesOfMixes are greater than the indexes of the mixes, so that names and indexes are not confused.
var namesOfMixes = [impl.MaxMixes]int{1, 2, 3, 5, 6, lastName}

func entryOf(name, public, weight int) impl.Entry {
	return impl.Entry{Name: name, Public: public, Weight: weight}
}

func directoryOf(epoch int, entries ...impl.Entry) impl.Directory {
	return impl.Directory{Epoch: epoch, Entries: entries}
}

// weighted has a directory of mixes with the given weights.
func weighted(weights ...int) impl.Directory {
	d := directoryOf(7)
	for i, weight := range weights {
		d.Entries = append(d.Entries, entryOf(namesOfMixes[i], 10+30*i, weight))
	}
	return d
}

// allWeights has all lists of a length of some weights.
func allWeights(length int, weights ...int) [][]int {
	if length == 0 {
		return [][]int{{}}
	}
	var lists [][]int
	for _, list := range allWeights(length-1, weights...) {
		for _, weight := range weights {
			lists = append(lists, append(slices.Clone(list), weight))
		}
	}
	return lists
}

// weightedDirectories has directories with mixes of weight 0 at the beginning, in the middle, at the end and
// everywhere: of up to two mixes with any weights, and of all numbers of mixes with some.
func weightedDirectories() []impl.Directory {
	var all []impl.Directory
	for length := range impl.MaxMixes + 1 {
		weights := []int{0, 1, impl.MaxWeight}
		if length <= 2 {
			weights = []int{0, 1, 2, 3, 4, 5, 6, 7, 8, impl.MaxWeight}
		}
		for _, list := range allWeights(length, weights...) {
			all = append(all, weighted(list...))
		}
	}
	next := chosen()
	for range 200 {
		d := weighted(make([]int, impl.MaxMixes)...)
		for i := range d.Entries {
			d.Entries[i].Weight = max(0, next(2*impl.MaxWeight)-impl.MaxWeight+1)
		}
		all = append(all, d)
	}
	return all
}

// fewWeighted has some of weightedDirectories.
func fewWeighted() []impl.Directory {
	var few []impl.Directory
	for i, d := range weightedDirectories() {
		if i%13 == 0 || len(d.Entries) < 2 {
			few = append(few, d)
		}
	}
	return few
}

// someDirectories has both ends of all ranges, and digests 0 and 990.
func someDirectories() []impl.Directory {
	var all []impl.Directory
	for _, epoch := range []int{0, 1, 50, 98, 99} {
		all = append(all,
			directoryOf(epoch),
			directoryOf(epoch, entryOf(0, 1, 0)),
			directoryOf(epoch, entryOf(lastName, lastElement, impl.MaxWeight)),
			directoryOf(epoch, entryOf(2, 15, 1), entryOf(5, 20, 3)),
			directoryOf(epoch, entryOf(0, 500, 0), entryOf(3, 500, 0), entryOf(6, 500, 0)),
			directoryOf(epoch, entryOf(0, lastElement, 0), entryOf(1, 1, 9), entryOf(2, impl.Numbers, 5), entryOf(4, lastNumber, 1), entryOf(6, 500, 0), entryOf(7, 992, 4)),
			directoryOf(epoch, entryOf(0, 1, 9), entryOf(1, 1, 9), entryOf(2, 1, 9), entryOf(3, 1, 9), entryOf(4, 1, 9), entryOf(5, 1, 9)))
	}
	all = append(all, directoryOf(3, entryOf(2, 15, 6)), directoryOf(3, entryOf(2, 15, 5)))
	next := chosen()
	for range 40 {
		d := directoryOf(next(100))
		for name := range impl.Names {
			if next(3) > 0 && len(d.Entries) < impl.MaxMixes {
				d.Entries = append(d.Entries, entryOf(name, 1+next(lastElement), next(impl.MaxWeight+1)))
			}
		}
		all = append(all, d)
	}
	return all
}

func copyOfDirectory(d impl.Directory) impl.Directory {
	return directoryOf(d.Epoch, slices.Clone(d.Entries)...)
}

// withEntry has a directory with another entry at an index.
func withEntry(d impl.Directory, i int, e impl.Entry) impl.Directory {
	other := copyOfDirectory(d)
	other.Entries[i] = e
	return other
}

func withEpoch(d impl.Directory, epoch int) impl.Directory {
	other := copyOfDirectory(d)
	other.Epoch = epoch
	return other
}

// digestOf has the digest that the document defines, also where an invalid directory has none.
func digestOf(d impl.Directory) int {
	digest := (41*len(d.Entries) + 7*d.Epoch + 1) % impl.Numbers
	for _, e := range d.Entries {
		for _, x := range []int{e.Name, e.Public, e.Weight} {
			digest = (613*digest + x + 1) % impl.Numbers
		}
	}
	return digest
}

// bagOf has the index of each mix as often as its weight, in order.
func bagOf(d impl.Directory) []int {
	var bag []int
	for i, e := range d.Entries {
		bag = append(bag, slices.Repeat([]int{i}, e.Weight)...)
	}
	return bag
}

func pickOf(d impl.Directory, point int) int {
	bag := bagOf(d)
	if point < 0 || point >= len(bag) {
		return -1
	}
	return bag[point]
}

// pathOf takes indexes out of the bag of all mixes, one after the other.
func pathOf(d impl.Directory, seed, hops int) []int {
	var path []int
	for bag := bagOf(d); len(path) < hops; {
		if len(bag) == 0 {
			return nil
		}
		found := bag[seed%len(bag)]
		path = append(path, d.Entries[found].Name)
		seed /= len(bag)
		bag = slices.DeleteFunc(bag, func(i int) bool { return i == found })
	}
	return path
}

func positiveWeights(d impl.Directory) int {
	positive := 0
	for _, e := range d.Entries {
		if e.Weight > 0 {
			positive++
		}
	}
	return positive
}

// trio has the secrets of all authorities.
type trio [impl.Authorities]int

// someTrios has both ends of the range, and secrets that are equal.
var someTrios = []trio{{31, 32, 33}, {1, 2, 3}, {lastElement, 1, 500}, {995, lastElement, 7}, {5, 200, 399}, {40, 40, 41}, {9, 8, 9}, {77, 77, 77}}

func (s trio) publics() []int {
	publics := []int{}
	for _, secret := range s {
		publics = append(publics, impl.PublicOf(secret))
	}
	return publics
}

// signs has the right signatures under a digest, as numbers that the document defines.
func (s trio) signs(digest int) []int {
	signs := []int{}
	for _, secret := range s {
		signs = append(signs, secret*(digest+1)%impl.Group)
	}
	return signs
}

// countRight has the number of signatures that are right under a digest.
func countRight(publics []int, digest int, signs []int) int {
	right := 0
	for i, sign := range signs {
		if sign*impl.Base%impl.Group == publics[i]*(digest+1)%impl.Group {
			right++
		}
	}
	return right
}

// someOf has the numbers at the places of the bits of a choice, and 0 at all others.
func someOf(list []int, choice int) []int {
	some := slices.Clone(list)
	for place := range some {
		if choice>>place&1 == 0 {
			some[place] = 0
		}
	}
	return some
}

// bitsOf has the number of places of a choice of authorities.
func bitsOf(choice int) int {
	return choice&1 + choice>>1&1 + choice>>2&1
}

// allChoices is the number of choices of authorities, which are numbered from 0.
const allChoices = 1 << impl.Authorities

func checkValidDirectory(t *testing.T, d impl.Directory) {
	t.Helper()
	if !impl.DirectoryValid(d) {
		t.Fatalf("DirectoryValid(%v) is false", d)
	}
}

func checkDigest(t *testing.T, d impl.Directory, want int) {
	t.Helper()
	if got := impl.DirectoryDigest(d); got != want {
		t.Fatalf("DirectoryDigest(%v) is %d, want %d", d, got, want)
	}
}

func checkSign(t *testing.T, secret int, d impl.Directory, want int) {
	t.Helper()
	if got := impl.DirectorySign(secret, d); got != want {
		t.Fatalf("DirectorySign(%d, %v) is %d, want %d", secret, d, got, want)
	}
}

func checkSigned(t *testing.T, publics []int, d impl.Directory, signs []int, want bool) {
	t.Helper()
	if got := impl.DirectoryCheck(publics, d, signs); got != want {
		t.Fatalf("DirectoryCheck(%v, %v, %v) is %v, want %v", publics, d, signs, got, want)
	}
}

func checkPick(t *testing.T, d impl.Directory, point, want int) {
	t.Helper()
	if got := impl.DirectoryPick(d, point); got != want {
		t.Fatalf("DirectoryPick(%v, %d) is %d, want %d", d, point, got, want)
	}
}

func checkPath(t *testing.T, d impl.Directory, seed, hops int, want ...int) {
	t.Helper()
	if got := impl.DirectoryPath(d, seed, hops); !slices.Equal(got, want) {
		t.Fatalf("DirectoryPath(%v, %d, %d) is %v, want %v", d, seed, hops, got, want)
	}
}

// checkInvalidDirectory fails if a directory is valid, or if a function accepts it. The signatures are those that
// would be right if the directory had a digest, and those under the digest -1, which are all 0.
func checkInvalidDirectory(t *testing.T, d impl.Directory) {
	t.Helper()
	if impl.DirectoryValid(d) {
		t.Fatalf("DirectoryValid(%v) is true", d)
	}
	checkDigest(t, d, -1)
	for _, secrets := range someTrios[:3] {
		for _, secret := range append(outOfRange[:3:3], secrets[:]...) {
			checkSign(t, secret, d, 0)
		}
		for _, digest := range []int{digestOf(d), -1, 0, lastNumber} {
			checkSigned(t, secrets.publics(), d, secrets.signs(digest), false)
		}
	}
	for point := -2; point < 20; point++ {
		checkPick(t, d, point, -1)
	}
	for _, point := range []int{53, 54, 62, 63, 100, 1 << 32, math.MaxInt, math.MinInt} {
		checkPick(t, d, point, -1)
	}
	for hops := range impl.MaxHops + 2 {
		for _, seed := range []int{-1, 0, 1, 2, 17, 4242, finalSeed, finalSeed + 1} {
			checkPath(t, d, seed, hops)
		}
	}
}

func checkDirectory(t *testing.T, d impl.Directory, valid bool) {
	t.Helper()
	if valid {
		checkValidDirectory(t, d)
	} else {
		checkInvalidDirectory(t, d)
	}
}

func TestDirectoryConstants(t *testing.T) {
	if impl.MaxMixes != 6 || impl.MaxWeight != 9 || impl.Authorities != 3 || impl.Quorum != 2 {
		t.Errorf("MaxMixes, MaxWeight, Authorities and Quorum are %d, %d, %d and %d, want 6, 9, 3 and 2", impl.MaxMixes, impl.MaxWeight, impl.Authorities, impl.Quorum)
	}
}

// writtenDirectory has a directory of six mixes, one of them of weight 0, with a sum of weights of 23.
func writtenDirectory() impl.Directory {
	return directoryOf(10, entryOf(1, 10, 4), entryOf(2, 20, 0), entryOf(3, 30, 7), entryOf(5, 500, 9), entryOf(6, 995, 1), entryOf(7, 996, 2))
}

// The digests and signatures are written out, so that they are not only checked by functions of these tests.
func TestDirectoryDigestAndSignValues(t *testing.T) {
	for _, c := range []struct {
		d      impl.Directory
		digest int
		signs  map[int]int
	}{
		{directoryOf(0), 1, map[int]int{1: 2, 2: 4, 31: 62, 996: 995}},
		{directoryOf(1), 8, map[int]int{1: 9, 31: 279, 32: 288, 996: 988}},
		{directoryOf(99), 694, map[int]int{1: 695, 2: 393, 33: 4, 996: 302}},
		{directoryOf(0, entryOf(0, 1, 0)), 780, map[int]int{1: 781, 2: 565, 31: 283, 996: 216}},
		{directoryOf(0, entryOf(7, 996, 9)), 537, map[int]int{1: 538, 32: 267, 996: 459}},
		{directoryOf(99, entryOf(7, 996, 9)), 597, map[int]int{1: 598, 32: 193, 996: 399}},
		{directoryOf(1, entryOf(2, 15, 1), entryOf(5, 20, 3)), 416, map[int]int{1: 417, 31: 963, 32: 383, 33: 800, 996: 580}},
		{directoryOf(50, entryOf(0, 996, 0), entryOf(1, 1, 9), entryOf(2, 991, 5), entryOf(4, 990, 1), entryOf(6, 500, 0), entryOf(7, 992, 4)), 736, map[int]int{1: 737, 2: 477, 31: 913, 996: 260}},
		{directoryOf(3, entryOf(2, 15, 6)), 0, map[int]int{1: 1, 31: 31, 996: 996}},
		{directoryOf(3, entryOf(2, 15, 5)), 990, map[int]int{1: 991, 31: 811, 996: 6}},
		{writtenDirectory(), 355, map[int]int{31: 69, 32: 425, 33: 781}},
		{withEpoch(writtenDirectory(), 11), 503, map[int]int{31: 669, 32: 176, 33: 680}},
	} {
		checkDigest(t, c.d, c.digest)
		for secret, sign := range c.signs {
			checkSign(t, secret, c.d, sign)
		}
	}
}

func TestDirectoryCheckValues(t *testing.T) {
	publics := []int{155, 160, 165}
	for _, c := range []struct {
		publics, signs []int
		want           bool
	}{
		{publics, []int{69, 425, 781}, true},
		{publics, []int{69, 425, 0}, true},
		{publics, []int{69, 0, 781}, true},
		{publics, []int{0, 425, 781}, true},
		{publics, []int{69, 425, 782}, true},
		{publics, []int{996, 425, 781}, true},
		{publics, []int{69, 0, 0}, false},
		{publics, []int{0, 425, 0}, false},
		{publics, []int{0, 0, 781}, false},
		{publics, []int{0, 0, 0}, false},
		{publics, []int{69, 424, 1}, false},
		{publics, []int{425, 69, 781}, false},
		{publics, []int{781, 69, 425}, false},
		{publics, []int{69, 69, 69}, false},
		{publics, []int{669, 176, 680}, false},
		{publics, []int{69, 425, 997}, false},
		{publics, []int{69, 425, -1}, false},
		{publics, []int{69, 425}, false},
		{publics, []int{69, 425, 781, 0}, false},
		{[]int{155, 160}, []int{69, 425}, false},
		{[]int{155, 160, 0}, []int{69, 425, 0}, false},
		{[]int{155, 160, 997}, []int{69, 425, 0}, false},
		{[]int{160, 155, 165}, []int{425, 69, 0}, true},
		{[]int{155, 155, 165}, []int{69, 69, 0}, true},
		{nil, nil, false},
	} {
		checkSigned(t, c.publics, writtenDirectory(), c.signs, c.want)
	}
}

func TestDirectoryPickValues(t *testing.T) {
	d := writtenDirectory()
	for point, want := range map[int]int{
		-1: -1, 0: 0, 1: 0, 3: 0, 4: 2, 5: 2, 10: 2, 11: 3, 19: 3, 20: 4, 21: 5, 22: 5, 23: -1, 24: -1, 46: -1, math.MaxInt: -1, math.MinInt: -1,
	} {
		checkPick(t, d, point, want)
	}
	for _, c := range []struct {
		weights []int
		picks   []int
	}{
		{nil, nil}, {[]int{0}, nil}, {[]int{0, 0, 0, 0, 0, 0}, nil}, {[]int{1}, []int{0}}, {[]int{9}, []int{0, 0, 0, 0, 0, 0, 0, 0, 0}},
		{[]int{0, 2}, []int{1, 1}}, {[]int{2, 0}, []int{0, 0}}, {[]int{1, 0, 1}, []int{0, 2}}, {[]int{0, 0, 1, 0, 0, 2}, []int{2, 5, 5}},
		{[]int{2, 0, 0, 0, 0, 1}, []int{0, 0, 5}}, {[]int{0, 1, 0, 2, 1, 0}, []int{1, 3, 3, 4}},
	} {
		for point, want := range c.picks {
			checkPick(t, weighted(c.weights...), point, want)
		}
		checkPick(t, weighted(c.weights...), len(c.picks), -1)
	}
}

func TestDirectoryPathValues(t *testing.T) {
	for seed, want := range map[int][]int{
		0: {1, 3, 5}, 3: {1, 3, 5}, 4: {3, 1, 5}, 10: {3, 1, 5}, 11: {5, 1, 3}, 19: {5, 1, 3}, 20: {6, 1, 3}, 21: {7, 1, 3}, 22: {7, 1, 3}, 23: {1, 3, 5},
		24: {1, 3, 5}, 76: {3, 1, 5}, 100: {3, 5, 1}, 4242: {3, 5, 6}, 500000: {1, 3, 5}, 999998: {3, 5, 1}, 999999: {3, 5, 1},
	} {
		for hops := 1; hops <= impl.MaxHops; hops++ {
			checkPath(t, writtenDirectory(), seed, hops, want[:hops]...)
		}
		for _, hops := range []int{0, -1, 4, 5, 6} {
			checkPath(t, writtenDirectory(), seed, hops)
		}
	}
	for _, seed := range []int{-1, -23, 1000000, 1000001} {
		checkPath(t, writtenDirectory(), seed, 1)
	}
}

// Both mixes with a weight are found; a third one is not.
func TestDirectoryPathOfMixesOfWeight0(t *testing.T) {
	d := directoryOf(5, entryOf(0, 1, 0), entryOf(2, 2, 1), entryOf(3, 3, 0), entryOf(4, 4, 3), entryOf(7, 5, 0))
	for seed, want := range map[int][]int{0: {2, 4}, 1: {4, 2}, 2: {4, 2}, 3: {4, 2}, 4: {2, 4}, 999999: {4, 2}} {
		checkPath(t, d, seed, 1, want[0])
		checkPath(t, d, seed, 2, want...)
		checkPath(t, d, seed, 3)
	}
}

func TestValidDirectories(t *testing.T) {
	for _, d := range slices.Concat(someDirectories(), weightedDirectories()) {
		checkValidDirectory(t, d)
		checkDigest(t, d, digestOf(d))
	}
	for epoch := range finalEpoch + 1 {
		checkValidDirectory(t, directoryOf(epoch))
		checkValidDirectory(t, withEpoch(writtenDirectory(), epoch))
	}
	for public := 1; public <= lastElement; public++ {
		for weight := range impl.MaxWeight + 1 {
			checkValidDirectory(t, directoryOf(4, entryOf(3, public, weight)))
			checkDigest(t, directoryOf(4, entryOf(3, public, weight)), digestOf(directoryOf(4, entryOf(3, public, weight))))
		}
	}
}

// Exactly the choices of at most MaxMixes names are valid.
func TestDirectoriesOfAllNames(t *testing.T) {
	for choice := range 1 << impl.Names {
		d := directoryOf(9)
		for name := range impl.Names {
			if choice>>name&1 == 1 {
				d.Entries = append(d.Entries, entryOf(name, 100+name, 1+name))
			}
		}
		checkDirectory(t, d, len(d.Entries) <= impl.MaxMixes)
	}
}

func TestDirectoriesOfWrongEpochs(t *testing.T) {
	for _, epoch := range wrongEpochs {
		for _, d := range []impl.Directory{directoryOf(0), writtenDirectory(), directoryOf(0, entryOf(0, 1, 9))} {
			checkInvalidDirectory(t, withEpoch(d, epoch))
		}
	}
}

func TestDirectoriesWithTooManyMixes(t *testing.T) {
	for _, weight := range []int{0, 1, impl.MaxWeight} {
		for length := impl.MaxMixes + 1; length <= 3*impl.MaxMixes; length++ {
			d := directoryOf(4)
			for i := range length {
				d.Entries = append(d.Entries, entryOf(i, 10+i, weight))
			}
			checkInvalidDirectory(t, d)
		}
	}
}

// Each entry of directories of all sizes has each wrong name, public key and weight.
func TestDirectoriesWithNumbersOutOfRange(t *testing.T) {
	for _, d := range append(someDirectories(), weighted(0, 0, 0, 0, 0, 0), weighted(1, 2, 3)) {
		for i, right := range d.Entries {
			for _, name := range wrongNames {
				checkInvalidDirectory(t, withEntry(d, i, entryOf(name, right.Public, right.Weight)))
			}
			for _, public := range outOfRange {
				checkInvalidDirectory(t, withEntry(d, i, entryOf(right.Name, public, right.Weight)))
			}
			for _, weight := range wrongWeights {
				checkInvalidDirectory(t, withEntry(d, i, entryOf(right.Name, right.Public, weight)))
			}
		}
	}
}

// Names that ascend may be out of range at both ends.
func TestDirectoriesWithNamesAtTheEnds(t *testing.T) {
	for length := 1; length <= impl.MaxMixes; length++ {
		for first := -impl.MaxMixes; first <= impl.Names; first++ {
			d := directoryOf(4)
			for i := range length {
				d.Entries = append(d.Entries, entryOf(first+i, 10+i, 1))
			}
			checkDirectory(t, d, first >= 0 && first+length-1 <= lastName)
		}
	}
}

// Each pair of neighbours may be in the wrong order or equal, and each mix may have the name of any other one.
func TestDirectoriesOutOfOrder(t *testing.T) {
	for length := 2; length <= impl.MaxMixes; length++ {
		d := weighted(listOf(length, 1, 1)...)
		for i := 1; i < length; i++ {
			swapped := copyOfDirectory(d)
			swapped.Entries[i], swapped.Entries[i-1] = swapped.Entries[i-1], swapped.Entries[i]
			checkInvalidDirectory(t, swapped)
			for other := range length {
				if other != i {
					checkInvalidDirectory(t, withEntry(d, i, entryOf(d.Entries[other].Name, 300+i, 2)))
				}
			}
		}
		slices.Reverse(d.Entries)
		checkInvalidDirectory(t, d)
	}
}

// Exactly the pairs and triples of names that ascend are valid.
func TestDirectoriesOfThreeNames(t *testing.T) {
	for choice := range impl.Names * impl.Names * impl.Names {
		a, b, c := choice%impl.Names, choice/impl.Names%impl.Names, choice/impl.Names/impl.Names
		one, two, three := entryOf(a, 1, 1), entryOf(b, 2, 2), entryOf(c, 3, 0)
		checkDirectory(t, directoryOf(2, one, two), a < b)
		checkDirectory(t, directoryOf(2, one, two, three), a < b && b < c)
	}
}

// Nil and empty slices are the same.
func TestDirectoriesOfNothing(t *testing.T) {
	for _, entries := range [][]impl.Entry{nil, {}, []impl.Entry{entryOf(3, 0, -1)}[:0]} {
		d := impl.Directory{Epoch: 1, Entries: entries}
		checkValidDirectory(t, d)
		checkDigest(t, d, 8)
		checkSign(t, 31, d, 279)
		for _, point := range []int{-1, 0, 1, math.MaxInt} {
			checkPick(t, d, point, -1)
		}
		for hops := range impl.MaxHops + 2 {
			checkPath(t, d, 0, hops)
			checkPath(t, d, finalSeed, hops)
		}
		secrets := trio{31, 32, 33}
		checkSigned(t, secrets.publics(), d, []int{279, 288, 0}, true)
		checkSigned(t, secrets.publics(), d, []int{279, 0, 0}, false)
	}
	checkValidDirectory(t, impl.Directory{})
}

func TestPromise74WithoutOneMix(t *testing.T) {
	for _, d := range slices.Concat(someDirectories(), fewWeighted()) {
		for i := range d.Entries {
			without := copyOfDirectory(d)
			without.Entries = slices.Delete(without.Entries, i, i+1)
			checkValidDirectory(t, without)
			checkDigest(t, without, digestOf(without))
		}
	}
}

// The second one of a mix may stand at any place, also in directories that have space left.
func TestPromise74OneMixTwice(t *testing.T) {
	for _, d := range someDirectories() {
		for _, e := range d.Entries {
			for place := range len(d.Entries) + 1 {
				twice := copyOfDirectory(d)
				twice.Entries = slices.Insert(twice.Entries, place, e)
				checkInvalidDirectory(t, twice)
			}
		}
	}
}

// Public keys that are equal modulo Numbers are the only ones with equal digests: the definition of the digest has
// remainders modulo Numbers, which is less than Group.
func TestPromise75OtherPublicKeys(t *testing.T) {
	for _, d := range someDirectories() {
		for i, e := range d.Entries {
			from := map[int]int{}
			for public := 1; public <= lastElement; public++ {
				digest := impl.DirectoryDigest(withEntry(d, i, entryOf(e.Name, public, e.Weight)))
				other, there := from[digest]
				if digest < 0 || digest > lastNumber || there != (public > impl.Numbers) || there && other != public-impl.Numbers {
					t.Fatalf("mix %d of %v has the digest %d with the public keys %d and %d", i, d, digest, other, public)
				}
				from[digest] = public
			}
		}
	}
}

// The digests of public keys that differ by Numbers are equal as the document defines them, although the promise does
// not name these keys; their signatures are right for both directories.
func TestPublicKeysThatDifferByNumbers(t *testing.T) {
	checkDigest(t, directoryOf(4, entryOf(3, 1, 2)), 904)
	checkDigest(t, directoryOf(4, entryOf(3, 992, 2)), 904)
	secrets := trio{31, 32, 33}
	for public := 1; public <= lastElement-impl.Numbers; public++ {
		one, two := directoryOf(4, entryOf(3, public, 2)), directoryOf(4, entryOf(3, public+impl.Numbers, 2))
		checkDigest(t, one, digestOf(two))
		checkSigned(t, secrets.publics(), two, secrets.signs(impl.DirectoryDigest(one)), true)
	}
}

func TestPromise75OtherWeights(t *testing.T) {
	for _, d := range someDirectories() {
		for i, e := range d.Entries {
			from := map[int]int{}
			for weight := range impl.MaxWeight + 1 {
				digest := impl.DirectoryDigest(withEntry(d, i, entryOf(e.Name, e.Public, weight)))
				if other, there := from[digest]; there || digest < 0 || digest > lastNumber {
					t.Fatalf("mix %d of %v has the digest %d with the weights %d and %d", i, d, digest, other, weight)
				}
				from[digest] = weight
			}
		}
	}
}

func TestPromise76OtherEpochs(t *testing.T) {
	for _, d := range slices.Concat(someDirectories(), fewWeighted()) {
		from := map[int]int{}
		for epoch := range finalEpoch + 1 {
			digest := impl.DirectoryDigest(withEpoch(d, epoch))
			if other, there := from[digest]; there || digest < 0 || digest > lastNumber {
				t.Fatalf("the mixes %v have the digest %d in the epochs %d and %d", d.Entries, digest, other, epoch)
			}
			from[digest] = epoch
		}
	}
}

// The numbers look random, so that each of them and their order count.
func TestDigestsOfManyNumbers(t *testing.T) {
	next, all := chosen(), someDirectories()
	for range 10000 {
		d := copyOfDirectory(all[next(len(all))])
		d.Epoch = next(finalEpoch + 1)
		for i := range d.Entries {
			d.Entries[i].Public, d.Entries[i].Weight = 1+next(lastElement), next(impl.MaxWeight+1)
		}
		checkDigest(t, d, digestOf(d))
	}
}

func TestSignsOfAllSecrets(t *testing.T) {
	for _, d := range someDirectories() {
		for secret := 1; secret <= lastElement; secret++ {
			checkSign(t, secret, d, secret*(digestOf(d)+1)%impl.Group)
		}
	}
}

func TestSignsOfWrongSecrets(t *testing.T) {
	for _, d := range someDirectories() {
		for _, secret := range outOfRange {
			checkSign(t, secret, d, 0)
		}
	}
}

// The signatures are those of DirectorySign. Instead of one of an authority that does not sign, there is none, or one
// that is wrong: that of another epoch, that of another secret, and its neighbours.
func TestPromise77EachChoiceOfAuthorities(t *testing.T) {
	for _, d := range append(someDirectories(), fewWeighted()...) {
		for _, secrets := range someTrios {
			publics, signs := secrets.publics(), []int{}
			for _, secret := range secrets {
				signs = append(signs, impl.DirectorySign(secret, d))
			}
			for choice := range allChoices {
				checkSigned(t, publics, d, someOf(signs, choice), bitsOf(choice) >= impl.Quorum)
				for _, wrong := range [][]int{secrets.signs(digestOf(withEpoch(d, d.Epoch+1))), {1, 1, 1}, {lastElement, 2, lastElement}, neighbours(signs, 1), neighbours(signs, lastElement-1)} {
					mixed := someOf(signs, choice)
					for place, sign := range mixed {
						if sign == 0 && wrong[place] != signs[place] {
							mixed[place] = wrong[place]
						}
					}
					checkSigned(t, publics, d, mixed, bitsOf(choice) >= impl.Quorum)
				}
			}
		}
	}
}

// neighbours has elements that are greater by a step, round the end of the range.
func neighbours(signs []int, step int) []int {
	others := slices.Clone(signs)
	for i, sign := range others {
		others[i] = 1 + (sign-1+step)%lastElement
	}
	return others
}

// Each authority is accepted with its own public key only, at its own place.
func TestPromise77SignaturesAtOtherPlaces(t *testing.T) {
	for _, d := range someDirectories() {
		secrets := trio{31, 450, 996}
		signs := secrets.signs(digestOf(d))
		for _, order := range permutations([]int{0, 1, 2}) {
			moved, right := []int{signs[order[0]], signs[order[1]], signs[order[2]]}, 0
			for place, from := range order {
				if place == from {
					right++
				}
			}
			checkSigned(t, secrets.publics(), d, moved, right >= impl.Quorum)
		}
		for place := range signs {
			checkSigned(t, secrets.publics(), d, slices.Repeat(signs[place:place+1], impl.Authorities), false)
		}
	}
}

// Of all numbers, exactly one is the right signature of an authority, beside the right one of another authority.
func TestPromise77AllSignatures(t *testing.T) {
	for _, d := range someDirectories() {
		secrets := someTrios[d.Epoch%5]
		publics, right := secrets.publics(), secrets.signs(digestOf(d))
		for place := range impl.Authorities {
			for beside := 1; beside < impl.Authorities; beside++ {
				other := (place + beside) % impl.Authorities
				signs := someOf(right, 1<<other)
				for sign := range impl.Group {
					signs[place] = sign
					checkSigned(t, publics, d, signs, sign == right[place])
				}
			}
		}
	}
}

// All public keys are right with exactly one signature each.
func TestSignaturesOfAllPublicKeys(t *testing.T) {
	for _, d := range []impl.Directory{directoryOf(0), writtenDirectory(), directoryOf(3, entryOf(2, 15, 6)), directoryOf(3, entryOf(2, 15, 5))} {
		digest := impl.DirectoryDigest(d)
		first := impl.DirectorySign(31, d)
		for public := 1; public <= lastElement; public++ {
			for sign := range impl.Group {
				want := sign*impl.Base%impl.Group == public*(digest+1)%impl.Group
				if got := impl.DirectoryCheck([]int{155, public, 1}, d, []int{first, sign, 0}); got != want {
					t.Fatalf("the signature %d with the public key %d under %v is %v", sign, public, d, got)
				}
			}
		}
	}
}

func TestPromise78OtherEpochs(t *testing.T) {
	for _, d := range someDirectories() {
		for _, secrets := range someTrios {
			publics, signs := secrets.publics(), secrets.signs(digestOf(d))
			for choice := range allChoices {
				some := someOf(signs, choice)
				if !impl.DirectoryCheck(publics, d, some) {
					continue
				}
				for epoch := range finalEpoch + 1 {
					checkSigned(t, publics, withEpoch(d, epoch), some, epoch == d.Epoch)
				}
				for _, epoch := range wrongEpochs {
					checkSigned(t, publics, withEpoch(d, epoch), some, false)
				}
			}
		}
	}
}

// Signatures from different epochs do not add up.
func TestPromise78SignaturesOfTwoEpochs(t *testing.T) {
	for _, d := range someDirectories() {
		secrets := someTrios[0]
		for epoch := range finalEpoch + 1 {
			one, two := secrets.signs(digestOf(d)), secrets.signs(digestOf(withEpoch(d, epoch)))
			mixed := []int{one[0], two[1], 0}
			checkSigned(t, secrets.publics(), d, mixed, epoch == d.Epoch)
			mixed[2] = one[2]
			checkSigned(t, secrets.publics(), d, mixed, true)
			checkSigned(t, secrets.publics(), withEpoch(d, epoch), mixed, epoch == d.Epoch)
		}
	}
}

// The public keys and the signatures look random, and are often right.
func TestPromise79WithoutAnyTwo(t *testing.T) {
	next, accepted, rejected := chosen(), 0, 0
	for _, d := range slices.Concat(someDirectories(), fewWeighted()) {
		for range 100 {
			secrets := trio{1 + next(lastElement), 1 + next(lastElement), 1 + next(lastElement)}
			publics, signs := secrets.publics(), secrets.signs(digestOf(d))
			for place := range signs {
				if next(3) == 0 {
					signs[place] = next(impl.Group)
				}
			}
			right := countRight(publics, digestOf(d), signs)
			checkSigned(t, publics, d, signs, right >= impl.Quorum)
			if right < impl.Quorum {
				rejected++
				continue
			}
			accepted++
			for place := range signs {
				checkSigned(t, publics, d, someOf(signs, 1<<place), false)
			}
		}
	}
	if accepted < 1000 || rejected < 1000 {
		t.Errorf("%d lists of signatures were accepted, and %d rejected", accepted, rejected)
	}
}

// A right beginning or end of public keys and signatures does not do.
func TestOtherNumbersOfAuthorities(t *testing.T) {
	for _, d := range []impl.Directory{directoryOf(0), writtenDirectory(), directoryOf(99, entryOf(7, 996, 9))} {
		secrets := []int{31, 32, 33, 34, 35, 36, 37}
		var publics, signs []int
		for _, secret := range secrets {
			publics, signs = append(publics, impl.PublicOf(secret)), append(signs, impl.DirectorySign(secret, d))
		}
		for keys := range len(secrets) + 1 {
			for number := range len(secrets) + 1 {
				want := keys == impl.Authorities && number == impl.Authorities
				checkSigned(t, publics[:keys], d, signs[:number], want)
				checkSigned(t, publics[:keys], d, make([]int, number), false)
				if !want {
					checkSigned(t, publics[len(secrets)-keys:], d, signs[len(secrets)-number:], false)
				}
			}
		}
		checkSigned(t, append(publics[:3:3], 0), d, append(signs[:3:3], 0), false)
		checkSigned(t, publics[:3], d, append(signs[:3:3], 0), false)
		checkSigned(t, nil, d, nil, false)
		checkSigned(t, publics[:3], d, nil, false)
		checkSigned(t, nil, d, signs[:3], false)
	}
}

// One wrong number is enough, also where the other two authorities have signed, or where its own signature is none.
func TestWrongPublicKeysAndSignatures(t *testing.T) {
	for _, d := range someDirectories() {
		for _, secrets := range someTrios[:4] {
			for place := range impl.Authorities {
				for choice := range allChoices {
					publics, signs := secrets.publics(), someOf(secrets.signs(digestOf(d)), choice)
					for _, wrong := range outOfRange {
						publics[place] = wrong
						checkSigned(t, publics, d, signs, false)
					}
					for _, wrong := range wrongSigns {
						signs[place] = wrong
						checkSigned(t, secrets.publics(), d, signs, false)
					}
				}
			}
		}
	}
}

// A signature that would be right after a remainder is none.
func TestSignaturesBeyondTheGroup(t *testing.T) {
	for _, d := range someDirectories() {
		secrets := someTrios[0]
		for place := range impl.Authorities {
			publics, signs := secrets.publics(), secrets.signs(digestOf(d))
			for _, step := range []int{impl.Group, -impl.Group, 1000 * impl.Group} {
				signs[place] += step
				checkSigned(t, publics, d, signs, false)
				signs[place] -= step
				publics[place] += step
				checkSigned(t, publics, d, signs, false)
				publics[place] -= step
			}
			checkSigned(t, publics, d, signs, true)
		}
	}
}

func TestPromise80AsManyPointsAsTheWeight(t *testing.T) {
	for _, d := range weightedDirectories() {
		var points [impl.MaxMixes]int
		sum := len(bagOf(d))
		for point := -20; point < sum+20; point++ {
			picked := impl.DirectoryPick(d, point)
			if (picked >= 0) != (point >= 0 && point < sum) || picked < -1 || picked >= len(d.Entries) {
				t.Fatalf("DirectoryPick(%v, %d) is %d", d, point, picked)
			}
			if picked >= 0 {
				points[picked]++
			}
		}
		for i, e := range d.Entries {
			if points[i] != e.Weight {
				t.Fatalf("mix %d of %v is picked for %d points", i, d, points[i])
			}
		}
	}
}

func TestPromise80NoneFromTheSumOn(t *testing.T) {
	for _, d := range weightedDirectories() {
		sum := len(bagOf(d))
		for _, beyond := range []int{0, 1, 2, 8, 9, 10, 256, 1 << 31, 1 << 32, 1 << 33, 1 << 62, math.MaxInt - sum} {
			checkPick(t, d, sum+beyond, -1)
		}
		for _, point := range append(wrongPoints, -sum, -sum-1, math.MinInt+sum) {
			if point < 0 {
				checkPick(t, d, point, -1)
			}
		}
	}
}

// Both ends of each mix are picked: the sum of the weights before it, and one less than that with its own.
func TestPointsAtTheEndsOfEachMix(t *testing.T) {
	for _, d := range weightedDirectories() {
		sum := 0
		for i, e := range d.Entries {
			if e.Weight > 0 {
				checkPick(t, d, sum, i)
				sum += e.Weight
				checkPick(t, d, sum-1, i)
			}
		}
		checkPick(t, d, sum, -1)
	}
}

func TestPromise81DoesNotDecrease(t *testing.T) {
	for _, d := range weightedDirectories() {
		last := 0
		for point := range len(bagOf(d)) {
			picked := impl.DirectoryPick(d, point)
			if picked < last || d.Entries[picked].Weight == 0 {
				t.Fatalf("DirectoryPick(%v, %d) is %d, and the one before %d", d, point, picked, last)
			}
			last = picked
		}
	}
}

func TestPointsOfAllDirectories(t *testing.T) {
	for _, d := range slices.Concat(someDirectories(), weightedDirectories()) {
		for point := -3; point < impl.MaxMixes*impl.MaxWeight+3; point++ {
			checkPick(t, d, point, pickOf(d, point))
		}
	}
}

// seedsFor has both ends of the range, and seeds around the products of the sums of weights.
func seedsFor(d impl.Directory) []int {
	seeds := []int{0, 1, 2, 3, 5, 8, 17, 4242, 123456, 500000, 777777, finalSeed - 1, finalSeed}
	for product := max(1, len(bagOf(d))); product > 1 && product < finalSeed; product *= len(bagOf(d)) {
		seeds = append(seeds, product-1, product, product+1, product/2)
	}
	return seeds
}

func TestPromise82DifferentMixes(t *testing.T) {
	for _, d := range slices.Concat(someDirectories(), weightedDirectories()) {
		weights := map[int]int{}
		for _, e := range d.Entries {
			weights[e.Name] = e.Weight
		}
		for _, seed := range seedsFor(d) {
			for hops := 1; hops <= impl.MaxHops; hops++ {
				path := impl.DirectoryPath(d, seed, hops)
				if len(path) != 0 && len(path) != hops {
					t.Fatalf("DirectoryPath(%v, %d, %d) is %v", d, seed, hops, path)
				}
				for i, name := range path {
					if weights[name] == 0 || slices.Contains(path[:i], name) {
						t.Fatalf("DirectoryPath(%v, %d, %d) is %v", d, seed, hops, path)
					}
				}
			}
		}
	}
}

func TestPromise83FirstMix(t *testing.T) {
	for _, d := range slices.Concat(someDirectories(), weightedDirectories()) {
		sum := len(bagOf(d))
		if sum == 0 {
			continue
		}
		for _, seed := range seedsFor(d) {
			picked := impl.DirectoryPick(d, seed%sum)
			if picked < 0 || picked >= len(d.Entries) {
				t.Fatalf("DirectoryPick(%v, %d) is %d", d, seed%sum, picked)
			}
			checkPath(t, d, seed, 1, d.Entries[picked].Name)
		}
	}
}

func TestPromise84FewerMixes(t *testing.T) {
	for _, d := range slices.Concat(someDirectories(), weightedDirectories()) {
		for _, seed := range seedsFor(d) {
			for hops := 2; hops <= impl.MaxHops; hops++ {
				if path := impl.DirectoryPath(d, seed, hops); len(path) > 0 {
					for fewer := 1; fewer < hops; fewer++ {
						checkPath(t, d, seed, fewer, path[:fewer]...)
					}
				}
			}
		}
	}
}

func TestPromise85EmptyPaths(t *testing.T) {
	for _, d := range slices.Concat(someDirectories(), weightedDirectories()) {
		positive := positiveWeights(d)
		for _, seed := range seedsFor(d) {
			for hops := 1; hops <= impl.MaxHops; hops++ {
				if path := impl.DirectoryPath(d, seed, hops); (len(path) == 0) != (positive < hops) {
					t.Fatalf("DirectoryPath(%v, %d, %d) is %v", d, seed, hops, path)
				}
			}
		}
	}
}

func TestPathsOfWrongSeedsAndHops(t *testing.T) {
	for _, d := range fewWeighted() {
		for _, seed := range wrongSeeds {
			for hops := -1; hops <= impl.MaxHops+1; hops++ {
				checkPath(t, d, seed, hops)
			}
		}
		for _, hops := range wrongHops {
			for _, seed := range append(wrongSeeds[:3:3], seedsFor(d)...) {
				checkPath(t, d, seed, hops)
			}
		}
	}
}

func TestPathsOfManyDirectories(t *testing.T) {
	for _, d := range slices.Concat(someDirectories(), weightedDirectories()) {
		for _, seed := range seedsFor(d) {
			for hops := 1; hops <= impl.MaxHops; hops++ {
				checkPath(t, d, seed, hops, pathOf(d, seed, hops)...)
			}
		}
	}
	next := chosen()
	for _, d := range fewWeighted() {
		for range 200 {
			seed, hops := next(finalSeed+1), 1+next(impl.MaxHops)
			checkPath(t, d, seed, hops, pathOf(d, seed, hops)...)
		}
	}
}

// Every seventh seed of the whole range is used.
func TestPathsOfManySeeds(t *testing.T) {
	for i, d := range []impl.Directory{writtenDirectory(), weighted(9, 9, 9, 9, 9, 9), weighted(0, 1, 0, 1, 1, 0)} {
		for seed := i; seed <= finalSeed; seed += 7 {
			checkPath(t, d, seed, impl.MaxHops, pathOf(d, seed, impl.MaxHops)...)
		}
	}
}

// A mix that is picked for a point, but not for the one before, was not picked for any earlier one.
func TestPromise86PointsBetween(t *testing.T) {
	for _, d := range weightedDirectories() {
		picks := []int{}
		for point := range len(bagOf(d)) {
			picked := impl.DirectoryPick(d, point)
			if slices.Contains(picks, picked) && picks[point-1] != picked {
				t.Fatalf("DirectoryPick(%v, %d) is %d, and for the points before it is %v", d, point, picked, picks)
			}
			picks = append(picks, picked)
		}
	}
}

// checkDirectoryApart fails if a function changes its arguments, behind which there is space that belongs to others, or
// if a slice that it returns shares memory with them or with another result.
func checkDirectoryApart(t *testing.T, name string, d impl.Directory, list []int, of func(impl.Directory, []int) []int) {
	t.Helper()
	entries := slices.Concat(d.Entries, []impl.Entry{entryOf(3, 17, 29), entryOf(5, 46, 75), entryOf(6, 104, 133), entryOf(7, 1, 1)})
	numbers := slices.Concat(list, listOf(impl.MaxList, 17, 29))
	entriesBefore, numbersBefore := slices.Clone(entries), slices.Clone(numbers)
	call := func() []int {
		return of(impl.Directory{Epoch: d.Epoch, Entries: entries[:len(d.Entries)]}, numbers[:len(list)])
	}
	got, another := call(), call()
	want := slices.Clone(got)
	overwrite(got)
	if !slices.Equal(entries, entriesBefore) {
		t.Fatalf("%s changes its entries %v to %v", name, entriesBefore, entries)
	}
	checkNumbers(t, "the memory of the numbers of "+name, numbers, numbersBefore)
	checkNumbers(t, "another result of "+name, another, want)
	checkNumbers(t, "a later result of "+name, call(), want)
}

func TestDirectoriesShareNoMemory(t *testing.T) {
	invalid := []impl.Directory{directoryOf(-1, entryOf(1, 1, 1)), directoryOf(1, entryOf(3, 1, 1), entryOf(2, 1, 1)), directoryOf(1, entryOf(3, 0, 1)), directoryOf(1, entryOf(3, 1, 10)), directoryOf(1, entryOf(3, 1, 1), entryOf(3, 1, 1))}
	for _, d := range slices.Concat(someDirectories(), fewWeighted(), invalid) {
		for _, seed := range append(wrongSeeds[:1:1], seedsFor(d)...) {
			for hops := range impl.MaxHops + 2 {
				checkDirectoryApart(t, "DirectoryPath", d, nil, func(d impl.Directory, _ []int) []int {
					return impl.DirectoryPath(d, seed, hops)
				})
			}
		}
		checkDirectoryApart(t, "DirectoryValid, DirectoryDigest, DirectorySign and DirectoryPick", d, nil, func(d impl.Directory, _ []int) []int {
			impl.DirectoryValid(d)
			return []int{impl.DirectoryDigest(d), impl.DirectorySign(31, d), impl.DirectorySign(0, d), impl.DirectoryPick(d, 0), impl.DirectoryPick(d, 10), impl.DirectoryPick(d, 54)}
		})
		secrets := someTrios[0]
		for choice := range allChoices {
			both := append(secrets.publics(), someOf(secrets.signs(max(0, impl.DirectoryDigest(d))), choice)...)
			checkDirectoryApart(t, "DirectoryCheck", d, both, func(d impl.Directory, both []int) []int {
				if impl.DirectoryCheck(both[:impl.Authorities], d, both[impl.Authorities:]) {
					return []int{1}
				}
				return nil
			})
		}
	}
}

// The public keys and the signatures may be one slice.
func TestDirectoryCheckOfOneSlice(t *testing.T) {
	d := directoryOf(0, entryOf(2, 15, 1))
	both := []int{155, 160, 165}
	checkSigned(t, both, d, both, countRight(both, digestOf(d), both) >= impl.Quorum)
	checkNumbers(t, "the slice", both, []int{155, 160, 165})
}
