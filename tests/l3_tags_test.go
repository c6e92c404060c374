package tests

import (
	"math"
	"slices"
	"testing"

	"loop.example/mixrelay/impl"
)

// The tags of lists of 0 to MaxList numbers under key 1 are written out, so that the rule of tags is not checked by
// itself: those of zeros, of the greatest number, and of 1, 2, 3 and so on.
var (
	tagsOfZeros    = []int{4, 829, 238, 243, 770, 831, 577, 268, 130, 527, 733, 476, 119, 142, 437, 216, 227, 970, 170, 505, 255, 125, 701, 901, 708}
	tagsOfGreatest = []int{4, 828, 615, 440, 628, 1, 169, 886, 401, 161, 340, 379, 117, 897, 454, 726, 691, 984, 823, 429, 243, 696, 900, 3, 238}
	tagsOfCounting = []int{4, 830, 853, 661, 339, 239, 393, 457, 48, 811, 419, 259, 895, 163, 441, 701, 248, 977, 515, 926, 688, 978, 364, 471, 748}
)

// farTags has tags far out of range, some of which would be in range if their upper bits were cut off.
var farTags = []int{math.MinInt, math.MinInt + 1, math.MinInt32, -1 << 32, -1<<32 + 4, -1000000, 1000000, math.MaxInt32, 1 << 32, 1<<32 + 4, 1 << 62, math.MaxInt - 1, math.MaxInt}

func checkTag(t *testing.T, key int, list []int, want int) {
	t.Helper()
	if got := impl.TagOf(key, list); got != want {
		t.Fatalf("TagOf(%d, %v) = %d, want %d", key, list, got, want)
	}
}

// tagInRange returns a tag, and fails if it is not that of valid arguments.
func tagInRange(t *testing.T, key int, list []int) int {
	t.Helper()
	tag := impl.TagOf(key, list)
	if tag < 0 || tag > lastNumber {
		t.Fatalf("TagOf(%d, %v) = %d, which is out of range", key, list, tag)
	}
	return tag
}

func TestTagOfLengths(t *testing.T) {
	if len(tagsOfZeros) != impl.MaxList+1 || len(tagsOfGreatest) != impl.MaxList+1 || len(tagsOfCounting) != impl.MaxList+1 {
		t.Fatal("a length has no written-out tag")
	}
	for n := 0; n <= impl.MaxList; n++ {
		checkTag(t, 1, listOf(n, 0, 0), tagsOfZeros[n])
		checkTag(t, 1, listOf(n, lastNumber, 0), tagsOfGreatest[n])
		checkTag(t, 1, listOf(n, 1, 1), tagsOfCounting[n])
	}
}

func TestTagOfValues(t *testing.T) {
	for _, c := range []struct {
		key  int
		list []int
		want int
	}{
		{1, nil, 4}, {2, []int{}, 7}, {330, nil, 0}, {331, nil, 3}, {660, nil, 990}, {990, nil, 989}, {991, nil, 1}, {992, nil, 4}, {996, nil, 16},
		{1, []int{0}, 829}, {1, []int{1}, 830}, {1, []int{990}, 828}, {996, []int{0}, 257}, {996, []int{990}, 256},
		{996, []int{990, 0}, 794}, {996, []int{0, 990}, 415}, {500, []int{3, 1, 4, 1, 5}, 141}, {500, []int{5, 1, 4, 1, 3}, 524},
		{996, listOf(impl.MaxList, 0, 0), 747}, {996, listOf(impl.MaxList, lastNumber, 0), 277},
	} {
		checkTag(t, c.key, c.list, c.want)
	}
}

// From one key to the next, a tag grows by 3 times as many factors of 613 as there are numbers.
func TestTagOfEachKeyFollowsFromTheOneBefore(t *testing.T) {
	step := 3
	for n := 0; n <= impl.MaxList; n++ {
		zeros, greatest := tagsOfZeros[n], tagsOfGreatest[n]
		for key := 1; key <= lastElement; key++ {
			checkTag(t, key, listOf(n, 0, 0), zeros)
			checkTag(t, key, listOf(n, lastNumber, 0), greatest)
			zeros, greatest = (zeros+step)%impl.Numbers, (greatest+step)%impl.Numbers
		}
		step = step * 613 % impl.Numbers
	}
}

// Where one number grows by one, a tag grows by as many factors of 613 as there are numbers behind it.
func TestTagOfEachNumberFollowsFromTheOneBefore(t *testing.T) {
	for n := 1; n <= impl.MaxList; n++ {
		step := 1
		for place := n - 1; place >= 0; place-- {
			list, want := listOf(n, 0, 0), tagsOfZeros[n]
			for number := range impl.Numbers {
				list[place] = number
				checkTag(t, 1, list, want)
				want = (want + step) % impl.Numbers
			}
			step = step * 613 % impl.Numbers
		}
	}
}

// A list that is a part of another one has a tag of its own length.
func TestTagOfIgnoresWhatIsBehindTheList(t *testing.T) {
	memory := listOf(impl.MaxList, 1, 1)
	for n := 0; n <= impl.MaxList; n++ {
		checkTag(t, 1, memory[:n], tagsOfCounting[n])
		checkTag(t, 1, memory[:n:n], tagsOfCounting[n])
	}
}

// checkNoTag fails if invalid arguments have a tag, or if any tag, also that of TagOf, is accepted for them.
func checkNoTag(t *testing.T, key int, list []int) {
	t.Helper()
	checkTag(t, key, list, -1)
	for tag := -2; tag <= impl.Numbers; tag++ {
		if impl.TagCheck(key, list, tag) {
			t.Fatalf("TagCheck(%d, %v, %d) is true", key, list, tag)
		}
	}
	for _, tag := range farTags {
		if impl.TagCheck(key, list, tag) {
			t.Fatalf("TagCheck(%d, %v, %d) is true", key, list, tag)
		}
	}
}

func TestTagsOfWrongKeys(t *testing.T) {
	for _, key := range outOfRange {
		for _, list := range append(someLists(), wrongLists()...) {
			checkNoTag(t, key, list)
		}
	}
}

func TestTagsOfWrongLists(t *testing.T) {
	for _, list := range wrongLists() {
		for _, key := range someElements {
			checkNoTag(t, key, list)
		}
	}
	for _, wrong := range wrongNumbers {
		for n := 1; n <= impl.MaxList; n++ {
			for place := range n {
				list := listOf(n, 3, 50)
				list[place] = wrong
				checkNoTag(t, 1, list)
			}
		}
	}
}

func TestTagsOfLongestListAndOneLonger(t *testing.T) {
	for key := 1; key <= lastElement; key++ {
		longest := tagInRange(t, key, listOf(impl.MaxList, 5, 7))
		if !impl.TagCheck(key, listOf(impl.MaxList, 5, 7), longest) {
			t.Fatalf("TagCheck refuses the tag %d of the longest list under key %d", longest, key)
		}
		checkTag(t, key, listOf(impl.MaxList+1, 5, 7), -1)
	}
}

func TestTagsChangeNoArgument(t *testing.T) {
	for _, list := range append(someLists(), wrongLists()...) {
		for _, key := range []int{-1, 0, 1, 500, lastElement, impl.Group} {
			// A clone, so that a change of the list is not made before it is looked for.
			tag := impl.TagOf(key, slices.Clone(list))
			checkApart(t, "TagOf", list, func(l []int) []int { return []int{impl.TagOf(key, l)} })
			checkApart(t, "TagCheck", list, func(l []int) []int {
				if impl.TagCheck(key, l, tag) {
					return []int{1}
				}
				return []int{0}
			})
		}
	}
}

func TestPromise16TagCheckAcceptsTagOf(t *testing.T) {
	for _, list := range someLists() {
		for key := 1; key <= lastElement; key++ {
			if tag := tagInRange(t, key, list); !impl.TagCheck(key, list, tag) {
				t.Fatalf("TagCheck(%d, %v, %d) is false", key, list, tag)
			}
		}
	}
}

func TestPromise17OneChangedNumberChangesTheTag(t *testing.T) {
	for _, list := range someLists() {
		for _, key := range []int{1, 500, lastElement} {
			for place := range list {
				checkTagOfOnePlace(t, key, list, place)
			}
		}
	}
}

// checkTagOfOnePlace puts each number at a place, and fails if two of these lists have the same tag.
func checkTagOfOnePlace(t *testing.T, key int, list []int, place int) {
	t.Helper()
	var seen [impl.Numbers]bool
	changed := slices.Clone(list)
	for number := range impl.Numbers {
		changed[place] = number
		tag := tagInRange(t, key, changed)
		if seen[tag] {
			t.Fatalf("key %d: with another number at place %d, %v has the same tag", key, place, changed)
		}
		seen[tag] = true
	}
}

func TestPromise17TheOldTagIsRefused(t *testing.T) {
	for _, key := range someElements {
		for _, list := range someLists() {
			tag := tagInRange(t, key, list)
			for place := range list {
				for _, step := range []int{1, 2, 495, lastNumber} {
					changed := slices.Clone(list)
					changed[place] = (changed[place] + step) % impl.Numbers
					if impl.TagCheck(key, changed, tag) {
						t.Fatalf("key %d: the tag %d of %v is accepted for %v", key, tag, list, changed)
					}
				}
			}
		}
	}
}

func TestPromise18EveryOtherTagIsRefused(t *testing.T) {
	for _, list := range someLists() {
		for _, key := range someElements {
			checkOnlyTag(t, key, list, tagInRange(t, key, list))
		}
	}
}

// checkOnlyTag fails if a tag is refused or another one is accepted, also one with the same remainder.
func checkOnlyTag(t *testing.T, key int, list []int, right int) {
	t.Helper()
	for tag := -2 * impl.Numbers; tag <= 3*impl.Numbers; tag++ {
		if impl.TagCheck(key, list, tag) != (tag == right) {
			t.Fatalf("the tag of %v under key %d is %d, and TagCheck of %d is %v", list, key, right, tag, tag != right)
		}
	}
	for _, tag := range append([]int{right + 1<<32, right - 1<<32, right | math.MinInt}, farTags...) {
		if impl.TagCheck(key, list, tag) {
			t.Fatalf("the tag of %v under key %d is %d, and TagCheck of %d is true", list, key, right, tag)
		}
	}
}

func TestPromise19TagOfAnEmptyList(t *testing.T) {
	for key := 1; key <= lastElement; key++ {
		for _, empty := range [][]int{nil, {}, make([]int, 0, impl.MaxList)} {
			checkTag(t, key, empty, (3*key+1)%impl.Numbers)
		}
	}
}

// A last number that makes up for another first one is found by trying them all, so that lists with the same tag are
// among those that are compared.
func TestPromise20AFurtherNumberKeepsTagsSameOrDifferent(t *testing.T) {
	for n := 1; n < impl.MaxList; n++ {
		for _, key := range []int{1, 330, 500, 992, lastElement} {
			for _, step := range []int{1, 495, lastNumber} {
				one := listOf(n, 497, 131)
				two := slices.Clone(one)
				two[0] = (two[0] + step) % impl.Numbers
				if same := sameTagsOf(t, key, one, two); n > 1 && same != 1 || n == 1 && same != 0 {
					t.Fatalf("key %d, lists of %d numbers: %d of them have the tag of another one", key, n, same)
				}
			}
		}
	}
}

// sameTagsOf gives the second list each last number, if that is not its first one, compares both lists with and
// without further numbers, and returns how often they have the same tag.
func sameTagsOf(t *testing.T, key int, one, two []int) int {
	t.Helper()
	same, last := 0, len(two)-1
	for number := range impl.Numbers {
		if last > 0 {
			two[last] = number
		}
		equal := tagInRange(t, key, one) == tagInRange(t, key, two)
		for _, further := range []int{0, 1, 500, lastNumber} {
			checkFurther(t, key, one, two, further, equal)
		}
		if equal {
			same++
		}
	}
	return same
}

func checkFurther(t *testing.T, key int, one, two []int, further int, equal bool) {
	t.Helper()
	longerOne, longerTwo := append(slices.Clone(one), further), append(slices.Clone(two), further)
	if (tagInRange(t, key, longerOne) == tagInRange(t, key, longerTwo)) != equal {
		t.Fatalf("key %d: %v and %v have the same tag: %v, and with the further number %d: %v", key, one, two, equal, further, !equal)
	}
}
