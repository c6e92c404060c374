package tests

import (
	"math"
	"slices"
	"testing"

	"loop.example/mixrelay/impl"
)

const lastNumber = impl.Numbers - 1

// wrongLengths has the neighbours of both ends, and numbers that would be in range if their upper bits were cut off.
var wrongLengths = []int{-1, -2, -impl.MaxList, impl.MaxList + 1, 2 * impl.MaxList, 1 << 32, 1<<32 + 3, math.MaxInt, math.MinInt}

// wrongNumbers has the neighbours of both ends, and numbers that are in range after a remainder.
var wrongNumbers = []int{-1, -lastNumber, -impl.Numbers, impl.Numbers, impl.Numbers + 1, 2 * impl.Numbers, 1 << 32, math.MaxInt, math.MinInt}

// streamOfKey1 is written out, so that the rule of streams is not checked by itself.
var streamOfKey1 = []int{7, 19, 53, 109, 187, 287, 409, 553, 719, 907, 126, 358, 612, 888, 195, 515, 857, 230, 616, 33, 463, 915, 398, 894}

// listOf has numbers that begin with one and then differ by a step, modulo Numbers.
func listOf(length, first, step int) []int {
	list := make([]int, length)
	for i := range list {
		list[i] = (first + i*step) % impl.Numbers
	}
	return list
}

// someLists has lists of all lengths: zeros, the greatest number, and different numbers.
func someLists() [][]int {
	lists := [][]int{nil}
	for length := 0; length <= impl.MaxList; length++ {
		lists = append(lists, listOf(length, 0, 0), listOf(length, lastNumber, 0), listOf(length, 0, lastNumber), listOf(length, 497, 131))
	}
	return lists
}

// wrongLists has lists that are too long, and each wrong number at the first, a middle and the last place.
func wrongLists() [][]int {
	lists := [][]int{listOf(impl.MaxList+1, 0, 0), listOf(impl.MaxList+1, 5, 7), listOf(2*impl.MaxList, 0, 0)}
	for _, wrong := range wrongNumbers {
		lists = append(lists, []int{wrong})
		for _, place := range []int{0, 11, impl.MaxList - 1} {
			list := listOf(impl.MaxList, 3, 50)
			list[place] = wrong
			lists = append(lists, list)
		}
	}
	return lists
}

func checkNumbers(t *testing.T, name string, got, want []int) {
	t.Helper()
	if !slices.Equal(got, want) {
		t.Fatalf("%s is %v, want %v", name, got, want)
	}
}

func TestMaskConstants(t *testing.T) {
	if impl.Numbers != 991 || impl.MaxList != 24 {
		t.Errorf("Numbers is %d and MaxList is %d, want 991 and 24", impl.Numbers, impl.MaxList)
	}
}

func TestStreamOfValues(t *testing.T) {
	for _, c := range []struct {
		key  int
		want []int
	}{
		{1, streamOfKey1}, {1, []int{7}}, {1, []int{}}, {2, []int{9, 22, 57, 114, 193}}, {495, []int{4, 510, 47}},
		{990, []int{3, 13, 45, 99}}, {991, []int{5, 16, 49, 104}}, {992, streamOfKey1}, {996, []int{15, 31, 69, 129}}, {996, []int{}},
	} {
		checkNumbers(t, "StreamOf", impl.StreamOf(c.key, len(c.want)), c.want)
	}
}

// The number with index i grows by i+2 from one key to the next.
func TestStreamOfEachKeyFollowsFromTheOneBefore(t *testing.T) {
	want := slices.Clone(streamOfKey1)
	for key := 1; key <= lastElement; key++ {
		checkNumbers(t, "StreamOf", impl.StreamOf(key, impl.MaxList), want)
		for i := range want {
			want[i] = (want[i] + i + 2) % impl.Numbers
		}
	}
}

func TestMaskOnAndMaskOffValues(t *testing.T) {
	for _, c := range []struct {
		key     int
		off, on []int
	}{
		{1, []int{}, []int{}}, {996, nil, nil}, {1, []int{0}, []int{7}}, {1, []int{983}, []int{990}}, {1, []int{984}, []int{0}},
		{1, []int{990, 0}, []int{6, 19}}, {1, []int{984, 972, 938}, []int{0, 0, 0}}, {1, []int{983, 971, 937}, []int{990, 990, 990}},
		{996, []int{990, 0, 500}, []int{14, 31, 569}}, {990, []int{988, 977, 946, 891}, []int{0, 990, 0, 990}},
	} {
		checkNumbers(t, "MaskOn", impl.MaskOn(c.off, c.key), c.on)
		checkNumbers(t, "MaskOff", impl.MaskOff(c.on, c.key), c.off)
	}
}

func TestMasksOfNothingAreEmpty(t *testing.T) {
	for key := 1; key <= lastElement; key++ {
		for _, empty := range [][]int{nil, {}, make([]int, 0, impl.MaxList)} {
			checkNumbers(t, "MaskOn of an empty list", impl.MaskOn(empty, key), nil)
			checkNumbers(t, "MaskOff of an empty list", impl.MaskOff(empty, key), nil)
		}
		checkNumbers(t, "StreamOf no numbers", impl.StreamOf(key, 0), nil)
	}
}

func TestMasksOfWrongKeysAreEmpty(t *testing.T) {
	for _, key := range outOfRange {
		for n := -1; n <= impl.MaxList+1; n++ {
			checkNumbers(t, "StreamOf with a wrong key", impl.StreamOf(key, n), nil)
		}
		for _, list := range append(someLists(), wrongLists()...) {
			checkNumbers(t, "MaskOn with a wrong key", impl.MaskOn(list, key), nil)
			checkNumbers(t, "MaskOff with a wrong key", impl.MaskOff(list, key), nil)
		}
	}
}

func TestStreamOfWrongLengthsIsEmpty(t *testing.T) {
	for _, n := range wrongLengths {
		for _, key := range append(slices.Clone(someElements), outOfRange...) {
			checkNumbers(t, "StreamOf a wrong length", impl.StreamOf(key, n), nil)
		}
	}
}

func TestMasksOfWrongListsAreEmpty(t *testing.T) {
	for _, list := range wrongLists() {
		for _, key := range someElements {
			checkNumbers(t, "MaskOn of a wrong list", impl.MaskOn(list, key), nil)
			checkNumbers(t, "MaskOff of a wrong list", impl.MaskOff(list, key), nil)
		}
	}
}

// checkApart fails if a function changes its argument, or if what it returns shares memory with the argument, with
// what is behind it, or with a second result.
func checkApart(t *testing.T, name string, list []int, of func([]int) []int) {
	t.Helper()
	memory := append(slices.Clone(list), listOf(impl.MaxList, 17, 29)...)
	before := slices.Clone(memory)
	argument := memory[:len(list)]
	first, second := of(argument), of(argument)
	want := slices.Clone(second)
	for i := range first[:cap(first)] {
		first[:cap(first)][i] = -7
	}
	checkNumbers(t, "the argument of "+name, memory, before)
	checkNumbers(t, "the second result of "+name, second, want)
	checkNumbers(t, "a later result of "+name, of(argument), want)
}

func TestMasksShareNoMemory(t *testing.T) {
	for _, list := range append(someLists(), wrongLists()...) {
		for _, key := range []int{-1, 0, 1, 500, lastElement, impl.Group} {
			checkApart(t, "MaskOn", list, func(l []int) []int { return impl.MaskOn(l, key) })
			checkApart(t, "MaskOff", list, func(l []int) []int { return impl.MaskOff(l, key) })
			checkApart(t, "StreamOf", list, func(l []int) []int { return impl.StreamOf(key, len(l)) })
		}
	}
}

func TestPromise9MaskOffUndoesMaskOn(t *testing.T) {
	lists := someLists()
	for first := 0; first < impl.Numbers; first += 90 {
		lists = append(lists, listOf(impl.MaxList, first, 41))
	}
	for key := 1; key <= lastElement; key++ {
		for _, list := range lists {
			checkNumbers(t, "MaskOff of MaskOn", impl.MaskOff(impl.MaskOn(list, key), key), list)
			checkNumbers(t, "MaskOn of MaskOff", impl.MaskOn(impl.MaskOff(list, key), key), list)
		}
	}
}

func TestPromise9EachNumberAtEachPlace(t *testing.T) {
	for _, key := range someElements {
		for number := range impl.Numbers {
			list := listOf(impl.MaxList, number, 0)
			checkNumbers(t, "MaskOff of MaskOn", impl.MaskOff(impl.MaskOn(list, key), key), list)
			checkNumbers(t, "MaskOn of MaskOff", impl.MaskOn(impl.MaskOff(list, key), key), list)
		}
	}
}

func TestPromise10KeysInEitherOrder(t *testing.T) {
	lists := [][]int{nil, {0}, {lastNumber}, listOf(2, lastNumber, 1), listOf(impl.MaxList, 0, 0), listOf(impl.MaxList, lastNumber, 0), listOf(impl.MaxList, 497, 131)}
	for _, list := range lists {
		for _, one := range someElements {
			for two := 1; two <= lastElement; two++ {
				on, off := impl.MaskOn(impl.MaskOn(list, one), two), impl.MaskOff(impl.MaskOff(list, one), two)
				if len(on) != len(list) || len(off) != len(list) {
					t.Fatalf("the keys %d and %d leave %d and %d of %d numbers", one, two, len(on), len(off), len(list))
				}
				checkNumbers(t, "MaskOn with two keys", impl.MaskOn(impl.MaskOn(list, two), one), on)
				checkNumbers(t, "MaskOff with two keys", impl.MaskOff(impl.MaskOff(list, two), one), off)
			}
		}
	}
}

func TestPromise11MaskOnOfZerosIsTheStream(t *testing.T) {
	for key := 1; key <= lastElement; key++ {
		for n := 0; n <= impl.MaxList; n++ {
			zeros, stream := make([]int, n), impl.StreamOf(key, n)
			if len(stream) != n {
				t.Fatalf("StreamOf(%d, %d) has %d numbers", key, n, len(stream))
			}
			checkNumbers(t, "MaskOn of zeros", impl.MaskOn(zeros, key), stream)
			checkNumbers(t, "MaskOff of StreamOf", impl.MaskOff(stream, key), zeros)
		}
	}
}

func TestPromise12OneChangedNumberChangesOnlyItself(t *testing.T) {
	for _, list := range [][]int{{0}, {lastNumber}, {3, 4}, listOf(impl.MaxList, 0, 0), listOf(impl.MaxList, lastNumber, 0), listOf(impl.MaxList, 497, 131)} {
		for _, key := range someElements {
			for place := range list {
				checkOnePlace(t, list, key, place)
			}
		}
	}
}

func checkOnePlace(t *testing.T, list []int, key, place int) {
	t.Helper()
	before, changed := impl.MaskOn(list, key), slices.Clone(list)
	if len(before) != len(list) {
		t.Fatalf("MaskOn(%v, %d) has %d numbers", list, key, len(before))
	}
	for number := range impl.Numbers {
		changed[place] = number
		after := impl.MaskOn(changed, key)
		if len(after) != len(before) || (after[place] == before[place]) != (number == list[place]) {
			t.Fatalf("key %d: %v gives %v, and %v gives %v", key, list, before, changed, after)
		}
		after[place] = before[place]
		checkNumbers(t, "MaskOn at the other places", after, before)
	}
}

func TestPromise13MasksKeepLengthAndRange(t *testing.T) {
	for _, list := range someLists() {
		for key := 1; key <= lastElement; key++ {
			checkKept(t, "MaskOn", list, impl.MaskOn(list, key))
			checkKept(t, "MaskOff", list, impl.MaskOff(list, key))
		}
	}
}

func checkKept(t *testing.T, name string, list, masked []int) {
	t.Helper()
	if len(masked) != len(list) {
		t.Fatalf("%s of %v has %d numbers", name, list, len(masked))
	}
	for _, number := range masked {
		if number < 0 || number > lastNumber {
			t.Fatalf("%s of %v has the number %d", name, list, number)
		}
	}
}

func TestPromise14ShorterStreamsBeginLongerOnes(t *testing.T) {
	for key := 1; key <= lastElement; key++ {
		longest := impl.StreamOf(key, impl.MaxList)
		if len(longest) != impl.MaxList {
			t.Fatalf("StreamOf(%d, %d) has %d numbers", key, impl.MaxList, len(longest))
		}
		for n := 0; n <= impl.MaxList; n++ {
			checkNumbers(t, "StreamOf fewer numbers", impl.StreamOf(key, n), longest[:n])
		}
	}
}

func TestPromise15TheFirstTwoNumbersTellKeysApart(t *testing.T) {
	streams := make([][]int, impl.Group)
	for key := 1; key <= lastElement; key++ {
		streams[key] = impl.StreamOf(key, 2)
		if len(streams[key]) != 2 {
			t.Fatalf("StreamOf(%d, 2) has %d numbers", key, len(streams[key]))
		}
	}
	for one := 1; one <= lastElement; one++ {
		for two := 1; two <= lastElement; two++ {
			same := one%impl.Numbers == two%impl.Numbers
			if (streams[one][0] == streams[two][0]) != same || (streams[one][1] == streams[two][1]) != same {
				t.Fatalf("the streams of %d and %d begin with %v and %v", one, two, streams[one], streams[two])
			}
		}
	}
}
