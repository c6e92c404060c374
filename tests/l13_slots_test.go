package tests

import (
	"math"
	"slices"
	"testing"

	"loop.example/mixrelay/impl"
)

const finalEpoch = 99

// wrongEpochs has the neighbours of both ends, and numbers whose lower bits would be in range.
var wrongEpochs = []int{-1, -2, -3, -finalEpoch, -100, 100, 101, 102, 198, 1 << 32, 1<<32 + 4, -1 << 32, -1<<32 + 4, math.MaxInt - 1, math.MaxInt, math.MinInt, math.MinInt + 1, math.MinInt + 4}

// someEpochs has both ends, where slots stand for epochs before 0 or no turn is left, and epochs between.
var someEpochs = []int{0, 1, 2, 3, 4, 50, 96, 97, 98, 99}

func cacheOf(epoch int, slots ...[]int) impl.Cache {
	return impl.Cache{Epoch: epoch, Slots: slots}
}

// someSlots has empty and full slots and those between, with both ends of the range of keys.
func someSlots() [][]int {
	return [][]int{nil, {1}, {lastElement}, {1, 30, 500, lastElement}, {2, 10, 20, 30, 40}, {1, 2, 3, 994, 995, lastElement}, {10, 20, 30, 40, 50, 60}}
}

// validCaches has all choices of three of someSlots, in each of someEpochs.
func validCaches() []impl.Cache {
	var caches []impl.Cache
	for _, epoch := range someEpochs {
		for _, a := range someSlots() {
			for _, b := range someSlots() {
				for _, c := range someSlots() {
					caches = append(caches, cacheOf(epoch, a, b, c))
				}
			}
		}
	}
	return caches
}

// fewCaches has some of validCaches.
func fewCaches() []impl.Cache {
	var few []impl.Cache
	for i, c := range validCaches() {
		if i%11 == 0 {
			few = append(few, c)
		}
	}
	return few
}

// epochsFor has all epochs around those that a cache remembers, and around both ends.
func epochsFor(c impl.Cache) []int {
	epochs := []int{-4, -3, -2, -1, 0, 1, 2, 3, 97, 98, 99, 100, 101}
	for step := -2 * impl.Slots; step <= 2*impl.Slots; step++ {
		epochs = append(epochs, c.Epoch+step)
	}
	return append(epochs, c.Epoch-256, c.Epoch+1<<32, c.Epoch-1<<32, math.MinInt, math.MinInt+c.Epoch, math.MaxInt, math.MaxInt-c.Epoch, -c.Epoch)
}

// keysFor has the keys of a cache with their neighbours, and both ends of the range.
func keysFor(c impl.Cache) []int {
	keys := []int{1, 2, 35, 500, lastElement - 1, lastElement}
	for _, slot := range c.Slots {
		for _, key := range slot {
			keys = append(keys, max(key-1, 1), key, min(key+1, lastElement))
		}
	}
	slices.Sort(keys)
	return slices.Compact(keys)
}

// placeOf has the index of the slot of an epoch, or -1 if the epoch is not remembered.
func placeOf(c impl.Cache, epoch int) int {
	for back := range impl.Slots {
		if epoch >= 0 && epoch == c.Epoch-back {
			return impl.Slots - 1 - back
		}
	}
	return -1
}

func keysIn(c impl.Cache, epoch int) []int {
	if place := placeOf(c, epoch); place >= 0 {
		return c.Slots[place]
	}
	return nil
}

// codeFor has the code that the document asks for, for a valid cache and key.
func codeFor(c impl.Cache, epoch, key int) int {
	keys := keysIn(c, epoch)
	switch {
	case placeOf(c, epoch) < 0:
		return impl.TakeWrong
	case slices.Contains(keys, key):
		return impl.TakeReplay
	case len(keys) == impl.MaxSlot:
		return impl.TakeFull
	}
	return impl.TakeDone
}

func copyOfCache(c impl.Cache) impl.Cache {
	slots := slices.Clone(c.Slots)
	for i := range slots {
		slots[i] = slices.Clone(slots[i])
	}
	return cacheOf(c.Epoch, slots...)
}

func sameCache(a, b impl.Cache) bool {
	return a.Epoch == b.Epoch && slices.EqualFunc(a.Slots, b.Slots, slices.Equal)
}

func checkCache(t *testing.T, name string, got, want impl.Cache) {
	t.Helper()
	if !sameCache(got, want) {
		t.Fatalf("%s is %v, want %v", name, got, want)
	}
}

func checkValidCache(t *testing.T, c impl.Cache) {
	t.Helper()
	if !impl.CacheValid(c) {
		t.Fatalf("CacheValid(%v) is false", c)
	}
}

func newCache(t *testing.T, epoch int) impl.Cache {
	t.Helper()
	c, ok := impl.CacheNew(epoch)
	if !ok {
		t.Fatalf("CacheNew(%d) fails", epoch)
	}
	return c
}

func checkKeys(t *testing.T, c impl.Cache, epoch int, want ...int) {
	t.Helper()
	if got := impl.CacheKeys(c, epoch); !slices.Equal(got, want) {
		t.Fatalf("CacheKeys(%v, %d) is %v, want %v", c, epoch, got, want)
	}
}

// checkAddKey fails unless CacheAdd returns a code, and the cache that belongs to it.
func checkAddKey(t *testing.T, c impl.Cache, epoch, key, code int) impl.Cache {
	t.Helper()
	want := copyOfCache(c)
	switch code {
	case impl.TakeInvalid:
		want = impl.Cache{}
	case impl.TakeDone:
		keys := append(want.Slots[placeOf(c, epoch)], key)
		slices.Sort(keys)
		want.Slots[placeOf(c, epoch)] = keys
	}
	got, gotCode := impl.CacheAdd(c, epoch, key)
	if gotCode != code || !sameCache(got, want) {
		t.Fatalf("CacheAdd(%v, %d, %d) is %v and %d, want %v and %d", c, epoch, key, got, gotCode, want, code)
	}
	return got
}

func checkTurn(t *testing.T, c, want impl.Cache, wantOK bool) impl.Cache {
	t.Helper()
	got, ok := impl.CacheTurn(c)
	if ok != wantOK || !sameCache(got, want) {
		t.Fatalf("CacheTurn(%v) is %v and %v, want %v and %v", c, got, ok, want, wantOK)
	}
	return got
}

// checkInvalidCache fails if a cache is valid, or if a function returns anything for it but zero values. The keys are
// those of the cache, further ones, and invalid ones.
func checkInvalidCache(t *testing.T, c impl.Cache) {
	t.Helper()
	if impl.CacheValid(c) {
		t.Fatalf("CacheValid(%v) is true", c)
	}
	keys := []int{1, 35, lastElement, 0, impl.Group}
	for _, slot := range c.Slots {
		keys = append(keys, slot...)
	}
	for _, epoch := range []int{c.Epoch, c.Epoch - 1, c.Epoch - 2, c.Epoch - 3, c.Epoch + 1, -1, 0, 4, finalEpoch, 100} {
		for _, key := range keys {
			checkAddKey(t, c, epoch, key, impl.TakeInvalid)
		}
		checkKeys(t, c, epoch)
	}
	checkTurn(t, c, impl.Cache{}, false)
}

func TestCacheConstants(t *testing.T) {
	if impl.Slots != 3 || impl.MaxSlot != 6 {
		t.Errorf("Slots and MaxSlot are %d and %d, want 3 and 6", impl.Slots, impl.MaxSlot)
	}
}

// The caches and codes are written out, so that they are not only checked by functions of these tests.
func TestCacheAddAndTurnValues(t *testing.T) {
	c, ok := impl.CacheNew(1)
	checkCache(t, "CacheNew", c, cacheOf(1, nil, nil, nil))
	for i, s := range []struct {
		turn       bool
		epoch, key int
		code       int
		want       impl.Cache
	}{
		{epoch: 1, key: 40, code: impl.TakeDone, want: cacheOf(1, nil, nil, []int{40})},
		{epoch: 1, key: 7, code: impl.TakeDone, want: cacheOf(1, nil, nil, []int{7, 40})},
		{epoch: 0, key: 40, code: impl.TakeDone, want: cacheOf(1, nil, []int{40}, []int{7, 40})},
		{epoch: 0, key: 40, code: impl.TakeReplay, want: cacheOf(1, nil, []int{40}, []int{7, 40})},
		{epoch: 2, key: 40, code: impl.TakeWrong, want: cacheOf(1, nil, []int{40}, []int{7, 40})},
		{epoch: -1, key: 40, code: impl.TakeWrong, want: cacheOf(1, nil, []int{40}, []int{7, 40})},
		{turn: true, want: cacheOf(2, []int{40}, []int{7, 40}, nil)},
		{epoch: 2, key: 996, code: impl.TakeDone, want: cacheOf(2, []int{40}, []int{7, 40}, []int{996})},
		{epoch: 0, key: 1, code: impl.TakeDone, want: cacheOf(2, []int{1, 40}, []int{7, 40}, []int{996})},
		{epoch: 1, key: 20, code: impl.TakeDone, want: cacheOf(2, []int{1, 40}, []int{7, 20, 40}, []int{996})},
		{turn: true, want: cacheOf(3, []int{7, 20, 40}, []int{996}, nil)},
		{epoch: 0, key: 9, code: impl.TakeWrong, want: cacheOf(3, []int{7, 20, 40}, []int{996}, nil)},
		{epoch: 1, key: 20, code: impl.TakeReplay, want: cacheOf(3, []int{7, 20, 40}, []int{996}, nil)},
		{epoch: 3, key: 0, code: impl.TakeInvalid, want: impl.Cache{}},
	} {
		code := 0
		if s.turn {
			c, ok = impl.CacheTurn(c)
		} else {
			c, code = impl.CacheAdd(c, s.epoch, s.key)
		}
		if !ok || code != s.code {
			t.Fatalf("step %d returns %v and %d, want %d", i, ok, code, s.code)
		}
		checkCache(t, "the cache behind a step", c, s.want)
	}
}

// A slot gets keys at all its places until it is full.
func TestCacheAddUpToFullValues(t *testing.T) {
	c := newCache(t, 4)
	for i, key := range []int{30, 10, 50, 20, 40, 45} {
		var code int
		if c, code = impl.CacheAdd(c, 3, key); code != impl.TakeDone {
			t.Fatalf("key %d returns %d", i, code)
		}
	}
	full := cacheOf(4, nil, []int{10, 20, 30, 40, 45, 50}, nil)
	checkCache(t, "the full cache", c, full)
	for key, code := range map[int]int{1: impl.TakeFull, 25: impl.TakeFull, lastElement: impl.TakeFull, 10: impl.TakeReplay, 45: impl.TakeReplay, 50: impl.TakeReplay} {
		if got, gotCode := impl.CacheAdd(c, 3, key); gotCode != code || !sameCache(got, full) {
			t.Errorf("CacheAdd of %d to the full slot is %v and %d, want %d", key, got, gotCode, code)
		}
	}
}

func TestPromise65NewCaches(t *testing.T) {
	for epoch := range finalEpoch + 1 {
		c := newCache(t, epoch)
		checkValidCache(t, c)
		checkCache(t, "CacheNew", c, cacheOf(epoch, nil, nil, nil))
		for other := -10; other <= finalEpoch+10; other++ {
			checkKeys(t, c, other)
		}
		for _, other := range epochsFor(c) {
			checkKeys(t, c, other)
		}
	}
}

func TestPromise65WrongEpochs(t *testing.T) {
	for _, epoch := range wrongEpochs {
		if c, ok := impl.CacheNew(epoch); ok || !sameCache(c, impl.Cache{}) {
			t.Fatalf("CacheNew(%d) is %v and %v, want the zero value and false", epoch, c, ok)
		}
	}
}

func TestValidCaches(t *testing.T) {
	for _, c := range validCaches() {
		checkValidCache(t, c)
	}
	for key := 1; key <= lastElement; key++ {
		checkValidCache(t, cacheOf(4, nil, []int{key}, nil))
		if key > 1 {
			checkValidCache(t, cacheOf(0, []int{key - 1, key}, []int{1, key}, nil))
		}
	}
}

func TestCachesOfWrongEpochs(t *testing.T) {
	for _, epoch := range wrongEpochs {
		checkInvalidCache(t, cacheOf(epoch, nil, nil, nil))
		checkInvalidCache(t, cacheOf(epoch, []int{30}, []int{1, 2, 3, 4, 5, 6}, []int{lastElement}))
	}
}

func TestCachesOfOtherNumbersOfSlots(t *testing.T) {
	for _, epoch := range someEpochs {
		for _, slot := range someSlots() {
			for number := range 3 * impl.Slots {
				slots := slices.Repeat([][]int{slot}, number)
				if number == impl.Slots {
					checkValidCache(t, cacheOf(epoch, slots...))
				} else {
					checkInvalidCache(t, cacheOf(epoch, slots...))
				}
			}
		}
	}
	checkInvalidCache(t, impl.Cache{})
}

// withSlot has some caches with a slot at each place, also at places that stand for epochs before 0.
func withSlot(slot []int) []impl.Cache {
	var caches []impl.Cache
	for _, epoch := range []int{0, 1, 2, 50, finalEpoch} {
		for place := range impl.Slots {
			empty := cacheOf(epoch, nil, nil, nil)
			empty.Slots[place] = slot
			full := cacheOf(epoch, someKeysInOrder(impl.MaxSlot), someKeysInOrder(impl.MaxSlot), someKeysInOrder(impl.MaxSlot))
			full.Slots[place] = slot
			caches = append(caches, empty, full)
		}
	}
	return caches
}

// someKeysInOrder has keys from both ends of the range.
func someKeysInOrder(length int) []int {
	keys := someKeys(length, 0)
	slices.Sort(keys)
	return keys
}

func TestCachesWithTooManyKeys(t *testing.T) {
	for length := impl.MaxSlot + 1; length <= 4*impl.MaxSlot; length++ {
		for _, slot := range [][]int{someKeysInOrder(length), listOf(length, 1, 1), listOf(length, 500, 20)} {
			for _, c := range withSlot(slot) {
				checkInvalidCache(t, c)
			}
		}
	}
}

func TestCachesWithKeysOutOfRange(t *testing.T) {
	for length := 1; length <= impl.MaxSlot; length++ {
		for place := range length {
			for _, wrong := range outOfRange {
				slot := listOf(length, 10, 10)
				slot[place] = wrong
				for _, c := range withSlot(slot) {
					checkInvalidCache(t, c)
				}
			}
		}
		for _, c := range withSlot(append(listOf(length-1, 10, 10), impl.Group)) {
			checkInvalidCache(t, c)
		}
		for _, c := range withSlot(append([]int{0}, listOf(length-1, 10, 10)...)) {
			checkInvalidCache(t, c)
		}
	}
}

// Each pair of neighbours may be in the wrong order or equal.
func TestCachesOutOfOrder(t *testing.T) {
	for length := 2; length <= impl.MaxSlot; length++ {
		for place := 1; place < length; place++ {
			swapped, equal := listOf(length, 10, 10), listOf(length, 10, 10)
			swapped[place], swapped[place-1] = swapped[place-1], swapped[place]
			equal[place] = equal[place-1]
			for _, slot := range [][]int{swapped, equal} {
				for _, c := range withSlot(slot) {
					checkInvalidCache(t, c)
				}
			}
		}
		reverse := listOf(length, 10, 10)
		slices.Reverse(reverse)
		for _, slot := range [][]int{reverse, slices.Repeat([]int{10}, length)} {
			for _, c := range withSlot(slot) {
				checkInvalidCache(t, c)
			}
		}
	}
}

// Exactly the pairs that ascend are valid.
func TestCachesWithAllPairs(t *testing.T) {
	for a := 1; a <= lastElement; a++ {
		for b := 1; b <= lastElement; b++ {
			c := cacheOf(3, nil, nil, []int{a, b})
			if impl.CacheValid(c) != (a < b) {
				t.Fatalf("CacheValid(%v) is %v", c, a >= b)
			}
		}
	}
}

// Nil and empty slices are the same.
func TestCachesOfNothing(t *testing.T) {
	for _, slot := range [][]int{nil, {}, []int{7, 7}[:0]} {
		for _, epoch := range someEpochs {
			c := cacheOf(epoch, slot, slot, slot)
			checkValidCache(t, c)
			checkKeys(t, c, epoch)
			checkAddKey(t, c, epoch, 30, impl.TakeDone)
			checkAddKey(t, c, epoch+1, 30, impl.TakeWrong)
			checkTurn(t, c, cacheOf(min(epoch+1, finalEpoch), nil, nil, nil), epoch < finalEpoch)
		}
	}
	for _, slots := range [][][]int{nil, {}, make([][]int, impl.Slots)[:0]} {
		checkInvalidCache(t, cacheOf(4, slots...))
	}
}

func TestPromise66KeysOfAllEpochs(t *testing.T) {
	done := 0
	for _, c := range fewCaches() {
		for _, epoch := range epochsFor(c) {
			for _, key := range keysFor(c) {
				got, code := impl.CacheAdd(c, epoch, key)
				if code != impl.TakeDone {
					continue
				}
				done++
				checkValidCache(t, got)
				for _, other := range epochsFor(c) {
					want := slices.Clone(impl.CacheKeys(c, other))
					if other == epoch {
						want = append(want, key)
						slices.Sort(want)
					}
					checkKeys(t, got, other, want...)
				}
			}
		}
	}
	if done < 10000 {
		t.Errorf("%d keys were added", done)
	}
}

// All keys are added to slots with each number of keys.
func TestPromise66AllKeys(t *testing.T) {
	for length := range impl.MaxSlot {
		for key := 1; key <= lastElement; key++ {
			slot := someKeys(length, key)
			slices.Sort(slot)
			for back := range impl.Slots {
				c := cacheOf(4, slot, slot, slot)
				got := checkAddKey(t, c, 4-back, key, impl.TakeDone)
				keys := append(slices.Clone(slot), key)
				slices.Sort(keys)
				checkKeys(t, got, 4-back, keys...)
			}
		}
	}
}

func TestPromise67TheSameKey(t *testing.T) {
	for _, c := range validCaches() {
		for back := range impl.Slots {
			for _, key := range []int{1, 5, 35, 700, lastElement} {
				epoch := c.Epoch - back
				got, code := impl.CacheAdd(c, epoch, key)
				if code == impl.TakeDone {
					checkAddKey(t, got, epoch, key, impl.TakeReplay)
				}
			}
		}
	}
}

// A key is a replay as long as its epoch is remembered, also when its slot became full, and in no other epoch.
func TestPromise67BehindOtherKeysAndTurns(t *testing.T) {
	for _, first := range []int{0, 1, 50, finalEpoch - impl.Slots} {
		c := checkAddKey(t, newCache(t, first), first, 35, impl.TakeDone)
		for i := range impl.MaxSlot - 1 {
			c = checkAddKey(t, c, first, 10+10*i, impl.TakeDone)
		}
		for turns := range impl.Slots {
			checkAddKey(t, c, first, 35, impl.TakeReplay)
			checkAddKey(t, c, first, 36, impl.TakeFull)
			if turns > 0 {
				checkAddKey(t, c, first+turns, 35, impl.TakeDone)
			}
			c, _ = impl.CacheTurn(c)
		}
		checkAddKey(t, c, first, 35, impl.TakeWrong)
		checkAddKey(t, c, first, 36, impl.TakeWrong)
	}
}

func TestPromise68AllCodes(t *testing.T) {
	codes := map[int]int{}
	for _, c := range fewCaches() {
		for _, epoch := range epochsFor(c) {
			for _, key := range keysFor(c) {
				code := codeFor(c, epoch, key)
				codes[code]++
				checkAddKey(t, c, epoch, key, code)
			}
		}
	}
	for _, code := range []int{impl.TakeDone, impl.TakeReplay, impl.TakeWrong, impl.TakeFull} {
		if codes[code] < 1000 {
			t.Errorf("the numbers of codes are %v", codes)
		}
	}
}

func TestPromise68AllEpochs(t *testing.T) {
	for epoch := range finalEpoch + 1 {
		c := cacheOf(epoch, []int{30}, []int{30, 40}, []int{30, 50})
		for other := -10; other <= finalEpoch+10; other++ {
			checkAddKey(t, c, other, 35, codeFor(c, other, 35))
			checkAddKey(t, c, other, 30, codeFor(c, other, 30))
		}
	}
}

// The epochs that are not remembered are written out: the one before the oldest one that is, also before 0, the one
// behind the last one, and those that are far away, with keys that the cache has and that it lacks.
func TestPromise68EpochsThatAreNotRemembered(t *testing.T) {
	full := []int{10, 20, 30, 40, 50, 60}
	for epoch, others := range map[int][]int{
		0: {-3, -2, -1, 1, 2, 3, 99}, 1: {-2, -1, 2, 3, 4}, 2: {-1, 3, 4, 5}, 3: {-1, 0, 4, 5, 6}, 4: {-1, 0, 1, 5, 6, 7},
		50: {0, 1, 46, 47, 51, 52, 53, 99}, 98: {94, 95, 99, 100, 101}, 99: {0, 95, 96, 100, 101, 102},
	} {
		for _, c := range []impl.Cache{cacheOf(epoch, nil, nil, nil), cacheOf(epoch, full, full, full), cacheOf(epoch, []int{30}, []int{1, 30}, []int{2, 30})} {
			for _, other := range append(others, wrongEpochs...) {
				for _, key := range []int{1, 30, 35, lastElement} {
					checkAddKey(t, c, other, key, impl.TakeWrong)
				}
				checkKeys(t, c, other)
			}
		}
	}
}

func TestOldestEpochThatIsRemembered(t *testing.T) {
	for epoch, oldest := range map[int]int{0: 0, 1: 0, 2: 0, 3: 1, 4: 2, 50: 48, 98: 96, 99: 97} {
		c := cacheOf(epoch, []int{30}, []int{30}, []int{30})
		for other := oldest; other <= epoch; other++ {
			checkKeys(t, c, other, 30)
			checkAddKey(t, c, other, 30, impl.TakeReplay)
			checkAddKey(t, c, other, 35, impl.TakeDone)
		}
	}
}

// A full slot has the key or lacks it; the other slots do not matter.
func TestPromise68FullSlots(t *testing.T) {
	full := []int{10, 20, 30, 40, 50, 60}
	for place := range impl.Slots {
		for _, other := range [][]int{nil, {35}, {30, 35}, full, {1, 2, 3, 4, 5, 35}} {
			c := cacheOf(4, other, other, other)
			c.Slots[place] = full
			epoch := 4 - (impl.Slots - 1 - place)
			for _, key := range full {
				checkAddKey(t, c, epoch, key, impl.TakeReplay)
			}
			for _, key := range []int{1, 9, 11, 35, 59, 61, lastElement} {
				checkAddKey(t, c, epoch, key, impl.TakeFull)
			}
		}
	}
}

// A key that only another epoch has is no replay.
func TestKeysOfOtherEpochs(t *testing.T) {
	for place := range impl.Slots {
		c := cacheOf(4, nil, nil, nil)
		c.Slots[place] = []int{30, 40}
		for back := range impl.Slots {
			code := impl.TakeDone
			if impl.Slots-1-back == place {
				code = impl.TakeReplay
			}
			checkAddKey(t, c, 4-back, 30, code)
			checkAddKey(t, c, 4-back, 40, code)
		}
	}
}

// Invalid keys are checked first, also for epochs that are not remembered and for full slots.
func TestPromise68WrongKeys(t *testing.T) {
	for _, c := range fewCaches() {
		for _, epoch := range []int{c.Epoch, c.Epoch - 1, c.Epoch - 2, c.Epoch - 3, c.Epoch + 1, -1, 100, math.MinInt} {
			for _, key := range outOfRange {
				checkAddKey(t, c, epoch, key, impl.TakeInvalid)
			}
		}
	}
}

// keyOf is a key of an epoch.
type keyOf struct{ epoch, key int }

// checkCachesAlike fails if a cache depends on the order in which two keys are added, and reports whether both were.
func checkCachesAlike(t *testing.T, c impl.Cache, one, two keyOf) bool {
	t.Helper()
	first, a := impl.CacheAdd(c, one.epoch, one.key)
	first, b := impl.CacheAdd(first, two.epoch, two.key)
	if a != impl.TakeDone || b != impl.TakeDone {
		return false
	}
	second, a := impl.CacheAdd(c, two.epoch, two.key)
	second, b = impl.CacheAdd(second, one.epoch, one.key)
	if a != impl.TakeDone || b != impl.TakeDone || !sameCache(first, second) {
		t.Fatalf("%v and %v of %v give %v, or %v, %d and %d in the other order", one, two, c, first, second, a, b)
	}
	return true
}

func TestPromise69EitherOrder(t *testing.T) {
	keys, added := []int{1, 15, 35, 36, 700, lastElement}, 0
	for _, c := range fewCaches() {
		for choice := range impl.Slots * impl.Slots {
			for _, a := range keys {
				for _, b := range keys {
					if checkCachesAlike(t, c, keyOf{c.Epoch - choice%impl.Slots, a}, keyOf{c.Epoch - choice/impl.Slots, b}) {
						added++
					}
				}
			}
		}
	}
	if added < 10000 {
		t.Errorf("%d pairs of keys were added", added)
	}
}

// All orders of as many keys as a slot has give the same cache.
func TestPromise69AllOrdersOfSixKeys(t *testing.T) {
	want := []int{1, 2, 30, 500, 995, lastElement}
	for _, keys := range permutations(want) {
		c := newCache(t, 7)
		for _, key := range keys {
			c = checkAddKey(t, c, 6, key, impl.TakeDone)
		}
		checkCache(t, "the cache of six keys", c, cacheOf(7, nil, want, nil))
	}
}

func TestPromise70AllCaches(t *testing.T) {
	for _, c := range validCaches() {
		if c.Epoch == finalEpoch {
			checkTurn(t, c, c, false)
			continue
		}
		got := checkTurn(t, c, cacheOf(c.Epoch+1, c.Slots[1], c.Slots[2], nil), true)
		checkValidCache(t, got)
	}
}

// The epochs are found by CacheKeys and CacheAdd.
func TestPromise70KeysOfAllEpochs(t *testing.T) {
	for _, c := range fewCaches() {
		got, ok := impl.CacheTurn(c)
		if ok == (c.Epoch == finalEpoch) {
			t.Fatalf("CacheTurn(%v) returns %v", c, ok)
		}
		if !ok {
			continue
		}
		for _, epoch := range epochsFor(c) {
			if epoch == c.Epoch-impl.Slots+1 {
				checkKeys(t, got, epoch)
				checkAddKey(t, got, epoch, 35, impl.TakeWrong)
			} else {
				checkKeys(t, got, epoch, impl.CacheKeys(c, epoch)...)
			}
		}
		checkKeys(t, got, c.Epoch+1)
		checkAddKey(t, c, c.Epoch+1, 35, impl.TakeWrong)
		checkAddKey(t, got, c.Epoch+1, 35, impl.TakeDone)
	}
}

func TestPromise70AllEpochs(t *testing.T) {
	for epoch := range finalEpoch {
		checkTurn(t, cacheOf(epoch, []int{1}, []int{2}, []int{3, 4}), cacheOf(epoch+1, []int{2}, []int{3, 4}, nil), true)
	}
	last := cacheOf(finalEpoch, []int{1}, []int{2}, []int{3, 4})
	checkTurn(t, checkTurn(t, last, last, false), last, false)
}

func TestPromise71NoKeysAreLeft(t *testing.T) {
	for _, c := range validCaches() {
		if c.Epoch > finalEpoch-impl.Slots {
			continue
		}
		turned := c
		for range impl.Slots {
			turned, _ = impl.CacheTurn(turned)
		}
		checkCache(t, "the cache behind all turns", turned, cacheOf(c.Epoch+impl.Slots, nil, nil, nil))
		for _, epoch := range append(epochsFor(c), epochsFor(turned)...) {
			checkKeys(t, turned, epoch)
		}
	}
}

// One turn less leaves the keys of the last epoch, and so do turns that fail at the end of all epochs.
func TestPromise71KeysOfTheLastEpoch(t *testing.T) {
	for epoch := range finalEpoch + 1 {
		c := cacheOf(epoch, []int{1}, []int{2}, []int{3})
		for turns := range impl.Slots + 3 {
			if turns < impl.Slots || epoch > finalEpoch-impl.Slots {
				checkKeys(t, c, epoch, 3)
			} else {
				checkKeys(t, c, epoch)
			}
			c, _ = impl.CacheTurn(c)
		}
	}
}

func checkAscending(t *testing.T, c impl.Cache, epoch int) int {
	t.Helper()
	keys := impl.CacheKeys(c, epoch)
	if len(keys) > impl.MaxSlot {
		t.Fatalf("CacheKeys(%v, %d) has %d keys", c, epoch, len(keys))
	}
	for i, key := range keys {
		if !inRange(key) || i > 0 && keys[i-1] >= key {
			t.Fatalf("CacheKeys(%v, %d) is %v", c, epoch, keys)
		}
	}
	return len(keys)
}

func TestPromise72AllCaches(t *testing.T) {
	for _, c := range validCaches() {
		for _, epoch := range epochsFor(c) {
			checkKeys(t, c, epoch, keysIn(c, epoch)...)
			checkAscending(t, c, epoch)
		}
	}
}

// Caches live through all epochs, while keys are added that look random. What they have to remember is kept apart,
// as a table of all epochs and keys.
func TestPromise72WholeLives(t *testing.T) {
	next, lengths := chosen(), map[int]int{}
	for round := range 60 {
		first, below := next(finalEpoch+1)/2, []int{3, 9, 40, lastElement}[round%4]
		c := newCache(t, first)
		var keys [finalEpoch + 1][impl.Group]bool
		for epoch := first; epoch <= finalEpoch; epoch++ {
			for range next(4 * impl.MaxSlot) {
				other, key := epoch+1-next(impl.Slots+2), 1+next(below)
				code := codeFor(c, other, key)
				if code == impl.TakeReplay != (other >= 0 && other <= epoch && other > epoch-impl.Slots && keys[other][key]) {
					t.Fatalf("the tables differ at key %d of epoch %d", key, other)
				}
				if c = checkAddKey(t, c, other, key, code); code == impl.TakeDone {
					keys[other][key] = true
				}
			}
			for other := range finalEpoch + 1 {
				lengths[checkAscending(t, c, other)]++
				var want []int
				for key, has := range keys[other] {
					if has && other > epoch-impl.Slots {
						want = append(want, key)
					}
				}
				checkKeys(t, c, other, want...)
			}
			c, _ = impl.CacheTurn(c)
		}
	}
	for length := range impl.MaxSlot + 1 {
		if lengths[length] < 100 {
			t.Errorf("the numbers of keys of epochs are %v", lengths)
		}
	}
}

func TestPromise73LaterAndForgottenEpochs(t *testing.T) {
	for _, c := range validCaches() {
		for step := 1; step <= 5; step++ {
			checkKeys(t, c, c.Epoch+step)
			checkKeys(t, c, c.Epoch-impl.Slots+1-step)
		}
		for _, epoch := range append([]int{math.MinInt + c.Epoch, math.MaxInt - c.Epoch, c.Epoch + 1<<32, c.Epoch - 1<<32}, wrongEpochs...) {
			checkKeys(t, c, epoch)
		}
	}
}

// Keys may be in slots that stand for epochs before 0, as the document does not forbid it. These epochs are not
// remembered, but the slots are kept until they are removed.
func TestSlotsOfEpochsBefore0(t *testing.T) {
	c := cacheOf(0, []int{1, 30}, []int{2, 30}, []int{3, 30})
	checkValidCache(t, c)
	for _, epoch := range []int{-2, -1} {
		checkKeys(t, c, epoch)
		for _, key := range []int{1, 2, 3, 30, 35} {
			checkAddKey(t, c, epoch, key, impl.TakeWrong)
		}
	}
	checkKeys(t, c, 0, 3, 30)
	checkAddKey(t, c, 0, 30, impl.TakeReplay)
	checkAddKey(t, c, 0, 1, impl.TakeDone)
	c = checkTurn(t, c, cacheOf(1, []int{2, 30}, []int{3, 30}, nil), true)
	checkKeys(t, c, -1)
	checkAddKey(t, c, -1, 2, impl.TakeWrong)
	checkAddKey(t, c, 0, 2, impl.TakeDone)
	checkTurn(t, c, cacheOf(2, []int{3, 30}, nil, nil), true)
}

// laidOutCache has a cache whose slots lie behind each other in one memory, with space behind them, so that appending
// to one of them would change another one.
type laidOutCache struct {
	cache impl.Cache
	keys  []int
	slots [][]int
}

func layOut(c impl.Cache) laidOutCache {
	l := laidOutCache{keys: slices.Concat(slices.Concat(c.Slots...), listOf(impl.MaxList, 17, 29))}
	rest := l.keys
	for _, slot := range c.Slots {
		l.slots = append(l.slots, rest[:len(slot)])
		rest = rest[len(slot):]
	}
	l.slots = append(l.slots, rest[:3], rest[3:5])
	l.cache = impl.Cache{Epoch: c.Epoch, Slots: l.slots[:len(c.Slots)]}
	return l
}

// spoilLists overwrites all lists of a result up to their capacity, each with a mark of its own, and then the result. It
// fails if a list does not keep its mark, since another one shares its memory.
func spoilLists(t *testing.T, name string, lists [][]int) {
	t.Helper()
	for place, list := range lists {
		for i := range list[:cap(list)] {
			list[:cap(list)][i] = -7 - place
		}
	}
	for place, list := range lists {
		for _, number := range list[:cap(list)] {
			if number != -7-place {
				t.Fatalf("two lists of a result of %s share memory", name)
			}
		}
	}
	all := lists[:cap(lists)]
	for i := range all {
		all[i] = []int{-7}
	}
}

// checkCacheApart fails if a function changes its argument, or if a slice that it returns shares memory with it, with
// another slice of the result, or with another result.
func checkCacheApart(t *testing.T, name string, c impl.Cache, of func(impl.Cache) impl.Cache) {
	t.Helper()
	l := layOut(c)
	keys, slots := slices.Clone(l.keys), copyOfCache(cacheOf(0, l.slots...))
	got, another := of(l.cache), of(l.cache)
	want := copyOfCache(another)
	spoilLists(t, name, got.Slots)
	checkCache(t, "another result of "+name, another, want)
	checkNumbers(t, "the memory of the keys of "+name, l.keys, keys)
	checkCache(t, "the memory of the slots of "+name, cacheOf(0, l.slots...), slots)
	checkCache(t, "a later result of "+name, of(l.cache), want)
}

func checkAllCachesApart(t *testing.T, c impl.Cache) {
	t.Helper()
	checkCacheApart(t, "CacheTurn", c, func(c impl.Cache) impl.Cache {
		turned, _ := impl.CacheTurn(c)
		return turned
	})
	for _, epoch := range []int{c.Epoch + 1, c.Epoch, c.Epoch - 1, c.Epoch - 2, c.Epoch - 3} {
		for _, key := range []int{0, 1, 30, 35, lastElement} {
			checkCacheApart(t, "CacheAdd", c, func(c impl.Cache) impl.Cache {
				added, _ := impl.CacheAdd(c, epoch, key)
				return added
			})
		}
		checkCacheApart(t, "CacheKeys", c, func(c impl.Cache) impl.Cache {
			return cacheOf(0, impl.CacheKeys(c, epoch))
		})
	}
	checkCacheApart(t, "CacheValid and CacheNew", c, func(c impl.Cache) impl.Cache {
		impl.CacheValid(c)
		made, _ := impl.CacheNew(c.Epoch)
		return made
	})
}

func TestCachesShareNoMemory(t *testing.T) {
	for _, c := range fewCaches() {
		checkAllCachesApart(t, c)
	}
	for _, c := range []impl.Cache{{}, cacheOf(-1, nil, []int{1}, nil), cacheOf(100, []int{1}, nil, []int{3}), cacheOf(4, []int{1}, []int{2}), cacheOf(4, []int{1}, []int{2}, []int{3}, []int{4}), cacheOf(4, nil, []int{5, 5}, nil)} {
		checkAllCachesApart(t, c)
	}
}

// All slots may be one slice.
func TestCachesOfOneSlotForAll(t *testing.T) {
	slot := make([]int, 2, 10)
	slot[0], slot[1] = 10, 30
	c := cacheOf(4, slot, slot, slot)
	got := checkAddKey(t, c, 3, 20, impl.TakeDone)
	checkCache(t, "the cache", got, cacheOf(4, []int{10, 30}, []int{10, 20, 30}, []int{10, 30}))
	turned := checkTurn(t, c, cacheOf(5, []int{10, 30}, []int{10, 30}, nil), true)
	for _, result := range []impl.Cache{got, turned} {
		overwrite(result.Slots[0])
		overwrite(result.Slots[2])
		checkNumbers(t, "the keys of another slot", result.Slots[1], slices.DeleteFunc([]int{10, 20, 30}, func(key int) bool { return key == 20 && result.Epoch == 5 }))
	}
	checkNumbers(t, "the slot of the argument", slot[:4], []int{10, 30, 0, 0})
}
