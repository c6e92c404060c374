package tests

import (
	"math"
	"slices"
	"testing"

	"loop.example/mixrelay/impl"
)

// tally counts sent loops, and those that came back, in tables by names, so that counts are not checked by a map.
type tally struct {
	sent, back [impl.Names][impl.Names]int
}

func tallyOf(list []impl.LinkCount) tally {
	var counts tally
	for _, c := range list {
		counts.sent[c.From][c.To], counts.back[c.From][c.To] = c.Sent, c.Back
	}
	return counts
}

func (counts tally) list() []impl.LinkCount {
	var list []impl.LinkCount
	for from, row := range counts.sent {
		for to, sent := range row {
			if sent > 0 {
				list = append(list, impl.LinkCount{From: from, To: to, Sent: sent, Back: counts.back[from][to]})
			}
		}
	}
	return list
}

// with has the counts behind a loop, and whether none of them exceeds MaxCount.
func (counts tally) with(path []int, back bool) (tally, bool) {
	ok := true
	for step := 1; step < len(path); step++ {
		from, to := path[step-1], path[step]
		counts.sent[from][to]++
		if back {
			counts.back[from][to]++
		}
		ok = ok && counts.sent[from][to] <= impl.MaxCount
	}
	return counts, ok
}

// fraction is a part of loops.
type fraction struct{ num, den int }

// allParts has all valid parts.
func allParts() []fraction {
	var parts []fraction
	for den := 1; den <= impl.MaxCount; den++ {
		for num := range den + 1 {
			parts = append(parts, fraction{num, den})
		}
	}
	return parts
}

// someParts has both ends, their neighbours, and equal fractions written differently.
var someParts = []fraction{
	{0, 1}, {1, 1}, {0, 99}, {99, 99}, {1, 99}, {98, 99}, {1, 2}, {2, 4}, {33, 66}, {49, 98}, {1, 3}, {33, 99}, {2, 3}, {66, 99}, {3, 4}, {50, 99}, {49, 99}, {97, 98},
}

// wrongParts has numerators and denominators out of range, also those with products that would overflow.
var wrongParts = []fraction{
	{0, 0}, {1, 0}, {-1, 0}, {0, -1}, {-1, -1}, {1, -1}, {-1, -2}, {-2, -1}, {1, 100}, {0, 100}, {100, 100}, {99, 100}, {50, 100}, {1, 101}, {1, 198},
	{-1, 1}, {-1, 2}, {-1, 99}, {-99, 99}, {2, 1}, {3, 2}, {99, 98}, {100, 99}, {198, 99}, {-100, -99},
	{1, math.MaxInt}, {1, math.MinInt}, {math.MaxInt, math.MaxInt}, {math.MinInt, math.MinInt}, {math.MaxInt, 1}, {math.MinInt, 1}, {math.MaxInt, 99}, {math.MinInt, 99}, {math.MinInt + 1, 1}, {math.MinInt + 1, 99}, {math.MinInt + 2, 2}, {math.MinInt / 50, 1},
	{1<<32 + 1, 1}, {1, 1<<32 + 1}, {1<<32 + 1, 1<<32 + 1}, {-1<<32 + 1, 1}, {1, -1<<32 + 1}, {1 << 62, 2}, {1 << 62, 1 << 62},
}

// rows has counts of links as they are written out: From, To, Sent and Back.
type rows [][4]int

func (r rows) list() []impl.LinkCount {
	var list []impl.LinkCount
	for _, row := range r {
		list = append(list, linkCount(row[0], row[1], row[2], row[3]))
	}
	return list
}

func linkCount(from, to, sent, back int) impl.LinkCount {
	return impl.LinkCount{From: from, To: to, Sent: sent, Back: back}
}

// fullCounts has all links, the one with index i with numbers that a function chooses.
func fullCounts(numbers func(i int) (sent, back int)) []impl.LinkCount {
	var list []impl.LinkCount
	for from := range impl.Names {
		for to := range impl.Names {
			if from != to {
				sent, back := numbers(len(list))
				list = append(list, linkCount(from, to, sent, back))
			}
		}
	}
	return list
}

// someCounts has counts of no, one, some and all links, with both ends of all ranges.
func someCounts() [][]impl.LinkCount {
	lists := [][]impl.LinkCount{nil}
	for _, c := range [][2]int{{1, 0}, {1, 1}, {2, 1}, {50, 49}, {98, 98}, {99, 0}, {99, 98}, {99, 99}} {
		lists = append(lists,
			[]impl.LinkCount{linkCount(0, 1, c[0], c[1])}, []impl.LinkCount{linkCount(lastName, 0, c[0], c[1])},
			[]impl.LinkCount{linkCount(0, 1, c[0], c[1]), linkCount(1, 0, 1, 1)}, []impl.LinkCount{linkCount(1, 2, 3, 1), linkCount(2, 1, c[0], c[1]), linkCount(lastName, 3, 7, 0)},
			fullCounts(func(int) (int, int) { return c[0], c[1] }), fullCounts(func(i int) (int, int) { return 1 + i%c[0], min(i%3, 1) }))
	}
	next := chosen()
	for round := range 60 {
		list := fullCounts(func(int) (int, int) { sent := 1 + next(2+round); return sent, next(sent + 1) })
		list = slices.DeleteFunc(list, func(impl.LinkCount) bool { return next(7) < round%7 })
		lists = append(lists, list)
	}
	return lists
}

// cameBack has the counts with other numbers of loops that came back.
func cameBack(list []impl.LinkCount, back func(sent int) int) []impl.LinkCount {
	other := slices.Clone(list)
	for i, c := range other {
		other[i].Back = back(c.Sent)
	}
	return other
}

// allPaths has all paths of a number of names, without those in which a name is followed by itself.
func allPaths(names int) [][]int {
	if names == 0 {
		return [][]int{{}}
	}
	var paths [][]int
	for _, path := range allPaths(names - 1) {
		for name := range impl.Names {
			if len(path) == 0 || path[len(path)-1] != name {
				paths = append(paths, append(slices.Clone(path), name))
			}
		}
	}
	return paths
}

func pathsOfAllLengths() [][]int {
	var paths [][]int
	for names := 2; names <= impl.MaxHops+1; names++ {
		paths = append(paths, allPaths(names)...)
	}
	return paths
}

// somePaths has all ways to come back to a mix and to use a link twice, with both ends of the range of names.
func somePaths() [][]int {
	var paths [][]int
	for _, names := range [][]int{{0, 1, 2, 3}, {1, 0, lastName, 6}, {lastName, 0, 1, 2}, {5, 3, 4, 1}} {
		a, b, c, d := names[0], names[1], names[2], names[3]
		paths = append(paths, []int{a, b}, []int{a, b, a}, []int{a, b, c}, []int{a, b, a, b}, []int{a, b, a, c}, []int{a, b, c, a}, []int{a, b, c, b}, []int{a, b, c, d})
	}
	return paths
}

// wrongPaths has paths that are too short or too long, with names out of range, or with a name twice in a row.
func wrongPaths() [][]int {
	paths := [][]int{nil, {}, {0}, {lastName}, {-1}, {0, 1, 2, 3, 4}, {0, 1, 0, 1, 0}, {0, 1, 2, 3, 0}, {0, 1, 2, 3, 3}, listOf(24, 0, 1), listOf(1000, 0, 1)}
	for names := 2; names <= impl.MaxHops+1; names++ {
		for place := range names {
			for _, wrong := range wrongNames {
				path := listOf(names, 1, 2)
				path[place] = wrong
				paths = append(paths, path)
			}
			if place > 0 {
				path := listOf(names, 1, 2)
				path[place] = path[place-1]
				paths = append(paths, path)
			}
		}
		paths = append(paths, listOf(names, 0, 0), listOf(names, -1, 0), listOf(names, impl.Names, 0), listOf(names, lastName, 0))
	}
	return paths
}

func checkCounts(t *testing.T, name string, got, want []impl.LinkCount) {
	t.Helper()
	if !slices.Equal(got, want) {
		t.Fatalf("%s are %v, want %v", name, got, want)
	}
}

func checkValidCounts(t *testing.T, list []impl.LinkCount) {
	t.Helper()
	if !impl.LoopsValid(list) {
		t.Fatalf("LoopsValid(%v) is false", list)
	}
}

// checkAdd fails unless LoopAdd returns certain counts, and whether the loop was counted.
func checkAdd(t *testing.T, list []impl.LinkCount, path []int, back bool, want []impl.LinkCount, wantOK bool) []impl.LinkCount {
	t.Helper()
	got, ok := impl.LoopAdd(list, path, back)
	if ok != wantOK || !slices.Equal(got, want) {
		t.Fatalf("LoopAdd(%v, %v, %v) is %v and %v, want %v and %v", list, path, back, got, ok, want, wantOK)
	}
	return got
}

// checkLoop fails unless LoopAdd counts a loop, or refuses it for a number that would exceed MaxCount.
func checkLoop(t *testing.T, list []impl.LinkCount, path []int, back bool) []impl.LinkCount {
	t.Helper()
	counts, ok := tallyOf(list).with(path, back)
	want := counts.list()
	if !ok {
		want = list
	}
	got := checkAdd(t, list, path, back, want, ok)
	checkValidCounts(t, got)
	return got
}

func checkRate(t *testing.T, list []impl.LinkCount, from, to, back, sent int) {
	t.Helper()
	if gotBack, gotSent := impl.LoopRate(list, from, to); gotBack != back || gotSent != sent {
		t.Fatalf("LoopRate(%v, %d, %d) is %d and %d, want %d and %d", list, from, to, gotBack, gotSent, back, sent)
	}
}

func checkBlamed(t *testing.T, list []impl.LinkCount, p fraction, want ...int) {
	t.Helper()
	if got := impl.LoopBlamed(list, p.num, p.den); !slices.Equal(got, want) {
		t.Fatalf("LoopBlamed(%v, %d, %d) is %v, want %v", list, p.num, p.den, got, want)
	}
}

func checkNoSuspects(t *testing.T, list []impl.LinkCount, p fraction) {
	t.Helper()
	checkCounts(t, "suspects of nothing", impl.LoopSuspects(list, p.num, p.den), nil)
	checkBlamed(t, list, p)
}

// checkInvalidCounts fails if counts are valid, or if a function returns anything for them but zero values.
func checkInvalidCounts(t *testing.T, list []impl.LinkCount) {
	t.Helper()
	if impl.LoopsValid(list) {
		t.Fatalf("LoopsValid(%v) is true", list)
	}
	for _, path := range [][]int{{0, 1}, {1, 0}, {3, 5, 3}, {lastName, 0, 1, 2}, {0, 1, 0, 1}, {0}, {0, 0}, {-1, 0}} {
		checkAdd(t, list, path, true, nil, false)
		checkAdd(t, list, path, false, nil, false)
	}
	for from := -1; from <= impl.Names; from++ {
		for to := -1; to <= impl.Names; to++ {
			checkRate(t, list, from, to, 0, 0)
		}
	}
	for _, c := range list {
		checkRate(t, list, c.From, c.To, 0, 0)
	}
	for _, p := range slices.Concat(someParts, wrongParts[:8]) {
		checkNoSuspects(t, list, p)
	}
}

func TestLoopConstants(t *testing.T) {
	if impl.MaxCount != 99 {
		t.Errorf("MaxCount is %d, want 99", impl.MaxCount)
	}
}

// The counts are written out, so that they are not only checked by the tables of these tests.
func TestLoopAddValues(t *testing.T) {
	var list []impl.LinkCount
	for _, c := range []struct {
		path []int
		back bool
		want rows
	}{
		{[]int{3, 1, 2}, true, rows{{1, 2, 1, 1}, {3, 1, 1, 1}}},
		{[]int{1, 2}, false, rows{{1, 2, 2, 1}, {3, 1, 1, 1}}},
		{[]int{2, 1, 2, 1}, true, rows{{1, 2, 3, 2}, {2, 1, 2, 2}, {3, 1, 1, 1}}},
		{[]int{3, 1, 3, 1}, false, rows{{1, 2, 3, 2}, {1, 3, 1, 0}, {2, 1, 2, 2}, {3, 1, 3, 1}}},
		{[]int{7, 0}, true, rows{{1, 2, 3, 2}, {1, 3, 1, 0}, {2, 1, 2, 2}, {3, 1, 3, 1}, {7, 0, 1, 1}}},
		{[]int{0, 7, 0, 1}, false, rows{{0, 1, 1, 0}, {0, 7, 1, 0}, {1, 2, 3, 2}, {1, 3, 1, 0}, {2, 1, 2, 2}, {3, 1, 3, 1}, {7, 0, 2, 1}}},
	} {
		list = checkAdd(t, list, c.path, c.back, c.want.list(), true)
	}
}

// The results are written out. Over the links of mix 0 at most a half came back, over that of mix 2 all, and over those
// of mix 3 two thirds and none.
func TestLoopSuspectsAndBlamedValues(t *testing.T) {
	list := rows{{0, 1, 2, 1}, {0, 3, 3, 0}, {1, 0, 4, 1}, {1, 2, 5, 5}, {3, 1, 3, 2}}.list()
	for _, c := range []struct {
		part   fraction
		links  []int
		blamed []int
	}{
		{fraction{0, 1}, nil, nil},
		{fraction{1, 99}, []int{1}, nil},
		{fraction{1, 4}, []int{1}, nil},
		{fraction{26, 99}, []int{1, 2}, nil},
		{fraction{1, 2}, []int{1, 2}, nil},
		{fraction{50, 99}, []int{0, 1, 2}, []int{0}},
		{fraction{2, 3}, []int{0, 1, 2}, []int{0}},
		{fraction{66, 99}, []int{0, 1, 2}, []int{0}},
		{fraction{67, 99}, []int{0, 1, 2, 4}, []int{0, 3}},
		{fraction{1, 1}, []int{0, 1, 2, 4}, []int{0, 3}},
	} {
		var want []impl.LinkCount
		for _, i := range c.links {
			want = append(want, list[i])
		}
		checkCounts(t, "the suspects", impl.LoopSuspects(list, c.part.num, c.part.den), want)
		checkBlamed(t, list, c.part, c.blamed...)
	}
}

func TestValidCounts(t *testing.T) {
	for _, list := range someCounts() {
		checkValidCounts(t, list)
	}
	for sent := 1; sent <= impl.MaxCount; sent++ {
		for back := range sent + 1 {
			checkValidCounts(t, []impl.LinkCount{linkCount(0, 1, sent, back)})
			checkValidCounts(t, []impl.LinkCount{linkCount(6, lastName, 1, 0), linkCount(lastName, 6, sent, back)})
		}
	}
	for from := range impl.Names {
		for to := range impl.Names {
			list := []impl.LinkCount{linkCount(from, to, 1, 1)}
			if from != to {
				checkValidCounts(t, list)
			} else {
				checkInvalidCounts(t, list)
			}
		}
	}
}

// Nil and empty slices are the same.
func TestLoopsOfNothing(t *testing.T) {
	for _, list := range [][]impl.LinkCount{nil, {}, rows{{5, 5, 5, 7}, {0, 1, 2, 1}}.list()[:0]} {
		checkValidCounts(t, list)
		checkLoop(t, list, []int{2, 1, 2, 1}, true)
		checkRate(t, list, 0, 1, 0, 0)
		for _, path := range wrongPaths() {
			checkAdd(t, list, path, true, nil, false)
		}
		for _, p := range slices.Concat(someParts, wrongParts) {
			checkNoSuspects(t, list, p)
		}
	}
}

// Each pair of links is in order in one of both ways, and in none if the links are equal.
func TestCountsInAndOutOfOrder(t *testing.T) {
	all := fullCounts(func(i int) (int, int) { return 1 + i, i % 2 })
	for i, a := range all {
		for j, b := range all {
			list := []impl.LinkCount{a, b}
			if i < j {
				checkValidCounts(t, list)
			} else {
				checkInvalidCounts(t, list)
			}
		}
		if i > 0 {
			list := slices.Clone(all)
			list[i], list[i-1] = list[i-1], list[i]
			checkInvalidCounts(t, list)
			checkInvalidCounts(t, slices.Insert(slices.Clone(all), i, all[i-1]))
			checkInvalidCounts(t, slices.Insert(slices.Clone(all), i, linkCount(all[i].From, all[i].To, impl.MaxCount, 3)))
		}
	}
	checkInvalidCounts(t, slices.Concat(all, all))
	slices.Reverse(all)
	checkInvalidCounts(t, all)
}

// invalidCounts has counts of a link, each with something invalid. Their order in a list may be right.
func invalidCounts(right impl.LinkCount) []impl.LinkCount {
	list := []impl.LinkCount{{}, linkCount(right.From, right.From, right.Sent, right.Back), linkCount(right.To, right.To, right.Sent, right.Back)}
	for _, name := range wrongNames {
		list = append(list, linkCount(name, right.To, right.Sent, right.Back), linkCount(right.From, name, right.Sent, right.Back), linkCount(name, name, right.Sent, right.Back))
	}
	for _, sent := range []int{0, -1, -impl.MaxCount, impl.MaxCount + 1, 2 * impl.MaxCount, 1<<32 + 1, -1<<32 + 1, math.MaxInt, math.MinInt} {
		list = append(list, linkCount(right.From, right.To, sent, 0), linkCount(right.From, right.To, sent, 1), linkCount(right.From, right.To, sent, sent), linkCount(right.From, right.To, sent, -1))
	}
	for _, back := range []int{-1, -right.Sent, right.Sent + 1, impl.MaxCount + 1, 1 << 32, -1 << 32, math.MaxInt, math.MinInt} {
		list = append(list, linkCount(right.From, right.To, right.Sent, back))
	}
	return list
}

func TestInvalidCounts(t *testing.T) {
	lists := [][]impl.LinkCount{
		{linkCount(0, 1, 1, 1)}, {linkCount(lastName, 6, 99, 98)},
		{linkCount(0, 1, 1, 0), linkCount(3, 5, 2, 2)}, {linkCount(0, 1, 7, 3), linkCount(0, 2, 4, 4), linkCount(1, 0, 9, 0), linkCount(lastName, 6, 50, 50)},
		fullCounts(func(i int) (int, int) { return 1 + i, 1 + i }),
	}
	for _, list := range lists {
		for place := range list {
			for _, invalid := range invalidCounts(list[place]) {
				other := slices.Clone(list)
				other[place] = invalid
				checkInvalidCounts(t, other)
			}
		}
	}
}

func TestLastWrongBackOfEachSent(t *testing.T) {
	for sent := 1; sent <= impl.MaxCount; sent++ {
		checkInvalidCounts(t, []impl.LinkCount{linkCount(2, 4, sent, sent+1)})
		checkInvalidCounts(t, []impl.LinkCount{linkCount(2, 4, sent, -1)})
	}
}

func TestPromise55AllPaths(t *testing.T) {
	lists := someCounts()
	for i, path := range pathsOfAllLengths() {
		for _, back := range []bool{false, true} {
			checkLoop(t, nil, path, back)
			for step := range 4 {
				checkLoop(t, lists[(i+29*step)%len(lists)], path, back)
			}
		}
	}
}

func TestPromise55ManyCounts(t *testing.T) {
	for _, list := range someCounts() {
		for _, path := range somePaths() {
			checkLoop(t, list, path, false)
			checkLoop(t, list, path, true)
		}
	}
}

// The increases are found by LoopRate.
func TestPromise55Increases(t *testing.T) {
	paths := somePaths()
	for i, list := range someCounts() {
		for step := range 8 {
			path, back := paths[(i+5*step)%len(paths)], (i+step)%2 > 0
			if got, ok := impl.LoopAdd(list, path, back); ok {
				checkIncreases(t, list, got, path, back)
			}
		}
	}
}

func checkIncreases(t *testing.T, before, after []impl.LinkCount, path []int, back bool) {
	t.Helper()
	for from := range impl.Names {
		for to := range impl.Names {
			times := 0
			for step := range len(path) - 1 {
				if path[step] == from && path[step+1] == to {
					times++
				}
			}
			cameBack, sent := impl.LoopRate(before, from, to)
			sent += times
			if back {
				cameBack += times
			}
			checkRate(t, after, from, to, cameBack, sent)
		}
	}
}

// A path that uses a link twice needs space for two loops, also if other links of it have space.
func TestLinksUsedTwice(t *testing.T) {
	path, other := []int{4, 2, 4, 2}, linkCount(lastName, 0, impl.MaxCount, 5)
	for sent := impl.MaxCount - 3; sent <= impl.MaxCount; sent++ {
		for _, lost := range []int{0, 1, sent} {
			list := []impl.LinkCount{linkCount(4, 2, sent, sent-lost), other}
			if sent > impl.MaxCount-2 {
				checkAdd(t, list, path, false, list, false)
				checkAdd(t, list, path, true, list, false)
				continue
			}
			checkAdd(t, list, path, false, []impl.LinkCount{linkCount(2, 4, 1, 0), linkCount(4, 2, sent+2, sent-lost), other}, true)
			checkAdd(t, list, path, true, []impl.LinkCount{linkCount(2, 4, 1, 1), linkCount(4, 2, sent+2, sent+2-lost), other}, true)
		}
	}
}

// Each link of each path has space for the loop, or lacks it, also a link that another one follows or precedes.
func TestCountsAtTheLimit(t *testing.T) {
	for _, path := range somePaths() {
		for step := range len(path) - 1 {
			for sent := impl.MaxCount - 3; sent <= impl.MaxCount; sent++ {
				for _, back := range []int{0, 1, sent - 1, sent} {
					list := []impl.LinkCount{linkCount(path[step], path[step+1], sent, back)}
					checkLoop(t, list, path, false)
					checkLoop(t, list, path, true)
				}
			}
		}
		for sent := impl.MaxCount - 2; sent <= impl.MaxCount; sent++ {
			list := fullCounts(func(i int) (int, int) { return sent - i%2, sent - 1 - i%3 })
			checkLoop(t, list, path, false)
			checkLoop(t, list, path, true)
		}
	}
}

// One loop after the other is counted until there are MaxCount, and then refused.
func TestCountingUpToTheLimit(t *testing.T) {
	for _, path := range [][]int{{0, 1}, {5, 3, 5}, {1, 2, 3, 1}} {
		var list []impl.LinkCount
		for sent := 1; sent <= impl.MaxCount; sent++ {
			got, ok := impl.LoopAdd(list, path, sent%3 > 0)
			if !ok {
				t.Fatalf("LoopAdd(%v, %v) fails", list, path)
			}
			list = got
			checkRate(t, list, path[0], path[1], sent-sent/3, sent)
		}
		checkAdd(t, list, path, true, list, false)
		checkAdd(t, list, path, false, list, false)
	}
}

// Only links of the path matter.
func TestOtherCountsAtTheLimit(t *testing.T) {
	list := fullCounts(func(i int) (int, int) { return impl.MaxCount, i })
	for i, c := range list {
		path := []int{c.From, c.To}
		checkAdd(t, list, path, true, list, false)
		without := slices.Delete(slices.Clone(list), i, i+1)
		one := slices.Clone(list)
		one[i].Sent, one[i].Back = 1, 0
		checkAdd(t, without, path, false, one, true)
		one[i].Back = 1
		checkAdd(t, without, path, true, one, true)
		almost := slices.Clone(list)
		almost[i].Sent = impl.MaxCount - 1
		checkAdd(t, almost, path, false, list, true)
	}
}

func TestWrongPaths(t *testing.T) {
	lists := append(someCounts()[:10], fullCounts(func(int) (int, int) { return 1, 1 }), fullCounts(func(int) (int, int) { return 99, 99 }))
	for _, list := range lists {
		for _, path := range wrongPaths() {
			checkAdd(t, list, path, false, nil, false)
			checkAdd(t, list, path, true, nil, false)
		}
	}
}

// A wrong path gives no counts, also if one of its right steps would exceed MaxCount.
func TestWrongPathsAreCheckedFirst(t *testing.T) {
	list := []impl.LinkCount{linkCount(0, 1, impl.MaxCount, 3)}
	for _, path := range [][]int{{0, 1, -1}, {0, 1, impl.Names}, {0, 1, 1}, {0, 1, 2, 2}, {0, 1, 2, 3, 4}, {0, 0, 1}} {
		checkAdd(t, list, path, true, nil, false)
		checkAdd(t, list, path, false, nil, false)
	}
	checkAdd(t, list, []int{0, 1, 0}, false, list, false)
	checkAdd(t, list, []int{2, 0, 1}, true, list, false)
}

// Names may come again, if not in a row.
func TestPathsMayComeBack(t *testing.T) {
	checkAdd(t, nil, []int{5, 6, 5}, true, []impl.LinkCount{linkCount(5, 6, 1, 1), linkCount(6, 5, 1, 1)}, true)
	checkAdd(t, nil, []int{5, 6, 7, 5}, false, []impl.LinkCount{linkCount(5, 6, 1, 0), linkCount(6, 7, 1, 0), linkCount(7, 5, 1, 0)}, true)
	checkAdd(t, nil, []int{5, 6, 5, 6}, true, []impl.LinkCount{linkCount(5, 6, 2, 2), linkCount(6, 5, 1, 1)}, true)
	checkAdd(t, nil, []int{6, 5, 0, 5}, true, []impl.LinkCount{linkCount(0, 5, 1, 1), linkCount(5, 0, 1, 1), linkCount(6, 5, 1, 1)}, true)
}

// loop is a loop that was sent.
type loop struct {
	path []int
	back bool
}

// checkEitherOrder fails if the counts of two loops depend on their order, and reports whether both were counted.
func checkEitherOrder(t *testing.T, list []impl.LinkCount, one, two loop) bool {
	t.Helper()
	first, oneOK := impl.LoopAdd(list, one.path, one.back)
	first, twoOK := impl.LoopAdd(first, two.path, two.back)
	if !oneOK || !twoOK {
		return false
	}
	second, _ := impl.LoopAdd(list, two.path, two.back)
	second, ok := impl.LoopAdd(second, one.path, one.back)
	if !ok || !slices.Equal(first, second) {
		t.Fatalf("%v and %v of %v give %v, or %v and %v in the other order", one, two, list, first, second, ok)
	}
	return true
}

func TestPromise56EitherOrder(t *testing.T) {
	paths := somePaths()
	lists := someCounts()
	counted, refused := 0, 0
	for i, one := range paths {
		for j, two := range paths {
			for _, list := range [][]impl.LinkCount{nil, lists[(i+7*j)%len(lists)], fullCounts(func(k int) (int, int) { return 99 - (i+j+k)%5, 50 })} {
				for choice := range 4 {
					if checkEitherOrder(t, list, loop{one, choice%2 > 0}, loop{two, choice/2 > 0}) {
						counted++
					} else {
						refused++
					}
				}
			}
		}
	}
	if counted < 5000 || refused < 1000 {
		t.Errorf("%d pairs were counted, and %d were refused", counted, refused)
	}
}

func TestPromise56AllPathsOfTwo(t *testing.T) {
	for _, one := range allPaths(2) {
		for _, two := range allPaths(2) {
			if !checkEitherOrder(t, nil, loop{one, true}, loop{two, false}) {
				t.Fatalf("%v and %v are not both counted", one, two)
			}
		}
	}
}

func TestPromise57AllLinks(t *testing.T) {
	for _, list := range someCounts() {
		counts := tallyOf(list)
		for from := range impl.Names {
			for to := range impl.Names {
				checkRate(t, list, from, to, counts.back[from][to], counts.sent[from][to])
				if back, sent := impl.LoopRate(list, from, to); back < 0 || back > sent || sent > impl.MaxCount {
					t.Fatalf("LoopRate(%v, %d, %d) is %d and %d", list, from, to, back, sent)
				}
			}
		}
	}
}

func TestPromise57AllRates(t *testing.T) {
	for sent := 1; sent <= impl.MaxCount; sent++ {
		for back := range sent + 1 {
			list := []impl.LinkCount{linkCount(0, 3, 5, 2), linkCount(3, 0, sent, back), linkCount(3, 1, 9, 9)}
			checkRate(t, list, 3, 0, back, sent)
			checkRate(t, list, 0, 3, 2, 5)
			checkRate(t, list, 3, 1, 9, 9)
			checkRate(t, list, 1, 3, 0, 0)
			checkRate(t, list, 3, 3, 0, 0)
		}
	}
}

func TestPromise57NamesOutOfRange(t *testing.T) {
	list := fullCounts(func(i int) (int, int) { return 99 - i, 1 + i%20 })
	for _, wrong := range wrongNames {
		checkRate(t, list, wrong, wrong, 0, 0)
		for name := range impl.Names {
			checkRate(t, list, wrong, name, 0, 0)
			checkRate(t, list, name, wrong, 0, 0)
		}
	}
}

// ranks has the place of each fraction among all fractions with denominators up to MaxCount in their order. They are
// enumerated one after the other by the rule of Farey sequences, so that no two of them are compared.
func ranks() [impl.MaxCount + 1][impl.MaxCount + 1]int {
	var ranks [impl.MaxCount + 1][impl.MaxCount + 1]int
	a, b, c, d := 0, 1, 1, impl.MaxCount
	for rank := 0; a <= b; rank++ {
		for times := 1; times*b <= impl.MaxCount; times++ {
			ranks[times*a][times*b] = rank
		}
		further := (impl.MaxCount + b) / d
		a, b, c, d = c, d, further*c-a, further*d-b
	}
	return ranks
}

// allRates has counts with all numbers of sent loops and of those that came back.
func allRates() [][]impl.LinkCount {
	parts := allParts()
	var lists [][]impl.LinkCount
	for len(parts) > 0 {
		links := fullCounts(func(int) (int, int) { return 1, 0 })
		links = links[:min(len(links), len(parts))]
		for i := range links {
			links[i].Sent, links[i].Back = parts[i].den, parts[i].num
		}
		lists, parts = append(lists, links), parts[len(links):]
	}
	return lists
}

// All numbers of loops are compared with all parts.
func TestPromise58AllRatesAndParts(t *testing.T) {
	ranks, parts := ranks(), allParts()
	suspects := []impl.LinkCount{}
	for _, list := range allRates() {
		for _, p := range parts {
			suspects = suspects[:0]
			for _, c := range list {
				if ranks[c.Back][c.Sent] < ranks[p.num][p.den] {
					suspects = append(suspects, c)
				}
			}
			if got := impl.LoopSuspects(list, p.num, p.den); !slices.Equal(got, suspects) {
				t.Fatalf("LoopSuspects(%v, %d, %d) are %v, want %v", list, p.num, p.den, got, suspects)
			}
		}
	}
}

func TestPromise58ManyCounts(t *testing.T) {
	ranks := ranks()
	for _, list := range someCounts() {
		for _, p := range someParts {
			want := slices.DeleteFunc(slices.Clone(list), func(c impl.LinkCount) bool { return ranks[c.Back][c.Sent] >= ranks[p.num][p.den] })
			checkCounts(t, "the suspects", impl.LoopSuspects(list, p.num, p.den), want)
		}
	}
}

// Equal fractions, written differently, have the same suspects, and a link with the same part is none.
func TestPromise58EqualFractions(t *testing.T) {
	lists := someCounts()
	for den := 1; den <= impl.MaxCount; den++ {
		for num := range den + 1 {
			for times := 2; times*den <= impl.MaxCount; times++ {
				same := fraction{times * num, times * den}
				list := lists[(num+den*times)%len(lists)]
				checkCounts(t, "the suspects", impl.LoopSuspects(list, same.num, same.den), impl.LoopSuspects(list, num, den))
				checkBlamed(t, list, same, impl.LoopBlamed(list, num, den)...)
				checkNoSuspects(t, []impl.LinkCount{linkCount(2, 1, same.den, same.num)}, fraction{num, den})
				checkNoSuspects(t, []impl.LinkCount{linkCount(2, 1, den, num)}, same)
			}
		}
	}
}

func TestWrongParts(t *testing.T) {
	for _, list := range someCounts() {
		for _, p := range wrongParts {
			checkNoSuspects(t, list, p)
			checkNoSuspects(t, cameBack(list, func(int) int { return 0 }), p)
		}
	}
}

func TestPromise59AllCameBack(t *testing.T) {
	for _, list := range someCounts() {
		all := cameBack(list, func(sent int) int { return sent })
		for _, p := range allParts() {
			checkNoSuspects(t, all, p)
		}
	}
}

func TestPromise59NoPart(t *testing.T) {
	for _, list := range someCounts() {
		for den := 1; den <= impl.MaxCount; den++ {
			checkNoSuspects(t, list, fraction{0, den})
			checkNoSuspects(t, cameBack(list, func(int) int { return 0 }), fraction{0, den})
		}
	}
}

func TestPromise60AllParts(t *testing.T) {
	for _, list := range someCounts() {
		all := impl.LoopSuspects(list, 1, 1)
		for den := 1; den <= impl.MaxCount; den++ {
			checkCounts(t, "the suspects for all", impl.LoopSuspects(list, den, den), all)
		}
		for _, p := range someParts {
			for _, c := range impl.LoopSuspects(list, p.num, p.den) {
				if !slices.Contains(all, c) {
					t.Fatalf("%v is a suspect of %v for %v, but not for the part 1", c, list, p)
				}
			}
		}
	}
}

// Exactly the links of which at least one loop is missing are suspects for the part 1.
func TestPromise60OneLoopIsMissing(t *testing.T) {
	for sent := 1; sent <= impl.MaxCount; sent++ {
		for back := range sent + 1 {
			list := []impl.LinkCount{linkCount(6, 2, sent, back)}
			if back == sent {
				checkNoSuspects(t, list, fraction{1, 1})
				continue
			}
			checkCounts(t, "the suspects", impl.LoopSuspects(list, 1, 1), list)
			checkBlamed(t, list, fraction{1, 1}, 2, 6)
		}
	}
}

// blamedOf has the mixes that are blamed, found link by link for each mix.
func blamedOf(list []impl.LinkCount, p fraction) []int {
	suspects := impl.LoopSuspects(list, p.num, p.den)
	var blamed []int
	for name := range impl.Names {
		has, all := false, true
		for _, c := range list {
			if c.From == name || c.To == name {
				has, all = true, all && slices.Contains(suspects, c)
			}
		}
		if has && all {
			blamed = append(blamed, name)
		}
	}
	return blamed
}

func TestPromise61ManyCounts(t *testing.T) {
	blamed := map[int]int{}
	for _, list := range someCounts() {
		for _, p := range someParts {
			want := blamedOf(list, p)
			checkBlamed(t, list, p, want...)
			blamed[len(want)]++
		}
	}
	if blamed[0] == 0 || blamed[1] == 0 || blamed[2] == 0 || blamed[impl.Names] == 0 {
		t.Errorf("the numbers of mixes that are blamed are %v", blamed)
	}
}

// All choices of links among three mixes, each without loops, a suspect, or none.
func TestPromise61AllLinksOfThreeMixes(t *testing.T) {
	links := rows{{0, 3, 4, 0}, {0, 7, 4, 0}, {3, 0, 4, 0}, {3, 7, 4, 0}, {7, 0, 4, 0}, {7, 3, 4, 0}}.list()
	for choice := range 729 {
		var list []impl.LinkCount
		for i, rest := 0, choice; i < len(links); i, rest = i+1, rest/3 {
			if rest%3 > 0 {
				list = append(list, links[i])
				list[len(list)-1].Back = rest % 3
			}
		}
		checkBlamed(t, list, fraction{1, 2}, blamedOf(list, fraction{1, 2})...)
		checkBlamed(t, list, fraction{1, 4})
	}
}

// One link that is no suspect, among all others that are, acquits both its ends.
func TestPromise61OneGoodLink(t *testing.T) {
	list := fullCounts(func(int) (int, int) { return 3, 1 })
	checkBlamed(t, list, fraction{1, 2}, 0, 1, 2, 3, 4, 5, 6, 7)
	for i, c := range list {
		other := slices.Clone(list)
		other[i].Back = 2
		want := slices.DeleteFunc(listOf(impl.Names, 0, 1), func(name int) bool { return name == c.From || name == c.To })
		checkBlamed(t, other, fraction{1, 2}, want...)
	}
}

// sendLoops counts loops, of which exactly those over a mix are lost.
func sendLoops(t *testing.T, paths [][]int, lost int) []impl.LinkCount {
	t.Helper()
	var list []impl.LinkCount
	for _, path := range paths {
		list = checkLoop(t, list, path, !slices.Contains(path, lost))
	}
	return list
}

// checkLostBy fails unless a mix that loses all loops is blamed, if it has links, and no mix is that has a link over
// which only loops without that mix were sent.
func checkLostBy(t *testing.T, paths [][]int, lost int) {
	t.Helper()
	list := sendLoops(t, paths, lost)
	blamed := impl.LoopBlamed(list, 1, 1)
	has := slices.ContainsFunc(list, func(c impl.LinkCount) bool { return c.From == lost || c.To == lost })
	if has != slices.Contains(blamed, lost) {
		t.Fatalf("mix %d lost loops over %v, and %v are blamed", lost, paths, blamed)
	}
	for _, c := range list {
		if c.Back == c.Sent && (slices.Contains(blamed, c.From) || slices.Contains(blamed, c.To)) {
			t.Fatalf("all loops came back over %v, but %v are blamed", c, blamed)
		}
	}
}

// With paths of two mixes, a loop is over a mix if and only if its link is one of the mix.
func TestPromise62PathsOfTwo(t *testing.T) {
	next, all := chosen(), allPaths(2)
	for round := range 300 {
		var paths [][]int
		for range next(2 + round/4) {
			paths = append(paths, all[next(len(all))])
		}
		for lost := range impl.Names {
			checkLostBy(t, paths, lost)
			blamed := impl.LoopBlamed(sendLoops(t, paths, lost), 1, 1)
			for _, path := range paths {
				if !slices.Contains(path, lost) && (slices.Contains(blamed, path[0]) || slices.Contains(blamed, path[1])) {
					t.Fatalf("mix %d lost loops over %v, but %v are blamed", lost, paths, blamed)
				}
			}
		}
	}
}

func TestPromise62LongerPaths(t *testing.T) {
	next, all := chosen(), pathsOfAllLengths()
	for round := range 300 {
		var paths [][]int
		for range next(2 + round/8) {
			paths = append(paths, all[next(len(all))])
		}
		for lost := range impl.Names {
			checkLostBy(t, paths, lost)
		}
	}
}

// Over all links, only the mix that loses loops is blamed.
func TestPromise62AllLinks(t *testing.T) {
	for lost := range impl.Names {
		checkBlamed(t, sendLoops(t, allPaths(2), lost), fraction{1, 1}, lost)
		checkBlamed(t, sendLoops(t, allPaths(2), lost), fraction{1, 99}, lost)
	}
}

// A lost loop makes all its links suspects, also those between other mixes, which are blamed with the mix that lost it
// until they have another link over which all loops came back.
func TestPromise62LostLoopsOfOthers(t *testing.T) {
	list := sendLoops(t, [][]int{{0, 1, 2}}, 2)
	checkBlamed(t, list, fraction{1, 1}, 0, 1, 2)
	list = checkLoop(t, list, []int{3, 0}, true)
	checkBlamed(t, list, fraction{1, 1}, 1, 2)
	list = checkLoop(t, list, []int{3, 1}, true)
	checkBlamed(t, list, fraction{1, 1}, 2)
}

func TestPromise63OneLink(t *testing.T) {
	for _, path := range allPaths(2) {
		for _, list := range [][]impl.LinkCount{nil, {}} {
			checkAdd(t, list, path, true, []impl.LinkCount{linkCount(path[0], path[1], 1, 1)}, true)
			checkAdd(t, list, path, false, []impl.LinkCount{linkCount(path[0], path[1], 1, 0)}, true)
		}
	}
}

func TestPromise64WithoutOneLink(t *testing.T) {
	for _, list := range someCounts() {
		for i, c := range list {
			without := slices.Delete(slices.Clone(list), i, i+1)
			checkValidCounts(t, without)
			checkRate(t, without, c.From, c.To, 0, 0)
		}
	}
}

// counted has both slices that functions of loops return.
type counted struct {
	list  []impl.LinkCount
	names []int
}

func (c counted) copied() counted {
	return counted{slices.Clone(c.list), slices.Clone(c.names)}
}

func (c counted) same(other counted) bool {
	return slices.Equal(c.list, other.list) && slices.Equal(c.names, other.names)
}

// spoil overwrites both slices up to their capacity.
func (c counted) spoil() {
	overwrite(c.names)
	for i := range c.list[:cap(c.list)] {
		c.list[:cap(c.list)][i] = linkCount(-7, -7, -7, -7)
	}
}

// checkLoopsApart fails if a function changes its arguments, behind which there is space that belongs to others, or if
// what it returns shares memory with them or with another result.
func checkLoopsApart(t *testing.T, name string, list []impl.LinkCount, path []int, of func([]impl.LinkCount, []int) counted) {
	t.Helper()
	links := slices.Concat(list, fullCounts(func(i int) (int, int) { return 1 + i, i }))
	names := slices.Concat(path, listOf(impl.MaxList, 17, 29))
	beforeLinks, beforeNames := slices.Clone(links), slices.Clone(names)
	call := func() counted { return of(links[:len(list)], names[:len(path)]) }
	got, another := call(), call()
	want := got.copied()
	got.spoil()
	checkCounts(t, "the memory of the counts of "+name, links, beforeLinks)
	checkNumbers(t, "the memory of the path of "+name, names, beforeNames)
	if !another.same(want) || !call().same(want) {
		t.Fatalf("two results of %s are different, or share memory", name)
	}
}

func checkAllLoopsApart(t *testing.T, list []impl.LinkCount, path []int) {
	t.Helper()
	for _, back := range []bool{false, true} {
		checkLoopsApart(t, "LoopAdd", list, path, func(list []impl.LinkCount, path []int) counted {
			counts, _ := impl.LoopAdd(list, path, back)
			return counted{list: counts}
		})
	}
	for _, p := range append(wrongParts[:2:2], someParts...) {
		checkLoopsApart(t, "LoopSuspects and LoopBlamed", list, path, func(list []impl.LinkCount, _ []int) counted {
			return counted{impl.LoopSuspects(list, p.num, p.den), impl.LoopBlamed(list, p.num, p.den)}
		})
	}
	checkLoopsApart(t, "LoopsValid and LoopRate", list, path, func(list []impl.LinkCount, _ []int) counted {
		impl.LoopsValid(list)
		back, sent := impl.LoopRate(list, 0, 1)
		return counted{names: []int{back, sent}}
	})
}

func TestLoopsShareNoMemory(t *testing.T) {
	lists := append(someCounts(), []impl.LinkCount{{}}, rows{{0, 1, 2, 1}, {0, 1, 2, 1}}.list(), rows{{3, 1, 2, 1}, {0, 1, 2, 1}}.list())
	for i, list := range lists {
		paths := slices.Concat(somePaths(), wrongPaths()[:11])
		for step := range 12 {
			checkAllLoopsApart(t, list, paths[(i+5*step)%len(paths)])
		}
	}
}

// If all links are suspects, or a loop is refused, what is returned is a copy of the argument.
func TestUnchangedCountsAreCopies(t *testing.T) {
	list := fullCounts(func(int) (int, int) { return impl.MaxCount, 3 })
	checkAllLoopsApart(t, list, []int{0, 1})
	checkAdd(t, list, []int{0, 1}, true, list, false)
	checkCounts(t, "the suspects", impl.LoopSuspects(list, 1, 1), list)
}
