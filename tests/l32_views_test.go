package tests

import (
	"math"
	"slices"
	"testing"

	"loop.example/mixrelay/impl"
)

// wrongEnds has the neighbours of both ends, and numbers that are in range after a remainder or with their upper bits
// cut off.
var wrongEnds = []int{-2, -3, -impl.Names, -impl.Names - 1, impl.Names, impl.Names + 1, 2*impl.Names - 1, lastNumber, 1 << 32, 1<<32 - 1, 1<<32 + 3, math.MaxInt, math.MinInt, math.MinInt + 3}

// wrongOutwardNames has names that are negative, some of which are in range with their upper bits cut off.
var wrongOutwardNames = []int{-1, -2, -impl.Names, -lastNumber, -impl.Numbers, -1 << 32, -1<<32 + 3, -math.MaxInt, math.MinInt, math.MinInt + 3}

func flowOf(from, to, name int) impl.Flow {
	return impl.Flow{From: from, To: to, Name: name}
}

// flowRows are flows in the order of their fields.
type flowRows [][3]int

func (r flowRows) list() []impl.Flow {
	var list []impl.Flow
	for _, row := range r {
		list = append(list, flowOf(row[0], row[1], row[2]))
	}
	return list
}

// differentNames counts the names of flows by their order, not by a map.
func differentNames(list []impl.Flow) int {
	var names []int
	for _, flow := range list {
		names = append(names, flow.Name)
	}
	slices.Sort(names)
	return len(slices.Compact(names))
}

// firstOf has the place at which the name of a flow appears for the first time.
func firstOf(list []impl.Flow, place int) int {
	return slices.IndexFunc(list, func(flow impl.Flow) bool { return flow.Name == list[place].Name })
}

// viewOf has what the document asks for of valid flows.
func viewOf(list []impl.Flow) []impl.Flow {
	var view []impl.Flow
	for i, flow := range list {
		view = append(view, flowOf(flow.From, flow.To, differentNames(list[:firstOf(list, i)])))
	}
	return view
}

// isFlowList reports whether flows are valid, as the document defines.
func isFlowList(list []impl.Flow) bool {
	wrong := func(flow impl.Flow) bool {
		return min(flow.From, flow.To) < -1 || max(flow.From, flow.To) > impl.Names-1 || flow.Name < 0
	}
	return len(list) <= impl.MaxFlows && !slices.ContainsFunc(list, wrong)
}

// looksSame compares two lists of valid flows without numbers of their names: they must be equal at the same places.
func looksSame(a, b []impl.Flow) bool {
	if len(a) != len(b) {
		return false
	}
	for i := range a {
		if a[i].From != b[i].From || a[i].To != b[i].To {
			return false
		}
		for j := range i {
			if (a[i].Name == a[j].Name) != (b[i].Name == b[j].Name) {
				return false
			}
		}
	}
	return true
}

// batch has the arguments of BatchFlows.
type batch struct {
	senders   []int
	receivers []int
	name      int
}

func (b batch) flows() []impl.Flow {
	return impl.BatchFlows(b.senders, b.receivers, b.name)
}

func (b batch) withName(name int) batch {
	return batch{b.senders, b.receivers, name}
}

func (b batch) withReceivers(receivers []int) batch {
	return batch{b.senders, receivers, b.name}
}

func (b batch) withSenders(senders []int) batch {
	return batch{senders, b.receivers, b.name}
}

func (b batch) withReceiver(place, receiver int) batch {
	return b.withReceivers(slices.Replace(slices.Clone(b.receivers), place, place+1, receiver))
}

func (b batch) withSender(place, sender int) batch {
	return b.withSenders(slices.Replace(slices.Clone(b.senders), place, place+1, sender))
}

// exchanged has two receivers exchanged.
func (b batch) exchanged(one, two int) batch {
	return b.withReceiver(one, b.receivers[two]).withReceiver(two, b.receivers[one])
}

// wanted has the flows that the document asks for of a valid batch.
func (b batch) wanted() []impl.Flow {
	var list []impl.Flow
	name := b.name
	for _, sender := range b.senders {
		list = append(list, flowOf(sender, -1, name))
		name++
	}
	for receiver := range impl.Names {
		for i, other := range b.receivers {
			if other == receiver {
				list = append(list, flowOf(-1, receiver, name+i))
			}
		}
	}
	return list
}

// valid reports whether the document asks for the flows of a batch.
func (b batch) valid() bool {
	wrong := func(name int) bool { return name < 0 || name > impl.Names-1 }
	return len(b.senders) == len(b.receivers) && len(b.senders) <= impl.MaxFlows/2 &&
		!slices.ContainsFunc(b.senders, wrong) && !slices.ContainsFunc(b.receivers, wrong) && b.name >= 0 && b.name <= lastNumber
}

// withNames has flows between several ends, among which are the mix, 0 and Names-1.
func withNames(names []int) []impl.Flow {
	var list []impl.Flow
	for i, name := range names {
		list = append(list, flowOf(i*5%(impl.Names+1)-1, (i*7+8)%(impl.Names+1)-1, name))
	}
	return list
}

// namesOfLength has names that are all equal, all different, descending, as large as an int can be, or repeated.
func namesOfLength(length int) [][]int {
	lists := make([][]int, 14)
	for i := range length {
		for j, name := range [14]int{
			0, 7, math.MaxInt, i, 3 + 5*i, length - i, lastNumber - 20*i, math.MaxInt - i, math.MaxInt - length + i, i % 3, i * i % 5, i / 2, min(i, length-1-i), i << 32,
		} {
			lists[j] = append(lists[j], name)
		}
	}
	return lists
}

// flowLists has valid flows of all numbers of flows up to MaxFlows.
func flowLists() [][]impl.Flow {
	var lists [][]impl.Flow
	next := chosen()
	for length := 0; length <= impl.MaxFlows; length++ {
		for _, names := range namesOfLength(length) {
			lists = append(lists, withNames(names))
		}
		for below := 1; below <= impl.MaxFlows; below *= 2 {
			lists = append(lists, chosenFlows(next, length, below))
		}
	}
	return lists
}

// chosenFlows has flows with names below a limit.
func chosenFlows(next func(int) int, length, below int) []impl.Flow {
	var list []impl.Flow
	for range length {
		list = append(list, flowOf(next(impl.Names+1)-1, next(impl.Names+1)-1, next(below)))
	}
	return list
}

// fewFlowLists has flows of no, one, some, MaxFlows-1 and MaxFlows flows.
func fewFlowLists() [][]impl.Flow {
	var few [][]impl.Flow
	for _, list := range flowLists() {
		if slices.Contains([]int{0, 1, 2, 5, impl.MaxFlows - 1, impl.MaxFlows}, len(list)) {
			few = append(few, list)
		}
	}
	return few
}

// wrongFlows has flows that are wrong in one number.
func wrongFlows(right impl.Flow) []impl.Flow {
	var wrong []impl.Flow
	for _, end := range wrongEnds {
		wrong = append(wrong, flowOf(end, right.To, right.Name), flowOf(right.From, end, right.Name))
	}
	for _, name := range wrongOutwardNames {
		wrong = append(wrong, flowOf(right.From, right.To, name))
	}
	return wrong
}

// withFlow has flows of which one is replaced.
func withFlow(list []impl.Flow, place int, flow impl.Flow) []impl.Flow {
	return slices.Replace(slices.Clone(list), place, place+1, flow)
}

// receiversOfLength has receivers that are all equal, of which two are equal at each pair of places, that are all
// different, in either order, and some others.
func receiversOfLength(length int) [][]int {
	next := chosen()
	var lists [][]int
	for receiver := range impl.Names {
		equal, rising, falling := make([]int, length), make([]int, length), make([]int, length)
		for i := range length {
			equal[i], rising[i], falling[i] = receiver, (receiver+i)%impl.Names, (receiver+impl.Names-i)%impl.Names
		}
		lists = append(lists, equal, rising, falling)
	}
	for two := range length {
		for one := range two {
			falling := slices.Clone(lists[2][:length])
			falling[two] = falling[one]
			lists = append(lists, falling)
		}
	}
	for range 4 {
		some := make([]int, length)
		for i := range some {
			some[i] = next(impl.Names)
		}
		lists = append(lists, some)
	}
	return lists
}

// someBatches has valid batches of all numbers of senders, some of which are equal, or write to themselves.
func someBatches() []batch {
	names := []int{0, 1, 500, lastNumber - 1, lastNumber}
	var batches []batch
	for length := 0; length <= impl.MaxFlows/2; length++ {
		for i, receivers := range receiversOfLength(length) {
			own := batch{receivers, receivers, names[i%5]}
			batches = append(batches, own, own.withSenders(listOfSenders(length, 0, 0)), own.withSenders(listOfSenders(length, 0, 1)),
				own.withSenders(listOfSenders(length, impl.Names-1, impl.Names-1)), own.withSenders(listOfSenders(length, i, 3)))
		}
	}
	return batches
}

// listOfSenders begins with a sender, from which the next ones differ by a step.
func listOfSenders(length, first, step int) []int {
	senders := make([]int, length)
	for i := range senders {
		senders[i] = (first + i*step) % impl.Names
	}
	return senders
}

// fewBatches has batches of no, one, two, some and MaxFlows/2 senders.
func fewBatches() []batch {
	var few []batch
	for i, b := range someBatches() {
		if i%7 == 0 && slices.Contains([]int{0, 1, 2, 5, impl.MaxFlows / 2}, len(b.senders)) {
			few = append(few, b)
		}
	}
	return few
}

func checkFlows(t *testing.T, name string, got, want []impl.Flow) {
	t.Helper()
	if !slices.Equal(got, want) {
		t.Fatalf("%s is %v, want %v", name, got, want)
	}
}

// checkView fails unless ViewOf of valid flows is what the document asks for, and has it.
func checkView(t *testing.T, list []impl.Flow) []impl.Flow {
	t.Helper()
	if !isFlowList(list) {
		t.Fatalf("%v is not valid", list)
	}
	view := impl.ViewOf(list)
	if want := viewOf(list); !slices.Equal(view, want) {
		t.Fatalf("ViewOf(%v) is %v, want %v", list, view, want)
	}
	return view
}

// checkSame fails unless ViewSame is the same in either order.
func checkSame(t *testing.T, a, b []impl.Flow, want bool) {
	t.Helper()
	for _, lists := range [][2][]impl.Flow{{a, b}, {b, a}} {
		if got := impl.ViewSame(lists[0], lists[1]); got != want {
			t.Fatalf("ViewSame(%v, %v) is %v", lists[0], lists[1], got)
		}
	}
}

// checkNoView fails if flows are seen that are invalid, or if they are the same as others, or as themselves.
func checkNoView(t *testing.T, list []impl.Flow) {
	t.Helper()
	if isFlowList(list) {
		t.Fatalf("%v is valid", list)
	}
	checkFlows(t, "ViewOf of invalid flows", impl.ViewOf(list), nil)
	some := list[:min(len(list), impl.MaxFlows)]
	for _, other := range [][]impl.Flow{list, slices.Clone(list), nil, {}, some, {flowOf(0, 1, 0)}, {flowOf(-2, 0, 0)}, {flowOf(0, 0, -1)}} {
		checkSame(t, list, other, false)
	}
}

// checkBatch fails unless BatchFlows of a valid batch is what the document asks for, and has it.
func checkBatch(t *testing.T, b batch) []impl.Flow {
	t.Helper()
	list := b.flows()
	if want := b.wanted(); !b.valid() || !slices.Equal(list, want) {
		t.Fatalf("BatchFlows(%v, %v, %d) is %v, want %v", b.senders, b.receivers, b.name, list, want)
	}
	return list
}

func checkNoBatch(t *testing.T, b batch) {
	t.Helper()
	if list := b.flows(); b.valid() || len(list) != 0 {
		t.Fatalf("BatchFlows(%v, %v, %d) is %v", b.senders, b.receivers, b.name, list)
	}
}

func TestViewConstants(t *testing.T) {
	if impl.MaxFlows != 16 {
		t.Errorf("MaxFlows is %d, want 16", impl.MaxFlows)
	}
}

func TestViewOfValues(t *testing.T) {
	for _, c := range []struct{ list, want flowRows }{
		{nil, nil},
		{flowRows{{0, 0, 0}}, flowRows{{0, 0, 0}}},
		{flowRows{{-1, 7, 990}}, flowRows{{-1, 7, 0}}},
		{flowRows{{7, -1, math.MaxInt}}, flowRows{{7, -1, 0}}},
		{flowRows{{-1, -1, 4}, {-1, -1, 4}}, flowRows{{-1, -1, 0}, {-1, -1, 0}}},
		{flowRows{{2, 3, 9}, {3, 2, 5}, {2, 3, 9}}, flowRows{{2, 3, 0}, {3, 2, 1}, {2, 3, 0}}},
		{flowRows{{0, 1, 1}, {0, 1, 0}, {0, 1, 2}}, flowRows{{0, 1, 0}, {0, 1, 1}, {0, 1, 2}}},
		{flowRows{{1, -1, 8}, {1, -1, 7}, {-1, 5, 7}, {-1, 6, 3}, {5, 5, 8}}, flowRows{{1, -1, 0}, {1, -1, 1}, {-1, 5, 1}, {-1, 6, 2}, {5, 5, 0}}},
		{flowRows{{4, 4, math.MaxInt}, {4, 4, math.MaxInt - 1}, {4, 4, math.MaxInt}, {4, 4, 0}}, flowRows{{4, 4, 0}, {4, 4, 1}, {4, 4, 0}, {4, 4, 2}}},
		{flowRows{{-2, 0, 0}}, nil}, {flowRows{{0, -2, 0}}, nil}, {flowRows{{8, 0, 0}}, nil}, {flowRows{{0, 8, 0}}, nil}, {flowRows{{0, 0, -1}}, nil},
		{flowRows{{2, 3, 9}, {3, 2, 5}, {2, 8, 9}}, nil}, {flowRows{{2, 3, 9}, {3, 2, -1}, {2, 3, 9}}, nil}, {flowRows{{-2, 3, 9}, {3, 2, 5}, {2, 3, 9}}, nil},
	} {
		checkFlows(t, "ViewOf", impl.ViewOf(c.list.list()), c.want.list())
	}
}

func TestViewSameValues(t *testing.T) {
	list := flowRows{{1, -1, 8}, {2, -1, 7}, {-1, 5, 8}}.list()
	for _, c := range []struct {
		other flowRows
		want  bool
	}{
		{flowRows{{1, -1, 8}, {2, -1, 7}, {-1, 5, 8}}, true},
		{flowRows{{1, -1, 0}, {2, -1, 1}, {-1, 5, 0}}, true},
		{flowRows{{1, -1, 7}, {2, -1, 8}, {-1, 5, 7}}, true},
		{flowRows{{1, -1, math.MaxInt}, {2, -1, 0}, {-1, 5, math.MaxInt}}, true},
		{flowRows{{1, -1, 8}, {2, -1, 8}, {-1, 5, 8}}, false},
		{flowRows{{1, -1, 8}, {2, -1, 7}, {-1, 5, 7}}, false},
		{flowRows{{1, -1, 8}, {2, -1, 7}, {-1, 5, 9}}, false},
		{flowRows{{0, -1, 8}, {2, -1, 7}, {-1, 5, 8}}, false},
		{flowRows{{1, -1, 8}, {2, -1, 7}, {-1, 6, 8}}, false},
		{flowRows{{2, -1, 8}, {1, -1, 7}, {-1, 5, 8}}, false},
		{flowRows{{-1, 1, 8}, {-1, 2, 7}, {5, -1, 8}}, false},
		{flowRows{{1, -1, 8}, {2, -1, 7}}, false},
		{flowRows{{1, -1, 8}, {2, -1, 7}, {-1, 5, 8}, {-1, 5, 8}}, false},
		{flowRows{{1, -1, -1}, {2, -1, 7}, {-1, 5, -1}}, false},
		{flowRows{{1, -1, 8}, {2, 8, 7}, {-1, 5, 8}}, false},
		{nil, false},
	} {
		checkSame(t, list, c.other.list(), c.want)
	}
}

func TestBatchFlowsValues(t *testing.T) {
	for _, c := range []struct {
		batch
		want flowRows
	}{
		{batch{nil, nil, 5}, nil},
		{batch{[]int{0}, []int{7}, 0}, flowRows{{0, -1, 0}, {-1, 7, 1}}},
		{batch{[]int{7}, []int{0}, 990}, flowRows{{7, -1, 990}, {-1, 0, 991}}},
		{batch{[]int{3}, []int{3}, 8}, flowRows{{3, -1, 8}, {-1, 3, 9}}},
		{batch{[]int{1, 2}, []int{5, 4}, 10}, flowRows{{1, -1, 10}, {2, -1, 11}, {-1, 4, 13}, {-1, 5, 12}}},
		{batch{[]int{2, 1}, []int{4, 5}, 10}, flowRows{{2, -1, 10}, {1, -1, 11}, {-1, 4, 12}, {-1, 5, 13}}},
		{batch{[]int{6, 6, 6}, []int{2, 2, 2}, 0}, flowRows{{6, -1, 0}, {6, -1, 1}, {6, -1, 2}, {-1, 2, 3}, {-1, 2, 4}, {-1, 2, 5}}},
		{batch{[]int{1, 0, 1, 2}, []int{6, 0, 6, 0}, 100}, flowRows{
			{1, -1, 100}, {0, -1, 101}, {1, -1, 102}, {2, -1, 103}, {-1, 0, 105}, {-1, 0, 107}, {-1, 6, 104}, {-1, 6, 106},
		}},
		{batch{[]int{0, 1, 2, 3, 4, 5, 6, 7}, []int{7, 6, 5, 4, 3, 2, 1, 0}, 990}, flowRows{
			{0, -1, 990}, {1, -1, 991}, {2, -1, 992}, {3, -1, 993}, {4, -1, 994}, {5, -1, 995}, {6, -1, 996}, {7, -1, 997},
			{-1, 0, 1005}, {-1, 1, 1004}, {-1, 2, 1003}, {-1, 3, 1002}, {-1, 4, 1001}, {-1, 5, 1000}, {-1, 6, 999}, {-1, 7, 998},
		}},
		{batch{[]int{1, 2}, []int{5}, 10}, nil}, {batch{[]int{1}, []int{5, 4}, 10}, nil}, {batch{[]int{1}, nil, 10}, nil}, {batch{nil, []int{5}, 10}, nil},
		{batch{[]int{8, 2}, []int{5, 4}, 10}, nil}, {batch{[]int{1, -1}, []int{5, 4}, 10}, nil}, {batch{[]int{1, 2}, []int{5, 8}, 10}, nil},
		{batch{[]int{1, 2}, []int{-1, 4}, 10}, nil}, {batch{[]int{1, 2}, []int{5, 4}, -1}, nil}, {batch{[]int{1, 2}, []int{5, 4}, 991}, nil},
		{batch{[]int{0, 1, 2, 3, 4, 5, 6, 7, 0}, []int{7, 6, 5, 4, 3, 2, 1, 0, 7}, 10}, nil},
	} {
		checkFlows(t, "BatchFlows", c.flows(), c.want.list())
	}
}

func TestViewsOfNoFlows(t *testing.T) {
	lists := [][]impl.Flow{nil, {}, withNames([]int{1, 2})[:0]}
	for _, a := range lists {
		checkFlows(t, "ViewOf of no flows", impl.ViewOf(a), nil)
		for _, b := range lists {
			checkSame(t, a, b, true)
		}
		checkSame(t, a, []impl.Flow{flowOf(0, 0, 0)}, false)
		checkSame(t, a, []impl.Flow{flowOf(-2, 0, 0)}, false)
		checkSame(t, a, withNames(make([]int, impl.MaxFlows+1)), false)
	}
}

// A batch of no senders is valid, but has no flows, as invalid ones.
func TestBatchesOfNoSenders(t *testing.T) {
	for _, none := range [][]int{nil, {}, make([]int, 0, 3)} {
		for name := -2; name <= impl.Numbers+1; name++ {
			checkFlows(t, "BatchFlows of no senders", impl.BatchFlows(none, nil, name), nil)
			checkFlows(t, "BatchFlows of no senders", impl.BatchFlows(nil, none, name), nil)
		}
		checkSame(t, impl.BatchFlows(none, none, 3), impl.BatchFlows(none, none, 4), true)
	}
}

func TestViewsOfOneFlow(t *testing.T) {
	for from := -3; from <= impl.Names+2; from++ {
		for to := -3; to <= impl.Names+2; to++ {
			for _, name := range []int{-1, 0, 1, impl.Names, lastNumber, impl.Numbers, 1 << 32, math.MaxInt, math.MinInt} {
				list := []impl.Flow{flowOf(from, to, name)}
				if from < -1 || from >= impl.Names || to < -1 || to >= impl.Names || name < 0 {
					checkNoView(t, list)
					continue
				}
				checkFlows(t, "ViewOf of one flow", impl.ViewOf(list), []impl.Flow{flowOf(from, to, 0)})
				checkSame(t, list, []impl.Flow{flowOf(from, to, 5)}, true)
			}
		}
	}
}

func TestViewsOfTooManyFlows(t *testing.T) {
	for length := impl.MaxFlows + 1; length <= 2*impl.MaxFlows+1; length++ {
		for _, names := range namesOfLength(length) {
			checkView(t, withNames(names[:impl.MaxFlows]))
			checkView(t, withNames(names[length-impl.MaxFlows:]))
			checkNoView(t, withNames(names))
		}
	}
	checkNoView(t, make([]impl.Flow, 1000))
	checkNoView(t, make([]impl.Flow, 1<<16+3))
}

func TestViewsOfAllLists(t *testing.T) {
	for _, list := range flowLists() {
		checkView(t, list)
	}
}

func TestInvalidFlowsAtEachPlace(t *testing.T) {
	for length := 1; length <= impl.MaxFlows+1; length++ {
		for _, names := range namesOfLength(length)[:12:12] {
			list := withNames(names)
			for place, right := range list {
				for _, wrong := range wrongFlows(right) {
					checkNoView(t, withFlow(list, place, wrong))
				}
			}
		}
	}
}

// The flows are wrong at several places, or in several numbers.
func TestFlowsWithSeveralWrongNumbers(t *testing.T) {
	for _, end := range wrongEnds {
		for _, name := range append([]int{0, 5}, wrongOutwardNames...) {
			checkNoView(t, []impl.Flow{flowOf(end, end, name)})
			checkNoView(t, []impl.Flow{flowOf(0, end, name), flowOf(end, 0, name)})
			checkNoView(t, []impl.Flow{flowOf(end, 0, 0), flowOf(0, 0, 0), flowOf(0, 0, name)})
		}
		for _, other := range wrongEnds {
			checkNoView(t, []impl.Flow{flowOf(end, other, 4)})
		}
	}
}

// checkNumbering fails unless the names of a view are as promised: each counts at most the different names before it,
// and is equal to another one exactly where it was.
func checkNumbering(t *testing.T, list []impl.Flow) {
	t.Helper()
	view := checkView(t, list)
	for i := range list {
		if view[i].Name < 0 || view[i].Name > differentNames(view[:i]) || view[i].Name > differentNames(list[:i]) {
			t.Fatalf("ViewOf(%v) is %v: the name at %d is wrong", list, view, i)
		}
		for j := range i {
			if (view[i].Name == view[j].Name) != (list[i].Name == list[j].Name) {
				t.Fatalf("ViewOf(%v) is %v: the names at %d and %d are wrong", list, view, j, i)
			}
		}
	}
}

func TestPromise114NumbersOfNames(t *testing.T) {
	for _, list := range flowLists() {
		checkNumbering(t, list)
	}
}

func TestPromise114AllNames(t *testing.T) {
	for length, names := range [][]int{{0}, {0, 5}, {0, 1, 7}, {9, 0, 8, math.MaxInt}, {4, 3, 2, 1, 0}, {0, 1, 2, 3, 4}, {6, 2, 8}, {1, 0, math.MaxInt}, {3, 4}} {
		for _, some := range allWeights(length, names...) {
			checkNumbering(t, withNames(some))
		}
	}
}

// All other names are different, or descend.
func TestPromise114EqualAtEachPairOfPlaces(t *testing.T) {
	for length := 2; length <= impl.MaxFlows; length++ {
		for _, names := range namesOfLength(length)[3:9] {
			for two := range length {
				for one := range two {
					for _, common := range []int{names[one], names[two]} {
						equal := slices.Clone(names)
						equal[one], equal[two] = common, common
						checkNumbering(t, withNames(equal))
					}
				}
			}
		}
	}
}

// One name differs from all the others at each place, which are equal.
func TestPromise114OneOtherName(t *testing.T) {
	for length := 2; length <= impl.MaxFlows; length++ {
		for place := range length {
			for _, pair := range [][2]int{{0, 1}, {1, 0}, {math.MaxInt, 0}, {5, 1<<32 + 5}, {lastNumber, impl.Numbers}} {
				names := slices.Repeat([]int{pair[0]}, length)
				names[place] = pair[1]
				checkNumbering(t, withNames(names))
			}
		}
	}
}

// Names are different, also if they have the same remainder, or the same lower or upper bits.
func TestPromise114NamesThatDifferBySomeNumber(t *testing.T) {
	differences := []int{impl.Names + 1, impl.MaxList, impl.Numbers, 2 * impl.Numbers, impl.Group, impl.Numbers * impl.Group, math.MaxInt - impl.Numbers}
	for bit := range 63 {
		differences = append(differences, 1<<bit, 1<<bit-1)
	}
	for _, difference := range differences {
		for _, name := range []int{0, 1, 3, impl.Names} {
			other := name + difference
			if other > name {
				checkNumbering(t, withNames([]int{name, other, other, name}))
				checkNumbering(t, withNames([]int{other, 2, name, other}))
			}
		}
	}
}

func TestPromise115SendersAndReceivers(t *testing.T) {
	for _, list := range flowLists() {
		view := impl.ViewOf(list)
		if len(view) != len(list) {
			t.Fatalf("ViewOf(%v) is %v", list, view)
		}
		for i := range list {
			if view[i].From != list[i].From || view[i].To != list[i].To {
				t.Fatalf("ViewOf(%v) is %v: the flow at %d is wrong", list, view, i)
			}
		}
	}
}

func TestPromise115AllEndsAtEachPlace(t *testing.T) {
	for length := 1; length <= impl.MaxFlows; length++ {
		for place := range length {
			for from := -1; from < impl.Names; from++ {
				for to := -1; to < impl.Names; to++ {
					list := withFlow(withNames(namesOfLength(length)[6]), place, flowOf(from, to, lastNumber))
					view := checkView(t, list)
					if view[place].From != from || view[place].To != to {
						t.Fatalf("ViewOf(%v) is %v: the flow at %d is wrong", list, view, place)
					}
				}
			}
		}
	}
}

func TestPromise116ViewsOfViews(t *testing.T) {
	for _, list := range flowLists() {
		view := impl.ViewOf(list)
		checkFlows(t, "ViewOf of ViewOf", impl.ViewOf(view), view)
		checkSame(t, list, view, true)
	}
	for _, some := range allWeights(5, 8, 0, 3, math.MaxInt) {
		view := impl.ViewOf(withNames(some))
		checkFlows(t, "ViewOf of ViewOf", impl.ViewOf(view), view)
	}
}

// checkSameAsDefined fails unless ViewSame of valid flows is what is promised, and what the names at the same places
// ask for.
func checkSameAsDefined(t *testing.T, a, b []impl.Flow) bool {
	t.Helper()
	want := looksSame(a, b)
	checkSame(t, a, b, want)
	if slices.Equal(impl.ViewOf(a), impl.ViewOf(b)) != want {
		t.Fatalf("ViewOf of %v and %v is %v and %v", a, b, impl.ViewOf(a), impl.ViewOf(b))
	}
	return want
}

func TestPromise117AllLists(t *testing.T) {
	same := 0
	for _, a := range fewFlowLists() {
		for _, b := range fewFlowLists() {
			if checkSameAsDefined(t, a, b) {
				same++
			}
		}
	}
	if same < 100 {
		t.Errorf("only %d pairs of lists look the same", same)
	}
}

func TestPromise117AllNames(t *testing.T) {
	for length := range 5 {
		lists := allWeights(length, 0, 2, 1, 9)
		for _, a := range lists {
			for _, b := range lists {
				checkSameAsDefined(t, withNames(a), withNames(b))
			}
		}
	}
}

// Two lists of flows that have the same ends, or nearly so, and few names, often look the same.
func TestPromise117ManyLists(t *testing.T) {
	next := chosen()
	same, different := 0, 0
	for range 60000 {
		length := 1 + next(impl.MaxFlows)
		a := chosenFlows(next, length, 1+next(3))
		b := slices.Clone(a)
		for i := range b {
			b[i].Name = []int{7, 3, 0, math.MaxInt}[(a[i].Name+length)%4]
		}
		place := next(length)
		switch next(8) {
		case 0:
			b[place].From = next(impl.Names+1) - 1
		case 1:
			b[place].To = next(impl.Names+1) - 1
		case 2:
			b[place].Name = b[next(length)].Name
		case 3:
			b[place].Name = 1
		}
		if checkSameAsDefined(t, a, b) {
			same++
		} else {
			different++
		}
	}
	if min(same, different) < 10000 {
		t.Errorf("%d pairs of lists look the same, and %d do not", same, different)
	}
}

func TestViewSameOfAListWithItself(t *testing.T) {
	for _, list := range flowLists() {
		checkSame(t, list, list, true)
		checkSame(t, list, slices.Clone(list), true)
	}
}

func TestViewSameOfShorterAndLongerLists(t *testing.T) {
	for _, list := range flowLists() {
		for length := range len(list) {
			checkSame(t, list, list[:length], false)
			checkSame(t, list, list[len(list)-length:], false)
		}
		for _, more := range []impl.Flow{flowOf(-1, -1, 0), flowOf(0, 7, 5), flowOf(3, 3, math.MaxInt)} {
			checkSame(t, list, append(slices.Clone(list), more), false)
		}
	}
}

// One number is another one at each place: an end is never the same, but a name may be.
func TestViewSameOfListsThatDifferOnce(t *testing.T) {
	for _, list := range fewFlowLists() {
		for place, flow := range list {
			for end := -1; end < impl.Names; end++ {
				checkSame(t, list, withFlow(list, place, flowOf(end, flow.To, flow.Name)), end == flow.From)
				checkSame(t, list, withFlow(list, place, flowOf(flow.From, end, flow.Name)), end == flow.To)
			}
			for _, name := range []int{0, 1, 7, lastNumber, math.MaxInt, list[0].Name, list[len(list)-1].Name} {
				checkSameAsDefined(t, list, withFlow(list, place, flowOf(flow.From, flow.To, name)))
			}
		}
	}
}

// Among different names, one more name is the same, and one that is there is not. Among equal names, it is the other
// way round.
func TestViewSameOfOneOtherName(t *testing.T) {
	for length := 2; length <= impl.MaxFlows; length++ {
		different, equal := withNames(namesOfLength(length)[4]), withNames(namesOfLength(length)[1])
		for place := range length {
			for other := range length {
				flow := different[place]
				flow.Name = different[other].Name
				checkSame(t, different, withFlow(different, place, flow), place == other)
			}
			flow := different[place]
			flow.Name = lastNumber
			checkSame(t, different, withFlow(different, place, flow), true)
			checkSame(t, equal, withFlow(equal, place, flow), false)
		}
	}
}

// The other list is valid, or invalid, too.
func TestViewSameOfInvalidLists(t *testing.T) {
	for _, list := range fewFlowLists() {
		for place, right := range list {
			for _, wrong := range wrongFlows(right) {
				invalid := withFlow(list, place, wrong)
				checkSame(t, list, invalid, false)
				checkSame(t, invalid, slices.Clone(invalid), false)
				checkSame(t, invalid, withFlow(list, len(list)-1-place, wrong), false)
				checkSame(t, invalid, nil, false)
			}
		}
	}
	for length := impl.MaxFlows + 1; length <= 2*impl.MaxFlows; length++ {
		list := withNames(namesOfLength(length)[3])
		for _, other := range [][]impl.Flow{list, nil, list[:impl.MaxFlows], list[:length-1], withNames(namesOfLength(length)[5])} {
			checkSame(t, list, other, false)
		}
	}
}

func withAdded(list []impl.Flow, number int) []impl.Flow {
	more := slices.Clone(list)
	for i := range more {
		more[i].Name += number
	}
	return more
}

// Where all names are still valid, the observer sees the same; otherwise, nothing.
func TestPromise118AddedNumbers(t *testing.T) {
	valid, invalid := 0, 0
	for _, list := range flowLists() {
		names := []int{0}
		for _, flow := range list {
			names = append(names, flow.Name)
		}
		least, greatest := slices.Min(names[min(1, len(list)):]), slices.Max(names)
		for _, number := range []int{0, 1, 2, 991, 1 << 32, -least, math.MaxInt - greatest, -least - 1, math.MaxInt - greatest + 1, -1, math.MinInt} {
			more := withAdded(list, number)
			checkSame(t, list, more, isFlowList(more))
			if isFlowList(more) {
				checkFlows(t, "ViewOf with a number added", impl.ViewOf(more), impl.ViewOf(list))
				valid++
			} else {
				invalid++
			}
		}
	}
	if min(valid, invalid) < 500 {
		t.Errorf("%d lists are valid, and %d are not", valid, invalid)
	}
}

func TestPromise119FirstFlows(t *testing.T) {
	for _, list := range flowLists() {
		all := impl.ViewOf(list)
		for length := range len(list) + 1 {
			checkFlows(t, "ViewOf of the first flows", impl.ViewOf(list[:length]), all[:length])
		}
	}
	for _, some := range allWeights(5, 8, 0, 3, math.MaxInt) {
		list := withNames(some)
		for length := range len(list) + 1 {
			checkFlows(t, "ViewOf of the first flows", impl.ViewOf(list[:length]), impl.ViewOf(list)[:length])
		}
	}
}

// checkOrderOfBatch fails unless the flows are as promised: from each sender, and then to the receivers in order, to
// each as many as it gets letters.
func checkOrderOfBatch(t *testing.T, b batch) {
	t.Helper()
	list := checkBatch(t, b)
	senders := len(b.senders)
	if len(list) != 2*senders {
		t.Fatalf("BatchFlows(%v, %v, %d) has %d flows", b.senders, b.receivers, b.name, len(list))
	}
	letters := make([]int, impl.Names)
	for i, sender := range b.senders {
		letters[b.receivers[i]]++
		if list[i].From != sender || list[i].To != -1 || list[i].Name != b.name+i {
			t.Fatalf("BatchFlows(%v, %v, %d) is %v: the flow at %d is wrong", b.senders, b.receivers, b.name, list, i)
		}
	}
	before := 0
	for _, flow := range list[senders:] {
		letters[flow.To]--
		index := flow.Name - b.name - senders
		if flow.From != -1 || flow.To < before || index < 0 || index >= senders || b.receivers[index] != flow.To {
			t.Fatalf("BatchFlows(%v, %v, %d) is %v: %v is wrong", b.senders, b.receivers, b.name, list, flow)
		}
		before = flow.To
	}
	checkNumbers(t, "the letters without a flow", letters, make([]int, impl.Names))
}

func TestPromise120OrderOfBatches(t *testing.T) {
	for _, b := range someBatches() {
		checkOrderOfBatch(t, b)
	}
}

func TestPromise120AllBatchesOfTwo(t *testing.T) {
	all := listOfSenders(impl.Names, 0, 1)
	for i, senders := range allWeights(2, all...) {
		for j, receivers := range allWeights(2, all...) {
			checkOrderOfBatch(t, batch{senders, receivers, (i*64 + j) % impl.Numbers})
		}
	}
}

func TestPromise120AllReceiversOfFour(t *testing.T) {
	for i, receivers := range allWeights(4, listOfSenders(impl.Names, 0, 1)...) {
		checkOrderOfBatch(t, batch{listOfSenders(4, i, 3), receivers, i % impl.Numbers})
	}
}

// Flows to one receiver stay in the order of their indexes, also in full batches.
func TestPromise120EqualReceivers(t *testing.T) {
	for choice := range 1 << (impl.MaxFlows / 2) {
		receivers := make([]int, impl.MaxFlows/2)
		for i := range receivers {
			receivers[i] = 6 - 5*(choice>>i&1)
		}
		for length := range len(receivers) + 1 {
			checkOrderOfBatch(t, batch{listOfSenders(length, 7, 7), receivers[:length], choice})
		}
	}
}

func TestPromise120AllNames(t *testing.T) {
	for name := range impl.Numbers {
		for _, b := range []batch{{[]int{7}, []int{0}, name}, {[]int{1, 2, 1}, []int{4, 4, 3}, name}, {listOfSenders(8, 0, 0), listOfSenders(8, 5, 3), name}} {
			checkOrderOfBatch(t, b)
		}
	}
}

func TestPromise121FreshNames(t *testing.T) {
	for _, b := range someBatches() {
		for _, name := range []int{0, 1, 500, 990} {
			list := b.withName(name).flows()
			if len(list) != 2*len(b.senders) || differentNames(list) != len(list) {
				t.Fatalf("BatchFlows(%v, %v, %d) is %v", b.senders, b.receivers, name, list)
			}
			for i, flow := range impl.ViewOf(list) {
				if flow.Name != i {
					t.Fatalf("ViewOf of BatchFlows(%v, %v, %d) has the name %d at %d", b.senders, b.receivers, name, flow.Name, i)
				}
			}
		}
	}
}

func TestPromise122ExchangedReceivers(t *testing.T) {
	for _, b := range someBatches() {
		for two := range b.receivers {
			for one := range two + 1 {
				checkSame(t, b.flows(), checkBatch(t, b.exchanged(one, two)), true)
			}
		}
	}
}

// Whoever writes to whom: the receivers are in any order.
func TestPromise122AllOrdersOfReceivers(t *testing.T) {
	for _, b := range []batch{
		{[]int{0, 1, 2, 3, 4, 5}, []int{7, 6, 5, 4, 3, 2}, 0}, {[]int{0, 1, 2, 3, 4, 5}, []int{0, 1, 2, 3, 4, 5}, 17}, {[]int{2, 2, 0, 0, 1, 1}, []int{0, 7, 7, 3, 0, 7}, lastNumber},
		{[]int{1, 2, 3, 4}, []int{5, 5, 6, 6}, 8}, {[]int{7, 7, 7}, []int{1, 2, 3}, 1},
	} {
		for _, receivers := range permutations(b.receivers) {
			checkSame(t, b.flows(), checkBatch(t, b.withReceivers(receivers)), true)
			checkSame(t, b.flows(), checkBatch(t, batch{b.senders, receivers, 500}), true)
		}
	}
}

// Exchanged senders are seen, since they are named in order.
func TestExchangedSendersAreSeen(t *testing.T) {
	for _, b := range fewBatches() {
		for two := range b.senders {
			for one := range two {
				other := b.withSender(one, b.senders[two]).withSender(two, b.senders[one])
				checkSame(t, b.flows(), checkBatch(t, other), b.senders[one] == b.senders[two])
			}
		}
	}
}

func TestPromise123OtherNames(t *testing.T) {
	for _, b := range someBatches() {
		for _, name := range []int{0, 1, 2, 15, 16, 499, lastNumber - 1, lastNumber} {
			checkSame(t, b.flows(), checkBatch(t, b.withName(name)), true)
		}
	}
	for name := range impl.Numbers {
		for _, b := range []batch{{[]int{7}, []int{0}, 3}, {[]int{1, 2, 1}, []int{4, 4, 3}, 500}, {listOfSenders(8, 0, 0), listOfSenders(8, 5, 3), 990}} {
			checkSame(t, b.flows(), checkBatch(t, b.withName(name)), true)
		}
	}
}

func TestPromise124OtherReceivers(t *testing.T) {
	for _, b := range someBatches() {
		for place, right := range b.receivers {
			for receiver := range impl.Names {
				other := b.withReceiver(place, receiver)
				checkSame(t, b.flows(), checkBatch(t, other), receiver == right)
				checkSame(t, b.flows(), checkBatch(t, other.withName(lastNumber-b.name)), receiver == right)
			}
		}
	}
}

// The same is seen of two batches exactly where the same receivers get as many letters from the same senders in order.
func TestPromise124AllReceiversOfThree(t *testing.T) {
	for _, one := range allWeights(3, 0, 3, 6, 7) {
		for _, two := range allWeights(3, 0, 3, 6, 7) {
			a, b := batch{[]int{1, 0, 1}, one, 4}, batch{[]int{1, 0, 1}, two, 90}
			checkSame(t, a.flows(), b.flows(), slices.Equal(slices.Sorted(slices.Values(one)), slices.Sorted(slices.Values(two))))
		}
	}
}

func TestOtherSendersAreSeen(t *testing.T) {
	for _, b := range fewBatches() {
		for place, right := range b.senders {
			for sender := range impl.Names {
				checkSame(t, b.flows(), checkBatch(t, b.withSender(place, sender)), sender == right)
			}
		}
	}
}

// The names are later if the first one of them is behind the last one of the batch before.
func TestPromise125BatchesBehindEachOther(t *testing.T) {
	for _, b := range someBatches() {
		for _, step := range []int{0, 1, 17, 500, impl.Numbers} {
			first := b.withName(b.name % 400)
			later := first.withName(first.name + 2*len(b.senders) + step)
			if !later.valid() {
				continue
			}
			both := append(first.flows(), later.flows()...)
			if len(both) != 4*len(b.senders) || differentNames(both) != len(both) {
				t.Fatalf("BatchFlows(%v, %v, %d), followed by the same from %d, is %v", b.senders, b.receivers, first.name, later.name, both)
			}
			checkBothBatches(t, both)
		}
	}
}

// checkBothBatches fails unless an observer sees two batches where they are valid together, which have different names.
func checkBothBatches(t *testing.T, both []impl.Flow) {
	t.Helper()
	if len(both) > impl.MaxFlows {
		checkNoView(t, both)
		return
	}
	for i, flow := range checkView(t, both) {
		if flow.Name != i {
			t.Fatalf("ViewOf(%v) has the name %d at %d", both, flow.Name, i)
		}
	}
}

// If the later names begin too early, the batches have names in common.
func TestBatchesWithNamesInCommon(t *testing.T) {
	for _, b := range fewBatches() {
		first, flows := b.withName(b.name/2), 2*len(b.senders)
		for step := range flows + 1 {
			both := append(first.flows(), first.withName(first.name+step).flows()...)
			if differentNames(both) != flows+step {
				t.Fatalf("two batches of %d flows have %d names, %d apart", flows, differentNames(both), step)
			}
		}
	}
}

func TestBatchesOfTooManySenders(t *testing.T) {
	for length := impl.MaxFlows/2 + 1; length <= 2*impl.MaxFlows+1; length++ {
		for _, b := range []batch{{listOfSenders(length, 0, 1), listOfSenders(length, 3, 5), 10}, {make([]int, length), make([]int, length), 0}} {
			checkNoBatch(t, b)
			checkBatch(t, batch{b.senders[:impl.MaxFlows/2], b.receivers[:impl.MaxFlows/2], b.name})
		}
	}
	checkNoBatch(t, batch{make([]int, 1<<16), make([]int, 1<<16), 0})
}

func TestBatchesWithMoreOrFewerReceivers(t *testing.T) {
	for senders := range 2*impl.MaxFlows + 1 {
		for receivers := range 2*impl.MaxFlows + 1 {
			b := batch{listOfSenders(senders, 1, 3), listOfSenders(receivers, 7, 5), 20}
			if senders == receivers && senders <= 8 {
				checkBatch(t, b)
			} else {
				checkNoBatch(t, b)
			}
		}
	}
}

func TestWrongSendersAndReceiversAtEachPlace(t *testing.T) {
	for _, b := range fewBatches() {
		for place := range b.senders {
			for _, wrong := range append([]int{-2, -1, impl.Names}, wrongNames...) {
				checkNoBatch(t, b.withSender(place, wrong))
				checkNoBatch(t, b.withReceiver(place, wrong))
				checkNoBatch(t, b.withSender(place, wrong).withReceiver(place, wrong))
				checkNoBatch(t, b.withSender(place, wrong).withName(-1))
			}
		}
	}
}

func TestBatchesWithWrongNames(t *testing.T) {
	for _, b := range fewBatches() {
		for _, name := range slices.Concat(wrongNumbers, []int{-2, -16, 992, impl.Group, 1007, 1<<32 + 3, -1<<32 + 3, math.MaxInt - 8, math.MaxInt - 16, math.MinInt + 3}) {
			checkNoBatch(t, b.withName(name))
		}
	}
	for name := -impl.Numbers; name <= 2*impl.Numbers; name++ {
		b := batch{[]int{1, 2}, []int{5, 4}, name}
		if name < 0 || name > lastNumber {
			checkNoBatch(t, b)
		} else {
			checkBatch(t, b)
		}
	}
}

// checkFlowsApart fails if a function changes the memory in which its arguments are, or if what it returns shares
// memory with it, or with another result.
func checkFlowsApart(t *testing.T, name string, flows []impl.Flow, numbers []int, of func() []impl.Flow) {
	t.Helper()
	beforeFlows, beforeNumbers := slices.Clone(flows), slices.Clone(numbers)
	got, another := of(), of()
	want := slices.Clone(another)
	checkFlows(t, "the result of "+name, got, want)
	for i := range got[:cap(got)] {
		got[:cap(got)][i] = flowOf(-7, -7, -7)
	}
	checkFlows(t, "the memory of "+name, flows, beforeFlows)
	checkNumbers(t, "the memory of "+name, numbers, beforeNumbers)
	checkFlows(t, "another result of "+name, another, want)
	checkFlows(t, "a later result of "+name, of(), want)
}

// Some lists are views already, so that ViewOf changes nothing, and some are invalid.
func TestViewsShareNoMemory(t *testing.T) {
	lists := append(flowLists(), flowRows{{-2, 0, 0}}.list(), flowRows{{0, 0, 4}, {0, 0, -1}}.list(), make([]impl.Flow, impl.MaxFlows+1))
	for _, list := range lists {
		for _, some := range [][]impl.Flow{list, impl.ViewOf(list)} {
			memory := slices.Concat(some, withNames([]int{1, 2, 3}), some)
			checkFlowsApart(t, "ViewOf", memory, nil, func() []impl.Flow { return impl.ViewOf(memory[:len(some)]) })
			checkFlowsApart(t, "ViewSame", memory, nil, func() []impl.Flow {
				impl.ViewSame(memory[:len(some)], memory[len(some)+3:])
				impl.ViewSame(memory[:len(some)], memory[:len(some)/2])
				return nil
			})
		}
	}
}

func TestBatchFlowsShareNoMemory(t *testing.T) {
	batches := append(someBatches(), batch{[]int{8}, []int{0}, 0}, batch{[]int{1, 2}, []int{3}, 0}, batch{[]int{1, 2}, []int{4, 3}, -1}, batch{make([]int, 9), make([]int, 9), 0})
	for _, b := range batches {
		memory := slices.Concat(b.receivers, b.senders, listOf(impl.MaxList, 17, 29))
		senders, receivers := memory[len(b.receivers):][:len(b.senders)], memory[:len(b.receivers)]
		checkFlowsApart(t, "BatchFlows", nil, memory, func() []impl.Flow { return impl.BatchFlows(senders, receivers, b.name) })
		checkFlowsApart(t, "BatchFlows to themselves", nil, memory, func() []impl.Flow { return impl.BatchFlows(receivers, receivers, b.name) })
	}
}

// A list of flows goes on as an argument, and the earlier ones stay as they were.
func TestEarlierViewsStay(t *testing.T) {
	flows := impl.BatchFlows([]int{1, 2, 1}, []int{5, 4, 4}, 10)
	view := impl.ViewOf(flows)
	again := impl.ViewOf(view)
	view[0], again[1] = flowOf(-7, -7, -7), flowOf(-8, -8, -8)
	checkFlows(t, "the flows", flows, flowRows{{1, -1, 10}, {2, -1, 11}, {1, -1, 12}, {-1, 4, 14}, {-1, 4, 15}, {-1, 5, 13}}.list())
	checkFlows(t, "the view", view[1:], flowRows{{2, -1, 1}, {1, -1, 2}, {-1, 4, 3}, {-1, 4, 4}, {-1, 5, 5}}.list())
	checkFlows(t, "the second view", again[2:], flowRows{{1, -1, 2}, {-1, 4, 3}, {-1, 4, 4}, {-1, 5, 5}}.list())
}
