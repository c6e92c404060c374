package tests

import (
	"math"
	"slices"
	"testing"

	"loop.example/mixrelay/impl"
)

// mostReady is the greatest number of letters of a plan.
const mostReady = 2 * impl.MaxLetter

// wrongTimes has the neighbours of both ends, and numbers that are in range after a remainder or with their upper bits
// cut off.
var wrongTimes = []int{
	-1, -2, -impl.MaxUntil, -impl.MaxUntil - 1, impl.MaxUntil + 1, impl.MaxUntil + 2, 2 * impl.MaxUntil, 256, 256 + 7, 1 << 32, 1<<32 + 3, 1<<32 - 1,
	-1 << 32, -1<<32 + 3, math.MaxInt - impl.MaxUntil, math.MaxInt, math.MinInt, math.MinInt + 3,
}

// wrongPeriods has the neighbours of both ends, and numbers that are in range after a remainder or with their upper bits
// cut off.
var wrongPeriods = []int{
	0, -1, -2, -impl.MaxPeriod, -impl.MaxPeriod - 1, impl.MaxPeriod + 1, impl.MaxPeriod + 2, 2 * impl.MaxPeriod, impl.MaxUntil, 256 + 2, 1 << 32, 1<<32 + 2,
	-1 << 32, -1<<32 + 2, math.MaxInt, math.MinInt, math.MinInt + 2,
}

func sendingOf(time, letter int) impl.Sending {
	return impl.Sending{Time: time, Letter: letter}
}

// sendingRows are packets of a plan in the order of their fields.
type sendingRows [][2]int

func (r sendingRows) list() []impl.Sending {
	var list []impl.Sending
	for _, row := range r {
		list = append(list, sendingOf(row[0], row[1]))
	}
	return list
}

// schedule has the arguments of CoverPlan.
type schedule struct {
	ready  []int
	period int
	until  int
}

func (s schedule) plan() []impl.Sending {
	return impl.CoverPlan(s.ready, s.period, s.until)
}

func (s schedule) delay() int {
	return impl.CoverDelay(s.ready, s.plan())
}

func (s schedule) withReady(ready []int) schedule {
	return schedule{ready, s.period, s.until}
}

func (s schedule) withTime(place, time int) schedule {
	return s.withReady(slices.Replace(slices.Clone(s.ready), place, place+1, time))
}

func (s schedule) withPeriod(period int) schedule {
	return schedule{s.ready, period, s.until}
}

func (s schedule) withUntil(until int) schedule {
	return schedule{s.ready, s.period, until}
}

// wanted has the plan that the document asks for of valid arguments: from letter to letter, each in the first packet
// that is behind that of the letter before, and not before the letter is ready.
func (s schedule) wanted() []impl.Sending {
	list := make([]impl.Sending, s.until/s.period+1)
	for i := range list {
		list[i] = sendingOf(i*s.period, -1)
	}
	free := 0
	for letter, time := range s.ready {
		free = max(free, (time+s.period-1)/s.period)
		if free < len(list) {
			list[free].Letter = letter
		}
		free++
	}
	return list
}

// valid reports whether the document asks for a plan.
func (s schedule) valid() bool {
	before := 0
	for _, time := range s.ready {
		if time < before || time > impl.MaxUntil {
			return false
		}
		before = time
	}
	return len(s.ready) <= mostReady && s.period >= 1 && s.period <= impl.MaxPeriod && s.until >= 0 && s.until <= impl.MaxUntil
}

// risingTimes begin with a time, from which the next ones differ by a step, as far as MaxUntil.
func risingTimes(length, first, step int) []int {
	times := make([]int, length)
	for i := range times {
		times[i] = min(first+i*step, impl.MaxUntil)
	}
	return times
}

// chosenTimes never decrease.
func chosenTimes(next func(int) int, length, below int) []int {
	times := make([]int, length)
	for i := range times {
		times[i] = next(below)
	}
	slices.Sort(times)
	return times
}

// readyLists has valid times of all numbers of letters: all at once, some at once, and one after the other.
func readyLists() [][]int {
	lists := [][]int{nil}
	next := chosen()
	for length := 1; length <= mostReady; length++ {
		for _, first := range []int{0, 1, 2, 8, 9, 10, 27, impl.MaxUntil - 1, impl.MaxUntil} {
			lists = append(lists, risingTimes(length, first, 0), risingTimes(length, first, 1), risingTimes(length, first, 4))
		}
		for below := 2; below <= impl.MaxUntil+1; below += 3 {
			lists = append(lists, chosenTimes(next, length, below))
		}
	}
	return lists
}

// fewReadyLists has times of no, one, some, most and all letters.
func fewReadyLists() [][]int {
	var few [][]int
	for i, list := range readyLists() {
		if len(list) < 2 || i%5 == 0 && slices.Contains([]int{3, mostReady - 1, mostReady}, len(list)) {
			few = append(few, list)
		}
	}
	return few
}

// endsFor has ends at multiples of a period, and next to them, and both ends of the range.
func endsFor(period int) []int {
	var ends []int
	last := impl.MaxUntil / period * period
	for _, multiple := range []int{0, period, 2 * period, 3 * period, last, impl.MaxUntil} {
		ends = append(ends, multiple-1, multiple, multiple+1)
	}
	slices.Sort(ends)
	return slices.DeleteFunc(slices.Compact(ends), func(end int) bool { return end < 0 || end > impl.MaxUntil })
}

// schedulesOf has lists of times with all periods, each with some ends.
func schedulesOf(lists [][]int) []schedule {
	var schedules []schedule
	for _, ready := range lists {
		for period := 1; period <= impl.MaxPeriod; period++ {
			for _, until := range endsFor(period) {
				schedules = append(schedules, schedule{ready, period, until})
			}
		}
	}
	return schedules
}

func someSchedules() []schedule {
	return schedulesOf(readyLists())
}

func fewSchedules() []schedule {
	return schedulesOf(fewReadyLists())
}

// lastPacket has the time of the last packet of a plan.
func lastPacket(s schedule) int {
	return s.until - s.until%s.period
}

// lettersIn has the letters that are sent, in the order of the packets.
func lettersIn(plan []impl.Sending) []int {
	var letters []int
	for _, packet := range plan {
		if packet.Letter != -1 {
			letters = append(letters, packet.Letter)
		}
	}
	return letters
}

func timesIn(plan []impl.Sending) []int {
	var times []int
	for _, packet := range plan {
		times = append(times, packet.Time)
	}
	return times
}

// delayOf has what the document asks for of any packets.
func delayOf(ready []int, plan []impl.Sending) int {
	wrong := func(time int) bool { return time < 0 || time > impl.MaxUntil }
	var delays []int
	for _, packet := range plan {
		switch letter := packet.Letter; {
		case letter == -1:
		case letter < -1 || letter >= len(ready) || wrong(packet.Time) || wrong(ready[letter]):
			return -1
		default:
			delays = append(delays, packet.Time-ready[letter])
		}
	}
	return slices.Max(append(delays, -1))
}

// anyPlans has lists of packets of any kind, also such as CoverPlan does not return.
func anyPlans() [][]impl.Sending {
	times := slices.Concat([]int{0, 1, 5, impl.MaxUntil - 1, impl.MaxUntil}, wrongTimes)
	letters := []int{-1, 0, -1, 1, -2, -1, 7, 8, 9, -1, -1, math.MaxInt, math.MinInt, 1 << 32, 1<<32 - 1, -1 << 32}
	plans := [][]impl.Sending{nil, {}}
	next := chosen()
	for _, length := range []int{1, 1, 2, 3, 5, 8, 41, 42, 100} {
		for round := range 40 {
			var plan []impl.Sending
			for range length {
				plan = append(plan, sendingOf(times[next(len(times))], letters[next(1+round%len(letters))]))
			}
			plans = append(plans, plan)
		}
	}
	return plans
}

func checkSendings(t *testing.T, name string, got, want []impl.Sending) {
	t.Helper()
	if !slices.Equal(got, want) {
		t.Fatalf("%s is %v, want %v", name, got, want)
	}
}

// checkPlan fails unless CoverPlan of valid arguments is what the document asks for, and has it.
func checkPlan(t *testing.T, s schedule) []impl.Sending {
	t.Helper()
	if !s.valid() {
		t.Fatalf("%+v is not valid", s)
	}
	plan := s.plan()
	if want := s.wanted(); !slices.Equal(plan, want) {
		t.Fatalf("CoverPlan of %+v is %v, want %v", s, plan, want)
	}
	return plan
}

func checkNoPlan(t *testing.T, s schedule) {
	t.Helper()
	if plan := s.plan(); s.valid() || len(plan) != 0 {
		t.Fatalf("CoverPlan of %+v is %v", s, plan)
	}
}

func checkDelay(t *testing.T, ready []int, plan []impl.Sending, want int) {
	t.Helper()
	if got := impl.CoverDelay(ready, plan); got != want {
		t.Fatalf("CoverDelay(%v, %v) is %d, want %d", ready, plan, got, want)
	}
}

func checkCover(t *testing.T, plan []impl.Sending, want int) {
	t.Helper()
	if got := impl.CoverCount(plan); got != want {
		t.Fatalf("CoverCount(%v) is %d, want %d", plan, got, want)
	}
}

func checkVisible(t *testing.T, plan []impl.Sending, want []int) {
	t.Helper()
	got := impl.CoverVisible(plan)
	if !slices.Equal(got, want) {
		t.Fatalf("CoverVisible(%v) is %v, want %v", plan, got, want)
	}
}

func TestCoverConstants(t *testing.T) {
	if impl.MaxPeriod != 9 || impl.MaxUntil != 40 {
		t.Errorf("MaxPeriod is %d, MaxUntil is %d", impl.MaxPeriod, impl.MaxUntil)
	}
}

// writtenPlan has a plan, its delay and its cover, written out.
type writtenPlan struct {
	schedule
	want  sendingRows
	delay int
	cover int
}

func writtenPlans() []writtenPlan {
	return []writtenPlan{
		{schedule{nil, 1, 0}, sendingRows{{0, -1}}, -1, 1},
		{schedule{nil, 9, 40}, sendingRows{{0, -1}, {9, -1}, {18, -1}, {27, -1}, {36, -1}}, -1, 5},
		{schedule{nil, 5, 9}, sendingRows{{0, -1}, {5, -1}}, -1, 2},
		{schedule{nil, 5, 10}, sendingRows{{0, -1}, {5, -1}, {10, -1}}, -1, 3},
		{schedule{nil, 5, 11}, sendingRows{{0, -1}, {5, -1}, {10, -1}}, -1, 3},
		{schedule{[]int{0}, 3, 0}, sendingRows{{0, 0}}, 0, 0},
		{schedule{[]int{1}, 3, 0}, sendingRows{{0, -1}}, -1, 1},
		{schedule{[]int{1}, 3, 2}, sendingRows{{0, -1}}, -1, 1},
		{schedule{[]int{1}, 3, 3}, sendingRows{{0, -1}, {3, 0}}, 2, 1},
		{schedule{[]int{2}, 3, 8}, sendingRows{{0, -1}, {3, 0}, {6, -1}}, 1, 2},
		{schedule{[]int{3}, 3, 8}, sendingRows{{0, -1}, {3, 0}, {6, -1}}, 0, 2},
		{schedule{[]int{4}, 3, 8}, sendingRows{{0, -1}, {3, -1}, {6, 0}}, 2, 2},
		{schedule{[]int{7}, 3, 8}, sendingRows{{0, -1}, {3, -1}, {6, -1}}, -1, 3},
		{schedule{[]int{40}, 8, 40}, sendingRows{{0, -1}, {8, -1}, {16, -1}, {24, -1}, {32, -1}, {40, 0}}, 0, 5},
		{schedule{[]int{40}, 9, 40}, sendingRows{{0, -1}, {9, -1}, {18, -1}, {27, -1}, {36, -1}}, -1, 5},
		{schedule{[]int{28}, 9, 40}, sendingRows{{0, -1}, {9, -1}, {18, -1}, {27, -1}, {36, 0}}, 8, 4},
		{schedule{[]int{1, 2}, 2, 6}, sendingRows{{0, -1}, {2, 0}, {4, 1}, {6, -1}}, 2, 2},
		{schedule{[]int{0, 0, 0}, 1, 4}, sendingRows{{0, 0}, {1, 1}, {2, 2}, {3, -1}, {4, -1}}, 2, 2},
		{schedule{[]int{0, 0, 0}, 4, 9}, sendingRows{{0, 0}, {4, 1}, {8, 2}}, 8, 0},
		{schedule{[]int{0, 0, 0}, 4, 7}, sendingRows{{0, 0}, {4, 1}}, 4, 0},
		{schedule{[]int{3, 3, 5}, 2, 9}, sendingRows{{0, -1}, {2, -1}, {4, 0}, {6, 1}, {8, 2}}, 3, 2},
		{schedule{[]int{0, 7}, 3, 10}, sendingRows{{0, 0}, {3, -1}, {6, -1}, {9, 1}}, 2, 2},
		{schedule{[]int{0, 40}, 5, 20}, sendingRows{{0, 0}, {5, -1}, {10, -1}, {15, -1}, {20, -1}}, 0, 4},
		{schedule{[]int{5, 5, 5, 5, 5, 5, 5, 5}, 5, 40}, sendingRows{{0, -1}, {5, 0}, {10, 1}, {15, 2}, {20, 3}, {25, 4}, {30, 5}, {35, 6}, {40, 7}}, 35, 1},
		{schedule{[]int{0, 0, 0, 0, 0, 0, 0, 0}, 5, 40}, sendingRows{{0, 0}, {5, 1}, {10, 2}, {15, 3}, {20, 4}, {25, 5}, {30, 6}, {35, 7}, {40, -1}}, 35, 1},
		{schedule{[]int{40, 40, 40, 40, 40, 40, 40, 40}, 5, 40}, sendingRows{{0, -1}, {5, -1}, {10, -1}, {15, -1}, {20, -1}, {25, -1}, {30, -1}, {35, -1}, {40, 0}}, 0, 8},
		{schedule{[]int{0, 1, 2, 3, 4, 5, 6, 7}, 1, 7}, sendingRows{{0, 0}, {1, 1}, {2, 2}, {3, 3}, {4, 4}, {5, 5}, {6, 6}, {7, 7}}, 0, 0},
	}
}

func TestCoverValues(t *testing.T) {
	for _, w := range writtenPlans() {
		checkSendings(t, "CoverPlan", w.plan(), w.want.list())
		checkSendings(t, "the model of the tests", w.wanted(), w.want.list())
		checkDelay(t, w.ready, w.want.list(), w.delay)
		checkCover(t, w.want.list(), w.cover)
		var times []int
		for _, row := range w.want {
			times = append(times, row[0])
		}
		checkVisible(t, w.want.list(), times)
	}
}

func TestNoPlanValues(t *testing.T) {
	for _, s := range []schedule{
		{[]int{-1}, 2, 6}, {[]int{41}, 2, 6}, {[]int{2, 1}, 2, 6}, {[]int{0, 41}, 2, 6}, {[]int{-1, 0}, 2, 6}, {make([]int, 9), 2, 6},
		{[]int{1, 2}, 0, 6}, {[]int{1, 2}, -1, 6}, {[]int{1, 2}, 10, 6}, {[]int{1, 2}, 2, -1}, {[]int{1, 2}, 2, 41}, {nil, 0, 0}, {nil, 1, -1},
	} {
		checkSendings(t, "CoverPlan of invalid arguments", s.plan(), nil)
	}
}

// A letter that is never sent makes a plan invalid, too, if its time is wrong.
func TestWrongTimesAtEachPlace(t *testing.T) {
	for length := 1; length <= mostReady; length++ {
		for _, ready := range [][]int{risingTimes(length, 0, 0), risingTimes(length, 3, 2), risingTimes(length, impl.MaxUntil, 0)} {
			for place := range ready {
				for _, wrong := range wrongTimes {
					checkNoPlan(t, schedule{ready, 2, impl.MaxUntil}.withTime(place, wrong))
					checkNoPlan(t, schedule{ready, impl.MaxPeriod, 0}.withTime(place, wrong))
				}
			}
		}
	}
}

func TestTimesThatDecreaseAtEachPlace(t *testing.T) {
	for length := 2; length <= mostReady; length++ {
		for place := 1; place < length; place++ {
			for _, less := range []int{1, 2, 20} {
				s := schedule{risingTimes(length, 20, 2), 1, impl.MaxUntil}
				checkPlan(t, s.withTime(place, s.ready[place-1]))
				checkNoPlan(t, s.withTime(place, s.ready[place-1]-less))
				checkNoPlan(t, s.withTime(place, s.ready[place-1]-less).withPeriod(impl.MaxPeriod).withUntil(0))
			}
		}
	}
	for _, ready := range permutations([]int{0, 9, 18, impl.MaxUntil}) {
		if s := (schedule{ready, 9, impl.MaxUntil}); slices.IsSorted(ready) {
			checkPlan(t, s)
		} else {
			checkNoPlan(t, s)
		}
	}
}

func TestNumbersOfLetters(t *testing.T) {
	for length := range 4 * mostReady {
		for _, time := range []int{0, 1, 9, impl.MaxUntil} {
			s := schedule{risingTimes(length, time, 0), 2, impl.MaxUntil}
			if length <= mostReady {
				checkPlan(t, s)
			} else {
				checkNoPlan(t, s)
			}
		}
	}
	for _, length := range []int{256, 256 + 1, 1 << 16, 1<<16 + mostReady} {
		checkNoPlan(t, schedule{make([]int, length), 1, impl.MaxUntil})
	}
}

func TestWrongPeriods(t *testing.T) {
	for _, ready := range fewReadyLists() {
		for _, until := range []int{0, 1, 9, 10, impl.MaxUntil} {
			for _, period := range wrongPeriods {
				checkNoPlan(t, schedule{ready, period, until})
			}
			for period := -30; period <= 60; period++ {
				if s := (schedule{ready, period, until}); period >= 1 && period <= impl.MaxPeriod {
					checkPlan(t, s)
				} else {
					checkNoPlan(t, s)
				}
			}
		}
	}
}

func TestWrongEnds(t *testing.T) {
	for _, ready := range fewReadyLists() {
		for _, period := range []int{1, 2, 5, impl.MaxPeriod} {
			for _, until := range wrongTimes {
				checkNoPlan(t, schedule{ready, period, until})
			}
			for until := -50; until <= 100; until++ {
				if s := (schedule{ready, period, until}); until >= 0 && until <= impl.MaxUntil {
					checkPlan(t, s)
				} else {
					checkNoPlan(t, s)
				}
			}
		}
	}
}

func TestSeveralWrongArguments(t *testing.T) {
	for _, ready := range [][]int{nil, {1}, {-1}, {2, 1}, make([]int, mostReady+1)} {
		for _, period := range []int{-1, 0, 1, impl.MaxPeriod, impl.MaxPeriod + 1} {
			for _, until := range []int{-1, 0, impl.MaxUntil, impl.MaxUntil + 1} {
				if s := (schedule{ready, period, until}); s.valid() {
					checkPlan(t, s)
				} else {
					checkNoPlan(t, s)
				}
			}
		}
	}
}

func TestCoverPlanOfManySchedules(t *testing.T) {
	for _, s := range someSchedules() {
		checkPlan(t, s)
	}
}

func TestCoverPlanOfAllSingleLetters(t *testing.T) {
	for time := range impl.MaxUntil + 1 {
		for period := 1; period <= impl.MaxPeriod; period++ {
			for until := range impl.MaxUntil + 1 {
				checkPlan(t, schedule{[]int{time}, period, until})
			}
		}
	}
}

func TestCoverPlanOfAllPairsOfLetters(t *testing.T) {
	for second := range impl.MaxUntil + 1 {
		for first := range second + 1 {
			for period := 1; period <= impl.MaxPeriod; period++ {
				for _, until := range []int{first, second, second + period - 1, impl.MaxUntil} {
					checkPlan(t, schedule{[]int{first, second}, period, min(until, impl.MaxUntil)})
				}
			}
		}
	}
}

// allEarly has all times below a limit, of up to as many letters as there may be.
func allEarly(below int) [][]int {
	all := [][]int{nil}
	last := all
	for range mostReady {
		var longer [][]int
		for _, list := range last {
			for time := range below {
				if len(list) == 0 || time >= list[len(list)-1] {
					longer = append(longer, append(slices.Clone(list), time))
				}
			}
		}
		all, last = append(all, longer...), longer
	}
	return all
}

func TestCoverPlanOfAllEarlyLetters(t *testing.T) {
	for _, ready := range allEarly(5) {
		for period := 1; period <= impl.MaxPeriod; period++ {
			for _, until := range []int{4, 9, impl.MaxUntil} {
				s := schedule{ready, period, until}
				checkDelay(t, ready, checkPlan(t, s), delayOf(ready, s.wanted()))
			}
		}
	}
}

// Letters that are ready at once are sent one after the other, as long as there are packets.
func TestLettersThatAreReadyAtOnce(t *testing.T) {
	for length := 1; length <= mostReady; length++ {
		for time := range impl.MaxUntil + 1 {
			for period := 1; period <= impl.MaxPeriod; period++ {
				s := schedule{slices.Repeat([]int{time}, length), period, impl.MaxUntil}
				plan, first := checkPlan(t, s), (time+period-1)/period
				for i, packet := range plan {
					want := i - first
					if want < 0 || want >= length {
						want = -1
					}
					if packet.Letter != want {
						t.Fatalf("packet %d of %v for %+v has the letter %d, want %d", i, plan, s, packet.Letter, want)
					}
				}
			}
		}
	}
}

// A letter that is ready at the time of a packet goes with it, also at time 0 and at the end; one that is ready one
// later waits for the next packet.
func TestLettersNextToPackets(t *testing.T) {
	for period := 1; period <= impl.MaxPeriod; period++ {
		for _, until := range endsFor(period) {
			for place := range until/period + 1 {
				for _, near := range []int{-1, 0, 1} {
					time := place*period + near
					if time < 0 || time > impl.MaxUntil {
						continue
					}
					want := place
					if near > 0 || near < 0 && period == 1 {
						want += near
					}
					if want > until/period {
						want = -1
					}
					s := schedule{[]int{time}, period, until}
					got := slices.IndexFunc(s.plan(), func(packet impl.Sending) bool { return packet.Letter == 0 })
					if got != want {
						t.Fatalf("the letter of %+v is sent by packet %d, want %d", s, got, want)
					}
				}
			}
		}
	}
}

func TestLettersBehindTheEnd(t *testing.T) {
	for period := 1; period <= impl.MaxPeriod; period++ {
		for until := range impl.MaxUntil {
			for time := until + 1; time <= impl.MaxUntil; time++ {
				late := schedule{[]int{time, time, impl.MaxUntil}, period, until}
				checkSendings(t, "CoverPlan of letters behind the end", late.plan(), late.withReady(nil).plan())
				some := late.withReady([]int{0, until, time})
				checkSendings(t, "CoverPlan of one letter behind the end", some.plan(), some.withReady([]int{0, until}).plan())
			}
		}
	}
}

// Where letters are ready in time, no packet is cover; where all are behind the last packet, all packets are.
func TestPlansOfNoCoverAndOfCoverOnly(t *testing.T) {
	for packets := 1; packets <= mostReady; packets++ {
		for period := 1; period <= impl.MaxPeriod; period++ {
			until := (packets - 1) * period
			if until+1 > impl.MaxUntil {
				continue
			}
			full := schedule{make([]int, mostReady), period, until}
			checkCover(t, full.plan(), 0)
			checkNumbers(t, "the letters of a plan without cover", lettersIn(full.plan()), listOf(packets, 0, 1))
			checkCover(t, full.withReady(risingTimes(packets, 0, period)).plan(), 0)
			empty := full.withReady(slices.Repeat([]int{until + 1}, mostReady))
			checkCover(t, empty.plan(), packets)
			checkDelay(t, empty.ready, empty.plan(), -1)
		}
	}
}

func TestPromise140OnePacketAtEachMultiple(t *testing.T) {
	for _, ready := range fewReadyLists() {
		for period := 1; period <= impl.MaxPeriod; period++ {
			for until := range impl.MaxUntil + 1 {
				var want []int
				for time := range until + 1 {
					if time%period == 0 {
						want = append(want, time)
					}
				}
				checkNumbers(t, "the times of CoverPlan", timesIn(schedule{ready, period, until}.plan()), want)
			}
		}
	}
}

func TestPromise141TimesAreAlike(t *testing.T) {
	for period := 1; period <= impl.MaxPeriod; period++ {
		for until := range impl.MaxUntil + 1 {
			none := schedule{nil, period, until}
			want := impl.CoverVisible(none.plan())
			if len(want) != until/period+1 {
				t.Fatalf("CoverVisible of CoverPlan of %+v is %v", none, want)
			}
			for _, ready := range readyLists() {
				checkVisible(t, none.withReady(ready).plan(), want)
			}
		}
	}
}

func TestPromise142LettersInOrder(t *testing.T) {
	for _, s := range someSchedules() {
		letter := 0
		for _, packet := range s.plan() {
			if packet.Letter == -1 {
				continue
			}
			if packet.Letter != letter || letter >= len(s.ready) || s.ready[letter] > packet.Time {
				t.Fatalf("CoverPlan of %+v sends letter %d at %d behind %d letters", s, packet.Letter, packet.Time, letter)
			}
			letter++
		}
	}
}

// A letter is sent if it is ready at the last packet, and if all letters before it were sent by earlier packets. Without
// this all packets could be cover.
func TestPromise142LettersThatAreSent(t *testing.T) {
	for _, s := range someSchedules() {
		last, letters := len(s.plan())-1, lettersIn(s.plan())
		for letter, time := range s.ready {
			earlier := lettersIn(s.withReady(s.ready[:letter]).plan()[:last])
			want := len(earlier) == letter && time <= lastPacket(s)
			if slices.Contains(letters, letter) != want {
				t.Fatalf("CoverPlan of %+v sends the letters %v; letter %d: %t", s, letters, letter, want)
			}
		}
	}
}

func TestPromise143CoverOnlyWithoutLetters(t *testing.T) {
	for _, s := range someSchedules() {
		plan := s.plan()
		for i, packet := range plan {
			if packet.Letter != -1 {
				continue
			}
			before := lettersIn(plan[:i])
			for letter, time := range s.ready {
				if time <= packet.Time && !slices.Contains(before, letter) {
					t.Fatalf("CoverPlan of %+v has cover at %d, before letter %d is sent", s, packet.Time, letter)
				}
			}
		}
	}
}

func TestPromise144CoverAndLettersAddUp(t *testing.T) {
	for _, s := range someSchedules() {
		plan := s.plan()
		if cover := impl.CoverCount(plan); cover < 0 || cover+len(lettersIn(plan)) != s.until/s.period+1 {
			t.Fatalf("CoverCount of CoverPlan of %+v is %d, beside %d letters", s, cover, len(lettersIn(plan)))
		}
	}
}

func TestPromise145WithoutLetters(t *testing.T) {
	for period := 1; period <= impl.MaxPeriod; period++ {
		for until := range impl.MaxUntil + 1 {
			for _, ready := range [][]int{nil, {}, risingTimes(3, 1, 1)[:0]} {
				s := schedule{ready, period, until}
				checkCover(t, s.plan(), until/period+1)
				for _, other := range [][]int{ready, {0}, {-1}, {impl.MaxUntil + 1}, make([]int, mostReady+1)} {
					checkDelay(t, other, s.plan(), -1)
				}
			}
		}
	}
}

func TestPromise146EarlierEnds(t *testing.T) {
	for _, ready := range fewReadyLists() {
		for period := 1; period <= impl.MaxPeriod; period++ {
			longest := schedule{ready, period, impl.MaxUntil}
			for _, until := range endsFor(period) {
				s := longest.withUntil(until)
				plan := checkPlan(t, s)
				checkSendings(t, "the beginning of the longest plan", longest.plan()[:len(plan)], plan)
				for end := range until {
					shorter := s.withUntil(end).plan()
					if len(shorter) != end/period+1 {
						t.Fatalf("CoverPlan of %+v until %d is %v", s, end, shorter)
					}
					checkSendings(t, "the beginning of CoverPlan", plan[:len(shorter)], shorter)
				}
			}
		}
	}
}

func TestPromise147DelayOfPlans(t *testing.T) {
	for _, s := range someSchedules() {
		greatest, plan := -1, s.plan()
		for _, packet := range plan {
			if packet.Letter != -1 {
				greatest = max(greatest, packet.Time-s.ready[packet.Letter])
			}
		}
		checkDelay(t, s.ready, plan, greatest)
		if sent := len(lettersIn(plan)) > 0; sent != (s.delay() >= 0) {
			t.Fatalf("CoverDelay of CoverPlan of %+v is %d", s, s.delay())
		}
	}
}

func TestPromise148SingleLetters(t *testing.T) {
	for time := range impl.MaxUntil + 1 {
		for period := 1; period <= impl.MaxPeriod; period++ {
			for until := range impl.MaxUntil + 1 {
				s := schedule{[]int{time}, period, until}
				sent, delay := len(lettersIn(s.plan())) == 1, s.delay()
				if inTime := time <= lastPacket(s); sent != inTime || inTime && (delay < 0 || delay >= period) || !inTime && delay != -1 {
					t.Fatalf("CoverDelay of CoverPlan of %+v is %d", s, delay)
				}
			}
		}
	}
}

// A letter that is ready so late that the plan ends before its turn is not sent.
func TestPromise149PeriodOne(t *testing.T) {
	for _, ready := range append(readyLists(), allEarly(4)...) {
		for _, until := range []int{0, 1, 2, 7, 8, 12, 30, impl.MaxUntil - 1, impl.MaxUntil} {
			s := schedule{ready, 1, until}
			plan := s.plan()
			for letter, time := range ready {
				place := slices.IndexFunc(plan, func(p impl.Sending) bool { return p.Letter == letter })
				if place == -1 && time+len(ready)-1 <= until || place != -1 && (place < time || place > time+len(ready)-1) {
					t.Fatalf("letter %d of %+v is sent at %d", letter, s, place)
				}
			}
			if s.delay() > len(ready)-1 {
				t.Fatalf("CoverDelay of CoverPlan of %+v is %d", s, s.delay())
			}
		}
	}
}

// The greatest delay there can be: the last letter waits for all others.
func TestPromise149AllAtOnce(t *testing.T) {
	for length := 1; length <= mostReady; length++ {
		for time := 0; time+length-1 <= impl.MaxUntil; time++ {
			s := schedule{slices.Repeat([]int{time}, length), 1, impl.MaxUntil}
			checkDelay(t, s.ready, s.plan(), length-1)
		}
	}
}

func TestPromise150VisibleTimesOfAnyPlan(t *testing.T) {
	for _, plan := range anyPlans() {
		checkVisible(t, plan, timesIn(plan))
		reversed := slices.Clone(plan)
		slices.Reverse(reversed)
		checkVisible(t, reversed, timesIn(reversed))
	}
	for _, s := range someSchedules() {
		checkVisible(t, s.plan(), timesIn(s.plan()))
	}
}

func TestPromise151FewerLetters(t *testing.T) {
	for _, s := range someSchedules() {
		cover := impl.CoverCount(s.plan())
		for length := len(s.ready) - 1; length >= 0; length-- {
			fewer := impl.CoverCount(s.withReady(s.ready[:length]).plan())
			if fewer < cover || fewer > cover+1 {
				t.Fatalf("CoverCount of %+v with %d letters is %d, and %d with one more", s, length, fewer, cover)
			}
			cover = fewer
		}
		checkCover(t, s.withReady(nil).plan(), cover)
	}
}

func TestDelayValues(t *testing.T) {
	for _, c := range []struct {
		ready []int
		plan  sendingRows
		want  int
	}{
		{nil, nil, -1}, {[]int{3}, nil, -1}, {nil, sendingRows{{5, -1}}, -1}, {[]int{3}, sendingRows{{5, -1}, {6, -1}}, -1},
		{[]int{3}, sendingRows{{3, 0}}, 0}, {[]int{3}, sendingRows{{4, 0}}, 1}, {[]int{0}, sendingRows{{40, 0}}, 40}, {[]int{40}, sendingRows{{40, 0}}, 0},
		{[]int{3}, sendingRows{{2, 0}}, -1}, {[]int{3}, sendingRows{{1, 0}}, -1}, {[]int{3}, sendingRows{{0, 0}}, -1}, {[]int{40}, sendingRows{{0, 0}}, -1},
		{[]int{3, 5}, sendingRows{{1, 0}, {5, 1}}, 0}, {[]int{3, 5}, sendingRows{{1, 0}, {4, 1}}, -1}, {[]int{3, 5}, sendingRows{{3, 0}, {1, 1}}, 0},
		{[]int{3, 5}, sendingRows{{5, 0}, {10, 1}}, 5}, {[]int{3, 5}, sendingRows{{10, 0}, {5, 1}}, 7}, {[]int{3, 5}, sendingRows{{10, 1}, {5, 0}}, 5},
		{[]int{3, 5}, sendingRows{{10, 1}, {7, -1}, {5, 0}, {40, -1}}, 5}, {[]int{3}, sendingRows{{5, 0}, {9, 0}, {7, 0}}, 6},
		{[]int{3}, sendingRows{{5, 1}}, -1}, {[]int{3}, sendingRows{{5, -2}}, -1}, {nil, sendingRows{{5, 0}}, -1}, {[]int{3, 4}, sendingRows{{5, 2}}, -1},
		{[]int{3}, sendingRows{{9, 0}, {5, 1}}, -1}, {[]int{3}, sendingRows{{5, 1}, {9, 0}}, -1}, {[]int{3}, sendingRows{{9, 0}, {5, -2}}, -1}, {[]int{3}, sendingRows{{5, -2}, {9, 0}}, -1},
		{[]int{0}, sendingRows{{-1, 0}}, -1}, {[]int{0}, sendingRows{{41, 0}}, -1}, {[]int{0}, sendingRows{{0, 0}}, 0}, {[]int{-1}, sendingRows{{0, 0}}, -1},
		{[]int{-1}, sendingRows{{40, 0}}, -1}, {[]int{41}, sendingRows{{40, 0}}, -1}, {[]int{41}, sendingRows{{41, 0}}, -1}, {[]int{-1}, sendingRows{{-1, 0}}, -1},
		{[]int{3, 4}, sendingRows{{9, 0}, {41, 1}}, -1}, {[]int{3, 4}, sendingRows{{-1, 1}, {9, 0}}, -1}, {[]int{3, 41}, sendingRows{{9, 0}, {9, 1}}, -1}, {[]int{-1, 4}, sendingRows{{9, 1}, {9, 0}}, -1},
		{[]int{3}, sendingRows{{-1, -1}, {9, 0}, {41, -1}}, 6}, {[]int{3, -1, 41}, sendingRows{{9, 0}}, 6}, {[]int{41, 3, -1}, sendingRows{{9, 1}}, 6},
		{[]int{9, 7, 8}, sendingRows{{9, 0}, {9, 1}, {9, 2}}, 2}, {[]int{1, 1, 1, 1, 1, 1, 1, 1, 4}, sendingRows{{9, 8}}, 5}, {[]int{1, 1, 1, 1, 1, 1, 1, 1, 4}, sendingRows{{9, 9}}, -1},
	} {
		checkDelay(t, c.ready, c.plan.list(), c.want)
	}
}

// Each number is at the ends of its range, or beside them.
func TestDelayOfAllPairsOfPackets(t *testing.T) {
	var packets []impl.Sending
	for _, time := range []int{-1, 0, 1, 2, impl.MaxUntil, impl.MaxUntil + 1} {
		for _, letter := range []int{-2, -1, 0, 1, 2} {
			packets = append(packets, sendingOf(time, letter))
		}
	}
	for length := range 3 {
		for _, ready := range allWeights(length, -1, 0, 2, impl.MaxUntil, impl.MaxUntil+1) {
			for _, one := range packets {
				checkDelay(t, ready, []impl.Sending{one}, delayOf(ready, []impl.Sending{one}))
				for _, two := range packets {
					both := []impl.Sending{one, two}
					checkDelay(t, ready, both, delayOf(ready, both))
				}
			}
		}
	}
}

func TestDelayOfAnyPlan(t *testing.T) {
	lists := append(readyLists(), wrongTimes, make([]int, 100), []int{impl.MaxUntil, 5, 0}, []int{5, -1, 41, 0})
	for _, ready := range lists {
		for _, plan := range anyPlans() {
			checkDelay(t, ready, plan, delayOf(ready, plan))
		}
	}
}

func TestDelayOfSingleLetters(t *testing.T) {
	for ready := -2; ready <= impl.MaxUntil+2; ready++ {
		for time := -2; time <= impl.MaxUntil+2; time++ {
			want := -1
			if min(ready, time) >= 0 && max(ready, time) <= impl.MaxUntil && time >= ready {
				want = time - ready
			}
			for _, plan := range []sendingRows{{{time, 0}}, {{0, -1}, {time, 0}}, {{time, 0}, {time, 0}}, {{-5, -1}, {time, 0}, {99, -1}}} {
				checkDelay(t, []int{ready}, plan.list(), want)
			}
		}
	}
}

// With a shorter period the letters wait less for each other.
func TestDelayOfShorterPeriods(t *testing.T) {
	for length := 1; length <= 5; length++ {
		for period := 1; period <= impl.MaxPeriod; period++ {
			s := schedule{make([]int, length), period, impl.MaxUntil}
			checkDelay(t, s.ready, s.plan(), (length-1)*period)
		}
	}
}

// The wrong packet stands at each place of a plan that has a delay without it.
func TestDelayWithOneWrongPacket(t *testing.T) {
	s := schedule{[]int{0, 0, 3, 9, 9, 9, 20, 30}, 3, impl.MaxUntil}
	for place, right := range s.plan() {
		for _, letter := range []int{-2, -3, -8, -9, 8, 9, 16, 256, 1 << 32, 1<<32 - 1, 1<<32 + 1, -1 << 32, -1<<32 + 1, math.MaxInt, math.MinInt, math.MinInt + 1} {
			plan := s.plan()
			plan[place].Letter = letter
			checkDelay(t, s.ready, plan, -1)
		}
		for _, wrong := range wrongTimes {
			plan := s.plan()
			plan[place].Time = wrong
			want := s.delay()
			if right.Letter != -1 {
				want = -1
				checkDelay(t, s.withTime(right.Letter, wrong).ready, s.plan(), -1)
				checkDelay(t, s.withTime(right.Letter, wrong).ready, plan, -1)
			}
			checkDelay(t, s.ready, plan, want)
		}
	}
	if s.delay() != 6 {
		t.Fatalf("CoverDelay of CoverPlan of %+v is %d", s, s.delay())
	}
}

// Times of letters that no packet carries are not looked at.
func TestDelayOfLettersThatAreNotSent(t *testing.T) {
	for place := range 4 {
		for _, wrong := range wrongTimes {
			ready, plan := []int{7, 7, 7, 7}, []impl.Sending{}
			ready[place] = wrong
			for letter := range 4 {
				if letter != place {
					plan = append(plan, sendingOf(10+letter, letter))
				}
			}
			checkDelay(t, ready, plan, plan[2].Time-7)
			checkDelay(t, ready, append(plan, sendingOf(wrong, -1)), plan[2].Time-7)
			checkDelay(t, ready, append(plan, sendingOf(20, place)), -1)
		}
	}
}

func TestCountValues(t *testing.T) {
	for _, c := range []struct {
		plan sendingRows
		want int
	}{
		{nil, 0}, {sendingRows{{0, -1}}, 1}, {sendingRows{{0, 0}}, 0}, {sendingRows{{0, -2}}, 0}, {sendingRows{{0, -1}, {0, -1}}, 2},
		{sendingRows{{-1, -1}, {41, -1}, {math.MaxInt, -1}, {math.MinInt, -1}}, 4}, {sendingRows{{-1, 0}, {-1, -2}, {-1, 7}}, 0},
		{sendingRows{{3, -1}, {2, -2}, {1, 0}, {0, -1}, {0, 1}, {0, math.MinInt}, {9, 1<<32 - 1}, {5, -1}}, 3},
	} {
		checkCover(t, c.plan.list(), c.want)
	}
}

func TestCountOfAnyPlan(t *testing.T) {
	for _, plan := range anyPlans() {
		checkCover(t, plan, len(plan)-len(lettersIn(plan)))
	}
	for _, letters := range allWeights(5, -1, -2, 0) {
		var plan []impl.Sending
		cover := 0
		for i, letter := range letters {
			plan = append(plan, sendingOf(i, letter))
			if letter == -1 {
				cover++
			}
		}
		checkCover(t, plan, cover)
	}
}

func TestVeryLongPlans(t *testing.T) {
	for _, length := range []int{1 << 16, 1<<16 + 1, 300000} {
		plan := slices.Repeat([]impl.Sending{sendingOf(7, -1), sendingOf(9, 0)}, length)
		checkCover(t, plan, length)
		checkDelay(t, []int{4}, plan, 5)
		checkVisible(t, plan, slices.Repeat([]int{7, 9}, length))
		plan[len(plan)-1].Letter = 1
		checkCover(t, plan, length)
		checkDelay(t, []int{4}, plan, -1)
		plan[len(plan)-1].Letter = -1
		checkCover(t, plan, length+1)
	}
}

// spoil changes packets and what is behind them.
func spoil(plan []impl.Sending) {
	for i := range plan[:cap(plan)] {
		plan[:cap(plan)][i] = sendingOf(-7, -7)
	}
}

// checkPlanApart fails if CoverPlan changes its argument or what is behind it, or if its result shares memory with
// another one.
func checkPlanApart(t *testing.T, s schedule) {
	t.Helper()
	memory := append(slices.Clone(s.ready), listOf(impl.MaxList, 3, 2)...)
	before := slices.Clone(memory)
	inside := s.withReady(memory[:len(s.ready)])
	first, second := inside.plan(), inside.plan()
	want := slices.Clone(second)
	checkSendings(t, "CoverPlan", first, want)
	spoil(first)
	checkSendings(t, "another result of CoverPlan", second, want)
	checkSendings(t, "a later result of CoverPlan", inside.plan(), want)
	checkNumbers(t, "the memory of CoverPlan", memory, before)
}

func TestCoverPlanSharesNoMemory(t *testing.T) {
	for _, s := range fewSchedules() {
		checkPlanApart(t, s)
	}
	for _, s := range []schedule{{[]int{3, 2, 1}, 2, 9}, {[]int{-1, 99}, 2, 9}, {make([]int, mostReady+1), 2, 9}, {[]int{1, 2}, 0, 9}, {[]int{1, 2}, 2, 41}, {nil, 10, -1}} {
		checkPlanApart(t, s)
	}
}

// checkReadersApart fails if a function changes a plan, times or what is behind them, or if CoverVisible has a result
// that shares memory with another one.
func checkReadersApart(t *testing.T, ready []int, plan []impl.Sending) {
	t.Helper()
	numbers := append(slices.Clone(ready), listOf(impl.MaxList, 3, 2)...)
	packets := append(slices.Clone(plan), sendingOf(3, 0), sendingOf(-3, -2), sendingOf(4, -1), sendingOf(5, 1))
	numbersBefore, packetsBefore := slices.Clone(numbers), slices.Clone(packets)
	times, list := numbers[:len(ready)], packets[:len(plan)]
	first, second := impl.CoverVisible(list), impl.CoverVisible(list)
	want := slices.Clone(second)
	overwrite(first)
	checkNumbers(t, "another result of CoverVisible", second, want)
	checkVisible(t, list, want)
	checkDelay(t, times, list, delayOf(ready, plan))
	checkCover(t, list, len(plan)-len(lettersIn(plan)))
	checkNumbers(t, "the memory of times", numbers, numbersBefore)
	checkSendings(t, "the memory of a plan", packets, packetsBefore)
}

func TestReadersOfPlansShareNoMemory(t *testing.T) {
	for _, plan := range anyPlans() {
		for _, ready := range [][]int{nil, {5, 2, 1}, {0, 41, -1}, risingTimes(mostReady, 1, 1)} {
			checkReadersApart(t, ready, plan)
		}
	}
	for _, s := range fewSchedules() {
		checkReadersApart(t, s.ready, s.plan())
	}
}

// A plan goes on as an argument, and earlier results stay as they were.
func TestEarlierPlansStay(t *testing.T) {
	ready := []int{1, 2}
	plan := impl.CoverPlan(ready, 2, 6)
	seen := impl.CoverVisible(plan)
	plan[1], ready[0] = sendingOf(-7, -7), 40
	checkNumbers(t, "the times that were seen", seen, []int{0, 2, 4, 6})
	checkSendings(t, "the plan", plan, sendingRows{{0, -1}, {-7, -7}, {4, 1}, {6, -1}}.list())
	checkDelay(t, ready, plan, -1)
	checkNumbers(t, "the times of letters", ready, []int{40, 2})
	checkSendings(t, "a later plan", impl.CoverPlan([]int{1, 2}, 2, 6), sendingRows{{0, -1}, {2, 0}, {4, 1}, {6, -1}}.list())
}

func TestPlansAreTheSameAgain(t *testing.T) {
	for _, s := range fewSchedules() {
		plan := s.plan()
		s.withReady([]int{0}).plan()
		s.withReady([]int{2, 1}).plan()
		checkSendings(t, "CoverPlan again", s.plan(), plan)
	}
}
