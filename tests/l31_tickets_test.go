package tests

import (
	"math"
	"slices"
	"testing"

	"loop.example/mixrelay/impl"
)

// wrongSerials has the neighbours of both ends, numbers whose successors are elements or are in range after a
// remainder, and numbers whose lower bits would be in range or which have no successor.
var wrongSerials = []int{
	-1, -2, -lastNumber, -impl.Numbers, -impl.Group, -impl.Group + 1, impl.Numbers, impl.Numbers + 1, impl.Numbers + 2, impl.Group - 2, impl.Group - 1, impl.Group, impl.Group + 1,
	2 * impl.Numbers, 2 * impl.Group, 1 << 32, 1<<32 + 3, -1 << 32, -1<<32 + 3, math.MaxInt - 1, math.MaxInt, math.MinInt, math.MinInt + 1, math.MinInt + 3,
}

// someSerials has both ends of the range and numbers between.
var someSerials = []int{0, 1, 2, 8, 9, 498, 499, 500, lastNumber - 1, lastNumber}

func ticketOf(serial, sign int) impl.Ticket {
	return impl.Ticket{Serial: serial, Sign: sign}
}

// signOf has the signature that the document defines. Where a serial number is out of range, it is made from the
// remainder of the serial number.
func signOf(secret, serial int) int {
	return secret * ((serial%impl.Group + 1 + impl.Group) % impl.Group) % impl.Group
}

func signedTicket(secret, serial int) impl.Ticket {
	return ticketOf(serial, signOf(secret, serial))
}

// isSigned has what the document defines, without a function of the program.
func isSigned(public int, x impl.Ticket) bool {
	return inRange(public) && inRange(x.Sign) && x.Serial >= 0 && x.Serial <= lastNumber &&
		x.Sign*impl.Base%impl.Group == public*(x.Serial+1)%impl.Group
}

// isSpentList reports whether serial numbers are valid, as the document defines.
func isSpentList(list []int) bool {
	for i, serial := range list {
		if serial < 0 || serial > lastNumber || slices.ContainsFunc(list[:i], func(before int) bool { return before >= serial }) {
			return false
		}
	}
	return len(list) <= impl.MaxSpent
}

// spendingOf has what the document asks for of valid serial numbers.
func spendingOf(spent []int, public int, x impl.Ticket) ([]int, bool) {
	if !isSigned(public, x) || slices.Contains(spent, x.Serial) || len(spent) >= impl.MaxSpent {
		return spent, false
	}
	more := append([]int{x.Serial}, spent...)
	slices.Sort(more)
	return more, true
}

// commonOf has what two valid lists have in common.
func commonOf(a, b []int) []int {
	var common []int
	for serial := range impl.Numbers {
		if slices.Contains(a, serial) && slices.Contains(b, serial) {
			common = append(common, serial)
		}
	}
	return common
}

// serialsAcross has serial numbers from one end of the range to the other one.
func serialsAcross(length int) []int {
	serials := make([]int, length)
	for i := range serials {
		serials[i] = i * lastNumber / max(1, length-1)
	}
	return serials
}

// chosenSerials has different serial numbers below a limit, in order.
func chosenSerials(next func(int) int, length, below int) []int {
	var serials []int
	for len(serials) < length {
		if serial := next(below); !slices.Contains(serials, serial) {
			serials = append(serials, serial)
		}
	}
	slices.Sort(serials)
	return serials
}

// spentLists has valid lists of all lengths: the first serial numbers, the last ones, some with gaps, some with both
// ends, and others.
func spentLists() [][]int {
	lists := [][]int{nil}
	next := chosen()
	for length := 0; length <= impl.MaxSpent; length++ {
		lists = append(lists, listOf(length, 0, 1), listOf(length, impl.Numbers-length, 1), listOf(length, 5, 49), listOf(length, 1, 2),
			serialsAcross(length), chosenSerials(next, length, impl.Numbers), chosenSerials(next, length, 2*impl.MaxSpent))
	}
	return lists
}

// fewSpentLists has lists of no, one, some, MaxSpent-1 and MaxSpent serial numbers.
func fewSpentLists() [][]int {
	var few [][]int
	for _, list := range spentLists() {
		if slices.Contains([]int{0, 1, 2, 7, impl.MaxSpent - 1, impl.MaxSpent}, len(list)) {
			few = append(few, list)
		}
	}
	return few
}

// serialsFor has the serial numbers of a list with their neighbours, and both ends of the range.
func serialsFor(list []int) []int {
	serials := slices.Clone(someSerials)
	for _, serial := range list {
		serials = append(serials, min(max(serial-1, 0), lastNumber), min(max(serial, 0), lastNumber), min(max(serial+1, 0), lastNumber))
	}
	slices.Sort(serials)
	return slices.Compact(serials)
}

// rejectedTickets has tickets that are not signed with a secret, though most are like one that is.
func rejectedTickets(secret, serial int) []impl.Ticket {
	right := signOf(secret, serial)
	return []impl.Ticket{
		ticketOf(serial, 0), ticketOf(serial, right%lastElement+1), ticketOf(serial, right+impl.Group), ticketOf(serial, right-impl.Group), ticketOf(serial, -right),
		ticketOf((serial+1)%impl.Numbers, right), ticketOf(serial+impl.Group, right), ticketOf(serial-impl.Group, right),
		ticketOf(-1, 0), ticketOf(-2, signOf(secret, -2)), ticketOf(impl.Numbers, signOf(secret, impl.Numbers)), {},
	}
}

// wrongSpentLists has lists of too many serial numbers, with two equal neighbours or two exchanged ones at each place,
// and with each wrong serial number at each place.
func wrongSpentLists() [][]int {
	var lists [][]int
	for length := impl.MaxSpent + 1; length <= 2*impl.MaxSpent; length++ {
		lists = append(lists, listOf(length, 0, 1), listOf(length, impl.Numbers-length, 1), listOf(length, 5, 24), serialsAcross(length))
	}
	for length := 1; length <= impl.MaxSpent; length++ {
		for place := range length {
			for _, list := range [][]int{listOf(length, 5, 49), listOf(length, 0, 1), listOf(length, impl.Numbers-length, 1)} {
				if place > 0 {
					equal, exchanged := slices.Clone(list), slices.Clone(list)
					equal[place] = equal[place-1]
					exchanged[place], exchanged[place-1] = list[place-1], list[place]
					lists = append(lists, equal, exchanged)
				}
				for _, wrong := range wrongSerials {
					lists = append(lists, slices.Replace(slices.Clone(list), place, place+1, wrong))
				}
			}
		}
	}
	for length := 2; length <= 3*impl.MaxSpent; length++ {
		reversed := listOf(length, 5, 16)
		slices.Reverse(reversed)
		lists = append(lists, reversed, listOf(length, 30, 0))
	}
	return append(lists, make([]int, 1000))
}

// madeTicket has the ticket of TicketMake.
func madeTicket(t *testing.T, secret, serial int) impl.Ticket {
	t.Helper()
	x, ok := impl.TicketMake(secret, serial)
	if want := signedTicket(secret, serial); !ok || x != want {
		t.Fatalf("TicketMake(%d, %d) is %v and %v, want %v and true", secret, serial, x, ok, want)
	}
	return x
}

func checkNoTicket(t *testing.T, secret, serial int) {
	t.Helper()
	if x, ok := impl.TicketMake(secret, serial); ok || x != (impl.Ticket{}) {
		t.Fatalf("TicketMake(%d, %d) is %v and %v, want the zero value and false", secret, serial, x, ok)
	}
}

func checkTicket(t *testing.T, public int, x impl.Ticket, want bool) {
	t.Helper()
	if got := impl.TicketCheck(public, x); got != want {
		t.Fatalf("TicketCheck(%d, %v) is %v", public, x, got)
	}
}

func checkSpending(t *testing.T, spent []int, public int, x impl.Ticket, want []int, wantOK bool) {
	t.Helper()
	if got, ok := impl.TicketSpend(spent, public, x); ok != wantOK || !slices.Equal(got, want) {
		t.Fatalf("TicketSpend(%v, %d, %v) is %v and %v, want %v and %v", spent, public, x, got, ok, want, wantOK)
	}
}

// checkSpendingAsDefined fails unless TicketSpend of valid serial numbers is what the document asks for, and has it.
func checkSpendingAsDefined(t *testing.T, spent []int, public int, x impl.Ticket) ([]int, bool) {
	t.Helper()
	want, ok := spendingOf(spent, public, x)
	checkSpending(t, spent, public, x, want, ok)
	return want, ok
}

// checkAudit fails unless TicketAudit is the same in either order.
func checkAudit(t *testing.T, a, b, want []int) {
	t.Helper()
	for _, lists := range [][2][]int{{a, b}, {b, a}} {
		if got := impl.TicketAudit(lists[0], lists[1]); !slices.Equal(got, want) {
			t.Fatalf("TicketAudit(%v, %v) is %v, want %v", lists[0], lists[1], got, want)
		}
	}
}

// checkWrongSpentList fails if anything is spent into a list or found in it: new tickets at each place, those that are
// there, and those that are rejected.
func checkWrongSpentList(t *testing.T, list []int) {
	t.Helper()
	for _, serial := range serialsFor(list) {
		checkSpending(t, list, impl.PublicOf(31), signedTicket(31, serial), nil, false)
	}
	for _, serial := range []int{0, 5, 30, lastNumber} {
		for _, x := range rejectedTickets(31, serial) {
			checkSpending(t, list, impl.PublicOf(31), x, nil, false)
		}
	}
	for _, public := range []int{-1, 0, impl.Group} {
		checkSpending(t, list, public, signedTicket(31, 8), nil, false)
	}
	right := slices.DeleteFunc(slices.Sorted(slices.Values(list)), isNoNumber)
	right = slices.Compact(right)
	right = right[:min(len(right), impl.MaxSpent)]
	for _, other := range [][]int{nil, list, right, {5}, {0, 1, 2}, {lastNumber}, listOf(impl.MaxSpent, 5, 49), {-1}, {impl.Numbers}, {2, 1}} {
		checkAudit(t, list, other, nil)
	}
}

func TestTicketConstants(t *testing.T) {
	if impl.MaxSpent != 20 {
		t.Errorf("MaxSpent is %d, want 20", impl.MaxSpent)
	}
}

// The signatures and the public keys are written out, so that they are not only checked by functions of these tests.
func TestTicketValues(t *testing.T) {
	for _, c := range []struct{ secret, serial, sign, public int }{
		{1, 0, 1, 5}, {1, 1, 2, 5}, {1, 990, 991, 5}, {2, 498, 1, 10}, {3, 9, 30, 15}, {5, 0, 5, 25}, {31, 8, 279, 155}, {500, 1, 3, 506},
		{996, 0, 996, 992}, {996, 1, 995, 992}, {996, 495, 501, 992}, {996, 989, 7, 992}, {996, 990, 6, 992}, {200, 4, 3, 3},
		{332, 2, 996, 663}, {995, 990, 12, 987}, {499, 989, 495, 501}, {498, 0, 498, 496},
	} {
		x, ok := impl.TicketMake(c.secret, c.serial)
		if !ok || x.Serial != c.serial || x.Sign != c.sign {
			t.Errorf("TicketMake(%d, %d) is %v and %v, want the signature %d", c.secret, c.serial, x, ok, c.sign)
		}
		checkTicket(t, c.public, ticketOf(c.serial, c.sign), true)
		for _, step := range []int{-1, 1} {
			checkTicket(t, c.public+step, ticketOf(c.serial, c.sign), false)
			checkTicket(t, c.public, ticketOf(c.serial+step, c.sign), false)
			checkTicket(t, c.public, ticketOf(c.serial, c.sign+step), false)
		}
	}
}

// The tickets are those of the secret 3, which has the public key 15, but for two with wrong signatures.
func TestTicketSpendValues(t *testing.T) {
	full := []int{0, 10, 20, 30, 40, 50, 60, 70, 80, 90, 100, 110, 120, 130, 140, 150, 160, 170, 180, 990}
	for _, c := range []struct {
		spent []int
		x     impl.Ticket
		want  []int
		ok    bool
	}{
		{nil, ticketOf(9, 30), []int{9}, true},
		{[]int{}, ticketOf(0, 3), []int{0}, true},
		{[]int{}, ticketOf(990, 979), []int{990}, true},
		{[]int{4, 20}, ticketOf(9, 30), []int{4, 9, 20}, true},
		{[]int{10, 20}, ticketOf(9, 30), []int{9, 10, 20}, true},
		{[]int{4, 8}, ticketOf(9, 30), []int{4, 8, 9}, true},
		{[]int{4, 9, 20}, ticketOf(9, 30), []int{4, 9, 20}, false},
		{[]int{9}, ticketOf(9, 30), []int{9}, false},
		{[]int{4, 20}, ticketOf(9, 31), []int{4, 20}, false},
		{[]int{4, 20}, ticketOf(-1, 0), []int{4, 20}, false},
		{nil, ticketOf(8, 30), nil, false},
		{full[:19], ticketOf(990, 979), full, true},
		{full[1:], ticketOf(0, 3), full, true},
		{full, ticketOf(9, 30), full, false},
		{full, ticketOf(10, 33), full, false},
		{full, ticketOf(9, 31), full, false},
		{[]int{9, 4}, ticketOf(20, 63), nil, false},
		{[]int{4, 4}, ticketOf(20, 63), nil, false},
		{[]int{-1}, ticketOf(20, 63), nil, false},
		{[]int{991}, ticketOf(20, 63), nil, false},
		{append(full[:19:19], 989, 990), ticketOf(9, 30), nil, false},
	} {
		checkSpending(t, c.spent, 15, c.x, c.want, c.ok)
	}
}

func TestTicketAuditValues(t *testing.T) {
	for _, c := range []struct{ a, b, want []int }{
		{nil, nil, nil},
		{nil, []int{4, 9}, nil},
		{[]int{4, 9, 20}, []int{9, 30}, []int{9}},
		{[]int{4, 9, 20}, []int{5, 10, 21}, nil},
		{[]int{0, 990}, []int{0, 990}, []int{0, 990}},
		{[]int{0, 1, 2, 3}, []int{1, 3, 5, 7}, []int{1, 3}},
		{[]int{0, 500, 990}, []int{990}, []int{990}},
		{[]int{0, 500, 990}, []int{0}, []int{0}},
		{[]int{9, 4}, []int{4, 9}, nil},
		{[]int{4, 4}, []int{4, 9}, nil},
		{[]int{-1, 4}, []int{4, 9}, nil},
		{[]int{4, 991}, []int{4, 9}, nil},
	} {
		checkAudit(t, c.a, c.b, c.want)
	}
}

func TestTicketsOfTheEnds(t *testing.T) {
	for _, secret := range []int{0, 1, lastElement, impl.Group} {
		for _, serial := range []int{-1, 0, lastNumber, impl.Numbers} {
			if secret == 0 || secret == impl.Group || serial == -1 || serial == impl.Numbers {
				checkNoTicket(t, secret, serial)
			} else {
				madeTicket(t, secret, serial)
			}
		}
	}
}

func TestTicketsOfAllSecretsAndSerials(t *testing.T) {
	for secret := 1; secret <= lastElement; secret++ {
		for serial := range impl.Numbers {
			checkTicket(t, impl.PublicOf(secret), madeTicket(t, secret, serial), true)
		}
	}
}

func TestTicketsOfWrongSecretsAndSerials(t *testing.T) {
	for _, secret := range outOfRange {
		for _, serial := range slices.Concat(someSerials, wrongSerials) {
			checkNoTicket(t, secret, serial)
		}
	}
	for secret := 1; secret <= lastElement; secret++ {
		for _, serial := range wrongSerials {
			checkNoTicket(t, secret, serial)
		}
	}
	for serial := -2 * impl.Group; serial <= 2*impl.Group; serial++ {
		if isNoNumber(serial) {
			checkNoTicket(t, 31, serial)
		}
	}
}

// Each ticket is checked with all public keys.
func TestPromise105OnlyThePublicKey(t *testing.T) {
	for secret := 1; secret <= lastElement; secret++ {
		for _, serial := range []int{0, secret % impl.Numbers, lastNumber} {
			checkOnlyPublic(t, secret, serial)
		}
	}
	for _, secret := range []int{1, 3, 500, lastElement} {
		for serial := range impl.Numbers {
			checkOnlyPublic(t, secret, serial)
		}
	}
}

func checkOnlyPublic(t *testing.T, secret, serial int) {
	t.Helper()
	x, right := madeTicket(t, secret, serial), impl.PublicOf(secret)
	for public := 0; public <= impl.Group; public++ {
		checkTicket(t, public, x, public == right)
	}
}

// Some of the public keys that are out of range have the right remainder.
func TestPromise105PublicKeysOutOfRange(t *testing.T) {
	for _, secret := range someElements {
		for _, serial := range someSerials {
			x, right := madeTicket(t, secret, serial), impl.PublicOf(secret)
			for _, public := range append([]int{right + impl.Group, right - impl.Group, right + impl.Group<<32, right - impl.Group<<32, -right}, outOfRange...) {
				checkTicket(t, public, x, false)
			}
		}
	}
}

func TestPromise106OtherSerialsAndSignatures(t *testing.T) {
	for _, secret := range []int{1, 3, 500, lastElement} {
		for serial := range impl.Numbers {
			x, public := madeTicket(t, secret, serial), impl.PublicOf(secret)
			for other := -1; other <= impl.Group; other++ {
				checkTicket(t, public, ticketOf(other, x.Sign), other == serial)
				checkTicket(t, public, ticketOf(serial, other), other == x.Sign)
			}
		}
	}
}

func TestPromise106SerialsAndSignaturesOutOfRange(t *testing.T) {
	for secret := 1; secret <= lastElement; secret++ {
		for _, serial := range []int{0, secret % impl.Numbers, lastNumber} {
			x, public := madeTicket(t, secret, serial), impl.PublicOf(secret)
			for _, step := range []int{impl.Group, -impl.Group, impl.Group << 32, -impl.Group << 32} {
				checkTicket(t, public, ticketOf(serial+step, x.Sign), false)
				checkTicket(t, public, ticketOf(serial, x.Sign+step), false)
			}
			for _, wrong := range wrongSerials {
				checkTicket(t, public, ticketOf(wrong, x.Sign), false)
				checkTicket(t, public, signedTicket(secret, wrong), false)
			}
			for _, wrong := range outOfRange {
				checkTicket(t, public, ticketOf(serial, wrong), false)
			}
		}
	}
}

// Products of numbers that are out of range may be equal.
func TestTicketsWithSeveralNumbersOutOfRange(t *testing.T) {
	for _, public := range append([]int{15}, outOfRange...) {
		for _, serial := range append([]int{8}, wrongSerials...) {
			for _, sign := range append([]int{27}, outOfRange...) {
				checkTicket(t, public, ticketOf(serial, sign), public == 15 && serial == 8 && sign == 27)
			}
		}
	}
}

func TestTicketCheckOfAllPublicKeysAndSignatures(t *testing.T) {
	for _, serial := range append([]int{-1, impl.Numbers, impl.Group - 1}, someSerials...) {
		for public := -1; public <= impl.Group+1; public++ {
			for sign := -1; sign <= impl.Group+1; sign++ {
				x := ticketOf(serial, sign)
				if impl.TicketCheck(public, x) != isSigned(public, x) {
					t.Fatalf("TicketCheck(%d, %v) is %v", public, x, !isSigned(public, x))
				}
			}
		}
	}
}

// Each serial number is spent, unless it is there.
func TestPromise107AllSerials(t *testing.T) {
	for _, spent := range spentLists() {
		for serial := range impl.Numbers {
			secret := 1 + (serial*7+len(spent))%lastElement
			checkSpendingAsDefined(t, spent, impl.PublicOf(secret), madeTicket(t, secret, serial))
		}
	}
}

// The tickets are spent in front of all others, behind all, and at each place between, up to a full list.
func TestPromise107EachPlace(t *testing.T) {
	for length := range impl.MaxSpent {
		for place := range length + 1 {
			spent := listOf(length+1, 5, 49)
			for _, serial := range []int{spent[place], spent[place] - 1, spent[place] + 1} {
				want := slices.Replace(slices.Clone(spent), place, place+1, serial)
				rest := slices.Delete(slices.Clone(spent), place, place+1)
				checkSpending(t, rest, impl.PublicOf(77), madeTicket(t, 77, serial), want, true)
			}
		}
	}
}

// A list is filled in different orders.
func TestPromise107UpToFull(t *testing.T) {
	for _, step := range []int{1, 3, 7, 19} {
		var spent []int
		for i := range impl.MaxSpent {
			serial := i * step % impl.MaxSpent * lastNumber / (impl.MaxSpent - 1)
			after, ok := checkSpendingAsDefined(t, spent, impl.PublicOf(500), madeTicket(t, 500, serial))
			if !ok {
				t.Fatalf("TicketSpend of %d into %v fails", serial, spent)
			}
			spent = after
		}
		checkNumbers(t, "the full list", spent, serialsAcross(impl.MaxSpent))
	}
}

func TestPromise108TheSameTicket(t *testing.T) {
	for _, spent := range spentLists() {
		for _, serial := range serialsFor(spent) {
			public, x := impl.PublicOf(31), madeTicket(t, 31, serial)
			once, ok := impl.TicketSpend(spent, public, x)
			if !ok {
				checkNumbers(t, "TicketSpend that fails", once, spent)
				continue
			}
			checkSpending(t, once, public, x, once, false)
			// The signature of another secret does not make it another ticket.
			checkSpending(t, once, impl.PublicOf(32), madeTicket(t, 32, serial), once, false)
		}
	}
}

// The ticket was spent first, last, or between others.
func TestPromise108BehindOtherTickets(t *testing.T) {
	for _, serials := range [][]int{{8, 3, 12, 500, 0, 7, 9}, {0, 1, 2, 3, 4, 5}, {990, 989, 988, 987}, {500, 0, 990, 499, 501}} {
		var spent []int
		for i, serial := range serials {
			spent, _ = checkSpendingAsDefined(t, spent, impl.PublicOf(3), madeTicket(t, 3, serial))
			for _, before := range serials[:i+1] {
				checkSpending(t, spent, impl.PublicOf(3), madeTicket(t, 3, before), spent, false)
			}
		}
	}
}

func TestSerialsThatAreThere(t *testing.T) {
	for _, spent := range spentLists() {
		for _, serial := range spent {
			for _, secret := range []int{1, 31, lastElement} {
				checkSpending(t, spent, impl.PublicOf(secret), madeTicket(t, secret, serial), spent, false)
			}
		}
	}
}

func TestPromise109RejectedTickets(t *testing.T) {
	for _, spent := range spentLists() {
		for _, secret := range []int{1, 31, lastElement} {
			for _, serial := range serialsFor(spent) {
				public := impl.PublicOf(secret)
				for _, x := range rejectedTickets(secret, serial) {
					checkTicket(t, public, x, false)
					checkSpending(t, spent, public, x, spent, false)
				}
				right := madeTicket(t, secret, serial)
				for _, public := range []int{-1, 0, impl.Group, public + impl.Group, public%lastElement + 1} {
					checkSpending(t, spent, public, right, spent, false)
				}
			}
		}
	}
}

// The tickets are new ones at each place, those that are there, and those that are rejected.
func TestPromise109FullLists(t *testing.T) {
	for _, spent := range spentLists() {
		if len(spent) < impl.MaxSpent {
			continue
		}
		for serial := range impl.Numbers {
			checkSpending(t, spent, impl.PublicOf(31), madeTicket(t, 31, serial), spent, false)
			checkSpending(t, spent, impl.PublicOf(32), madeTicket(t, 31, serial), spent, false)
		}
	}
}

// One ticket is left to be spent, and the next one is not.
func TestPromise109OneIsLeft(t *testing.T) {
	for _, spent := range spentLists() {
		if len(spent) != impl.MaxSpent-1 {
			continue
		}
		for _, serial := range serialsFor(spent) {
			full, ok := checkSpendingAsDefined(t, spent, impl.PublicOf(31), madeTicket(t, 31, serial))
			for _, next := range serialsFor(spent) {
				if ok {
					checkSpending(t, full, impl.PublicOf(31), madeTicket(t, 31, next), full, false)
				}
			}
		}
	}
}

// If TicketSpend fails, it is for a reason that the promise names, and each of them makes it fail.
func TestPromise109Reasons(t *testing.T) {
	next := chosen()
	done, rejected, there, full := 0, 0, 0, 0
	for round := range 60000 {
		spent := chosenSerials(next, round%(impl.MaxSpent+1), 4*impl.MaxSpent)
		secret, serial := 1+next(lastElement), next(4*impl.MaxSpent)
		x := signedTicket(secret, serial)
		if next(4) == 0 {
			x = ticketOf(serial, 1+next(lastElement))
		}
		got, ok := impl.TicketSpend(spent, impl.PublicOf(secret), x)
		switch {
		case !impl.TicketCheck(impl.PublicOf(secret), x):
			rejected++
		case slices.Contains(spent, serial):
			there++
		case len(spent) == impl.MaxSpent:
			full++
		default:
			done++
			if !ok {
				t.Fatalf("TicketSpend(%v, %d, %v) fails", spent, impl.PublicOf(secret), x)
			}
			continue
		}
		if ok || !slices.Equal(got, spent) {
			t.Fatalf("TicketSpend(%v, %d, %v) is %v and %v", spent, impl.PublicOf(secret), x, got, ok)
		}
	}
	if min(done, rejected, there, full) < 1000 {
		t.Errorf("%d tickets are spent, %d are rejected, %d are there, and %d have no space", done, rejected, there, full)
	}
}

// checkTwoTickets spends two tickets in either order, and has how many are spent in one of them.
func checkTwoTickets(t *testing.T, spent []int, one, two int) int {
	t.Helper()
	publics := []int{impl.PublicOf(31), impl.PublicOf(32)}
	a, b := madeTicket(t, 31, one), madeTicket(t, 32, two)
	withA, okA := checkSpendingAsDefined(t, spent, publics[0], a)
	withB, okB := checkSpendingAsDefined(t, spent, publics[1], b)
	both, okBoth := impl.TicketSpend(withA, publics[1], b)
	other, okOther := impl.TicketSpend(withB, publics[0], a)
	if okA && okB && okBoth && okOther {
		checkNumbers(t, "TicketSpend in the other order", other, both)
		want := append([]int{one, two}, spent...)
		slices.Sort(want)
		checkNumbers(t, "TicketSpend of two tickets", both, want)
		return 2
	}
	if okA && okB {
		// Only one of them has space, or both have the same serial number: the first one is spent.
		if okBoth || okOther || one != two && len(spent) != impl.MaxSpent-1 {
			t.Fatalf("TicketSpend of %d and %d into %v is %v and %v", one, two, spent, okBoth, okOther)
		}
		checkNumbers(t, "TicketSpend without the other ticket", both, withA)
		checkNumbers(t, "TicketSpend without the other ticket", other, withB)
		return 1
	}
	return 0
}

func TestPromise110EitherOrder(t *testing.T) {
	counts := [3]int{}
	for _, spent := range spentLists() {
		serials := serialsFor(spent)
		for i, one := range serials {
			for j, two := range serials {
				if len(spent) > impl.MaxSpent-2 || (i+2*j)%5 == 0 {
					counts[checkTwoTickets(t, spent, one, two)]++
				}
			}
		}
	}
	if min(counts[0], counts[1], counts[2]) < 1000 {
		t.Errorf("of two tickets, none is spent %d times, one %d times, and both %d times", counts[0], counts[1], counts[2])
	}
}

func TestPromise110AllOrdersOfFiveTickets(t *testing.T) {
	for _, serials := range [][]int{{0, 1, 2, 3, 4}, {0, 300, 500, 989, lastNumber}, {7, 8, 70, 80, 700}} {
		for _, order := range permutations(serials) {
			var spent []int
			for _, serial := range order {
				spent, _ = checkSpendingAsDefined(t, spent, impl.PublicOf(5), madeTicket(t, 5, serial))
			}
			checkNumbers(t, "TicketSpend of five tickets", spent, serials)
		}
	}
}

// Only one ticket has space, which is the first one, wherever both belong.
func TestPromise110OnlyOneHasSpace(t *testing.T) {
	spent := listOf(impl.MaxSpent-1, 5, 49)
	for one := range impl.Numbers {
		for _, two := range []int{0, 4, 6, 500, one, lastNumber} {
			if slices.Contains(spent, one) || slices.Contains(spent, two) {
				continue
			}
			if checkTwoTickets(t, spent, one, two) != 1 {
				t.Fatalf("not one of the tickets %d and %d is spent", one, two)
			}
		}
	}
}

func TestPromise111AllSubsets(t *testing.T) {
	serials := []int{0, 1, 400, 401, 700, lastNumber - 1, lastNumber}
	var subsets [][]int
	for choice := range 1 << len(serials) {
		var subset []int
		for i, serial := range serials {
			if choice>>i&1 == 1 {
				subset = append(subset, serial)
			}
		}
		subsets = append(subsets, subset)
	}
	for i, a := range subsets {
		for j, b := range subsets {
			checkAudit(t, a, b, append([]int{}, subsets[i&j]...))
		}
	}
}

func TestPromise111AllLists(t *testing.T) {
	for _, a := range spentLists() {
		for _, b := range spentLists() {
			checkAudit(t, a, b, commonOf(a, b))
		}
	}
}

// One serial number at each place of full lists is in both, or all but one are.
func TestPromise111FullLists(t *testing.T) {
	all := listOf(2*impl.MaxSpent, 3, 25)
	even, odd := []int{}, []int{}
	for i := 0; i < len(all); i += 2 {
		even, odd = append(even, all[i]), append(odd, all[i+1])
	}
	checkAudit(t, even, odd, nil)
	checkAudit(t, all[:impl.MaxSpent], all[impl.MaxSpent:], nil)
	for common := range impl.MaxSpent + 1 {
		checkAudit(t, all[:impl.MaxSpent], all[impl.MaxSpent-common:2*impl.MaxSpent-common], all[impl.MaxSpent-common:impl.MaxSpent])
	}
	for place := range impl.MaxSpent {
		checkAudit(t, slices.Replace(slices.Clone(odd), place, place+1, even[place]), even, []int{even[place]})
		checkAudit(t, slices.Replace(slices.Clone(even), place, place+1, odd[place]), even, slices.Delete(slices.Clone(even), place, place+1))
	}
}

func TestPromise111ManyLists(t *testing.T) {
	next := chosen()
	for range 20000 {
		below := []int{impl.MaxSpent, 2 * impl.MaxSpent, 100, impl.Numbers}[next(4)]
		a, b := chosenSerials(next, next(impl.MaxSpent+1), below), chosenSerials(next, next(impl.MaxSpent+1), below)
		var common []int
		for _, serial := range a {
			if slices.Contains(b, serial) {
				common = append(common, serial)
			}
		}
		checkAudit(t, a, b, common)
	}
}

// The ticket is new to both mixes, which have spent others before, and may have them in common.
func TestPromise112SpentAtTwoMixes(t *testing.T) {
	found := 0
	for _, one := range fewSpentLists() {
		for _, two := range fewSpentLists() {
			for _, serial := range append(serialsFor(one), serialsFor(two)...) {
				public, x := impl.PublicOf(31), madeTicket(t, 31, serial)
				a, okA := impl.TicketSpend(one, public, x)
				b, okB := impl.TicketSpend(two, public, x)
				if !okA || !okB {
					continue
				}
				found++
				both := append([]int{serial}, commonOf(one, two)...)
				slices.Sort(both)
				checkAudit(t, a, b, both)
				checkAudit(t, a, two, commonOf(one, two))
			}
		}
	}
	if found < 10000 {
		t.Errorf("only %d tickets are spent at two mixes", found)
	}
}

func TestPromise112AllSerials(t *testing.T) {
	for serial := range impl.Numbers {
		public, x := impl.PublicOf(77), madeTicket(t, 77, serial)
		a, okA := impl.TicketSpend(nil, public, x)
		b, okB := impl.TicketSpend([]int{(serial + 495) % impl.Numbers}, public, x)
		if !okA || !okB {
			t.Fatalf("TicketSpend of %v fails", x)
		}
		checkAudit(t, a, b, []int{serial})
	}
}

func TestPromise113WithItselfAndWithNone(t *testing.T) {
	for _, list := range spentLists() {
		checkAudit(t, list, list, list)
		checkAudit(t, list, slices.Clone(list), list)
		for _, none := range [][]int{nil, {}, list[:0]} {
			checkAudit(t, list, none, nil)
		}
	}
	for serial := range impl.Numbers {
		checkAudit(t, []int{serial}, []int{serial}, []int{serial})
	}
}

func TestWrongSpentLists(t *testing.T) {
	for _, list := range wrongSpentLists() {
		if isSpentList(list) {
			t.Fatalf("%v is valid", list)
		}
		checkWrongSpentList(t, list)
	}
}

// One serial number more than MaxSpent is wrong, though all of them could have been spent.
func TestListsOfOneSerialTooMany(t *testing.T) {
	for _, full := range spentLists() {
		if len(full) < impl.MaxSpent {
			continue
		}
		for _, serial := range serialsFor(full) {
			more := append([]int{serial}, full...)
			slices.Sort(more)
			if !slices.Contains(full, serial) {
				checkWrongSpentList(t, more)
			}
		}
	}
}

// Exactly the pairs that ascend are valid.
func TestSpentListsOfAllPairs(t *testing.T) {
	x, public := signedTicket(31, 8), impl.PublicOf(31)
	for a := -1; a <= impl.Numbers; a++ {
		for b := -1; b <= impl.Numbers; b++ {
			list := []int{a, b}
			want, ok := []int(nil), false
			if a >= 0 && a < b && b <= lastNumber {
				want, ok = spendingOf(list, public, x)
			}
			checkSpending(t, list, public, x, want, ok)
		}
	}
}

// Two mixes take tickets of several secrets, of which some are rejected, until both lists are full.
func TestWholeLivesOfTwoMixes(t *testing.T) {
	next := chosen()
	for life := range 300 {
		lists := [2][]int{}
		for range 200 {
			mix, secret, serial := next(2), 1+next(3), next(20+life)
			x := ticketOf(serial, signOf(1+next(3), serial))
			lists[mix], _ = checkSpendingAsDefined(t, lists[mix], impl.PublicOf(secret), x)
		}
		checkAudit(t, lists[0], lists[1], commonOf(lists[0], lists[1]))
	}
}

func TestTicketSpendSharesNoMemory(t *testing.T) {
	few := [][]int{{-1}, {impl.Numbers}, {3, 3}, {4, 3}, listOf(impl.MaxSpent+1, 5, 24)}
	for _, spent := range append(few, spentLists()...) {
		for _, serial := range append(serialsFor(spent), -1, impl.Numbers) {
			for _, x := range []impl.Ticket{signedTicket(31, serial), ticketOf(serial, 0)} {
				checkApart(t, "TicketSpend", spent, onlyFirst(func(list []int) ([]int, bool) {
					return impl.TicketSpend(list, impl.PublicOf(31), x)
				}))
			}
		}
	}
}

// Both lists lie behind each other in one memory, with space behind them that belongs to others.
func TestTicketAuditSharesNoMemory(t *testing.T) {
	few := append(fewSpentLists(), []int{-1}, []int{impl.Numbers}, []int{3, 3}, []int{4, 3}, listOf(impl.MaxSpent+1, 5, 24))
	for _, a := range few {
		for _, b := range few {
			memory := slices.Concat(a, b, a, listOf(impl.MaxList, 17, 29))
			middle := memory[len(a) : len(a)+len(b)]
			for _, list := range [][]int{memory[:len(a)], memory[len(a)+len(b):][:len(a)]} {
				checkTwoApart(t, "TicketAudit", memory, func() twoLists {
					return twoLists{impl.TicketAudit(list, middle), impl.TicketAudit(middle, list)}
				})
			}
		}
		checkApart(t, "TicketAudit of a list with itself", a, func(list []int) []int {
			return impl.TicketAudit(list, list)
		})
		checkApart(t, "TicketAudit of a list with its beginning", a, func(list []int) []int {
			return impl.TicketAudit(list, list[:len(list)/2])
		})
	}
}

// Lists go on as arguments, and the earlier ones stay as they were.
func TestEarlierListsStay(t *testing.T) {
	public := impl.PublicOf(3)
	lists := [][]int{nil}
	for i := range impl.MaxSpent + 3 {
		after, _ := impl.TicketSpend(lists[i], public, madeTicket(t, 3, i*7%impl.MaxSpent))
		lists = append(lists, after)
	}
	before := copyOfPieces(lists)
	for i, list := range lists {
		overwrite(list)
		before[i] = slices.Clone(list)
		checkPieces(t, "the lists", lists, before)
	}
}
