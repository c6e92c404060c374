package tests

import (
	"slices"
	"testing"

	"loop.example/mixrelay/impl"
)

// takeCodes has all codes of MixTake.
var takeCodes = []int{impl.TakeDone, impl.TakeReplay, impl.TakeWrong, impl.TakeFull, impl.TakeInvalid}

func mixOf(secret int, seen []int, pool ...impl.Peeled) impl.Mix {
	return impl.Mix{Secret: secret, Seen: seen, Pool: pool}
}

// waitingPacket has a header and a body of its own for each mark, in which greater marks come first and last.
func waitingPacket(kind, next, element, tag, mark int) impl.Peeled {
	header, body := listOf(impl.HeaderSize, lastNumber-mark, 7), listOf(impl.BodySize, mark, 31)
	return impl.Peeled{Kind: kind, Next: next, Packet: packetOf(element, header, tag, body)}
}

// somePool has packets that are in no order, with both ends of all ranges.
func somePool(length int) []impl.Peeled {
	return []impl.Peeled{
		waitingPacket(impl.KindDeliver, 3, 500, 17, 2),
		waitingPacket(impl.KindForward, lastName, lastElement, lastNumber, 0),
		waitingPacket(impl.KindDeliver, 0, 9, 0, 3),
		waitingPacket(impl.KindForward, lastName, 1, lastNumber, 1),
		waitingPacket(impl.KindForward, 2, 100, 9, 4),
	}[:length:length]
}

// someKeys has different keys from both ends of the range, without one of them.
func someKeys(length, without int) []int {
	keys := []int{}
	for i := 0; len(keys) < length; i++ {
		if key := []int{lastElement - i/2, 1 + i/2}[i%2]; key != without {
			keys = append(keys, key)
		}
	}
	return keys
}

// keysWith has different keys, with one of them at a place.
func keysWith(length, key, place int) []int {
	return slices.Insert(someKeys(length-1, key), place, key)
}

// mixesFor has mixes that have not seen the key of a stop, with each number of keys and of packets for which there is
// space left.
func mixesFor(s stop) []impl.Mix {
	var mixes []impl.Mix
	for seen := range impl.MaxSeen {
		for pool := range impl.MaxPool {
			mixes = append(mixes, mixOf(s.mix, someKeys(seen, s.key()), somePool(pool)...))
		}
	}
	return mixes
}

// fullMixesFor has mixes that have not seen the key of a stop, but have no space for a further key, a further packet,
// or both.
func fullMixesFor(s stop) []impl.Mix {
	var mixes []impl.Mix
	for pool := range impl.MaxPool + 1 {
		mixes = append(mixes, mixOf(s.mix, someKeys(impl.MaxSeen, s.key()), somePool(pool)...))
	}
	for seen := range impl.MaxSeen {
		mixes = append(mixes, mixOf(s.mix, someKeys(seen, s.key()), somePool(impl.MaxPool)...))
	}
	return mixes
}

// replayMixesFor has mixes that have seen the key of a stop, at each place, with space left and without.
func replayMixesFor(s stop) []impl.Mix {
	var mixes []impl.Mix
	for _, seen := range []int{1, 2, 5, impl.MaxSeen - 1, impl.MaxSeen} {
		for place := range seen {
			for pool := range impl.MaxPool + 1 {
				mixes = append(mixes, mixOf(s.mix, keysWith(seen, s.key(), place), somePool(pool)...))
			}
		}
	}
	return mixes
}

// validMixes has each number of keys and of packets.
func validMixes() []impl.Mix {
	var mixes []impl.Mix
	for _, secret := range []int{1, 11, 500, lastElement} {
		for seen := range impl.MaxSeen + 1 {
			for pool := range impl.MaxPool + 1 {
				mixes = append(mixes, mixOf(secret, someKeys(seen, 0), somePool(pool)...))
			}
		}
	}
	return mixes
}

// wrongStops has valid packets for the mix and with the key of a stop that are not peeled: with a changed header or
// tag, and with a right tag but a wrong kind or name.
func wrongStops(s stop) []stop {
	var stops []stop
	for place := range s.packet.Header {
		p := copyOf(s.packet)
		p.Header[place] = (p.Header[place] + 1 + 70*place) % impl.Numbers
		stops = append(stops, stop{s.mix, p})
	}
	for _, step := range []int{1, 500, lastNumber} {
		p := copyOf(s.packet)
		p.Tag = (p.Tag + step) % impl.Numbers
		stops = append(stops, stop{s.mix, p})
	}
	for _, beginning := range [][]int{{2, 0, 0}, {lastNumber, 3, 5}, {impl.KindForward, impl.Names, 0}, {impl.KindDeliver, lastNumber, 9}} {
		stops = append(stops, sealedStop(s.mix, s.packet.Element, beginning...))
	}
	return stops
}

// invalidPackets has packets like that of a stop, each with something invalid.
func invalidPackets(s stop) []impl.Packet {
	p := s.packet
	packets := []impl.Packet{
		{}, packetOf(p.Element, nil, p.Tag, p.Body), packetOf(p.Element, p.Header, p.Tag, nil),
		packetOf(p.Element, p.Header[:impl.HeaderSize-1], p.Tag, p.Body), packetOf(p.Element, append(slices.Clone(p.Header), 0), p.Tag, p.Body),
		packetOf(p.Element, p.Header, p.Tag, p.Body[:impl.BodySize-1]), packetOf(p.Element, p.Header, p.Tag, append(slices.Clone(p.Body), 0)),
		packetOf(0, p.Header, p.Tag, p.Body), packetOf(impl.Group, p.Header, p.Tag, p.Body), packetOf(p.Element+impl.Group, p.Header, p.Tag, p.Body), packetOf(-p.Element, p.Header, p.Tag, p.Body),
		packetOf(p.Element, p.Header, -1, p.Body), packetOf(p.Element, p.Header, impl.Numbers, p.Body), packetOf(p.Element, p.Header, p.Tag+impl.Numbers, p.Body),
	}
	for _, wrong := range []int{-1, impl.Numbers} {
		for place := range p.Header {
			packets = append(packets, copyOf(p))
			packets[len(packets)-1].Header[place] = wrong
		}
		for place := range p.Body {
			packets = append(packets, copyOf(p))
			packets[len(packets)-1].Body[place] = wrong
		}
	}
	return packets
}

func copyOfPool(pool []impl.Peeled) []impl.Peeled {
	copied := slices.Clone(pool)
	for i := range copied {
		copied[i].Packet = copyOf(copied[i].Packet)
	}
	return copied
}

func copyOfMix(m impl.Mix) impl.Mix {
	return mixOf(m.Secret, slices.Clone(m.Seen), copyOfPool(m.Pool)...)
}

func samePeeled(a, b impl.Peeled) bool {
	return a.Kind == b.Kind && a.Next == b.Next && samePacket(a.Packet, b.Packet)
}

func samePool(a, b []impl.Peeled) bool {
	return slices.EqualFunc(a, b, samePeeled)
}

func sameMix(a, b impl.Mix) bool {
	return a.Secret == b.Secret && slices.Equal(a.Seen, b.Seen) && samePool(a.Pool, b.Pool)
}

func checkPool(t *testing.T, name string, got, want []impl.Peeled) {
	t.Helper()
	if !samePool(got, want) {
		t.Fatalf("%s are %v, want %v", name, got, want)
	}
}

func checkMix(t *testing.T, name string, got, want impl.Mix) {
	t.Helper()
	if !sameMix(got, want) {
		t.Fatalf("%s is %v, want %v", name, got, want)
	}
}

func checkValidMix(t *testing.T, m impl.Mix) {
	t.Helper()
	if !impl.MixValid(m) {
		t.Fatalf("MixValid(%v) is false", m)
	}
}

func newMix(t *testing.T, secret int) impl.Mix {
	t.Helper()
	m, ok := impl.MixNew(secret)
	if !ok {
		t.Fatalf("MixNew(%d) fails", secret)
	}
	return m
}

// checkTake fails unless MixTake returns a code, and the mix that belongs to it.
func checkTake(t *testing.T, m impl.Mix, p impl.Packet, code int) impl.Mix {
	t.Helper()
	want := copyOfMix(m)
	switch code {
	case impl.TakeInvalid:
		want = impl.Mix{}
	case impl.TakeDone:
		s := stop{m.Secret, p}
		want.Seen, want.Pool = append(want.Seen, s.key()), append(want.Pool, s.peeled(t))
	}
	got, gotCode := impl.MixTake(m, p)
	if gotCode != code {
		t.Fatalf("MixTake(%v, %v) returns %d, want %d", m, p, gotCode, code)
	}
	checkMix(t, "the mix behind MixTake", got, want)
	return got
}

// outside has what outsiders see of a packet that is passed on.
func outside(p impl.Peeled) []int {
	return []int{p.Kind, p.Next, p.Packet.Element, p.Packet.Tag}
}

func compareOutside(a, b impl.Peeled) int {
	return slices.Compare(outside(a), outside(b))
}

// inOrder has the packets of a pool as MixFlush passes them on.
func inOrder(pool []impl.Peeled) []impl.Peeled {
	list := slices.Clone(pool)
	slices.SortStableFunc(list, compareOutside)
	return list
}

// checkFlush fails unless MixFlush passes on what the document asks for, and leaves the mix that it asks for.
func checkFlush(t *testing.T, m impl.Mix, all bool) (impl.Mix, []impl.Peeled) {
	t.Helper()
	want, passed := copyOfMix(m), []impl.Peeled{}
	if len(m.Pool) >= impl.Batch || all {
		want.Pool, passed = nil, inOrder(m.Pool)
	}
	got, list := impl.MixFlush(m, all)
	checkPool(t, "the packets of MixFlush", list, passed)
	checkMix(t, "the mix behind MixFlush", got, want)
	return got, list
}

// checkNewEpoch fails unless MixEpoch succeeds, and returns the mix that the document asks for.
func checkNewEpoch(t *testing.T, m impl.Mix, secret int) impl.Mix {
	t.Helper()
	got, ok := impl.MixEpoch(m, secret)
	if !ok {
		t.Fatalf("MixEpoch(%v, %d) fails", m, secret)
	}
	checkMix(t, "the mix behind MixEpoch", got, mixOf(secret, nil, m.Pool...))
	return got
}

func checkNoEpoch(t *testing.T, m impl.Mix, secret int, want impl.Mix) {
	t.Helper()
	got, ok := impl.MixEpoch(m, secret)
	if ok || !sameMix(got, want) {
		t.Fatalf("MixEpoch(%v, %d) is %v and %v, want %v and false", m, secret, got, ok, want)
	}
}

// checkInvalidMix fails if a mix is valid, or if a function returns anything for it but zero values. All packets
// would be taken, replayed or refused by a valid mix.
func checkInvalidMix(t *testing.T, m impl.Mix) {
	t.Helper()
	if impl.MixValid(m) {
		t.Fatalf("MixValid(%v) is true", m)
	}
	s := sealedStop(11, 30, impl.KindForward, 3, 5)
	checkTake(t, m, s.packet, impl.TakeInvalid)
	checkTake(t, m, wrongStops(s)[0].packet, impl.TakeInvalid)
	checkTake(t, m, impl.Packet{}, impl.TakeInvalid)
	for _, all := range []bool{false, true} {
		got, list := impl.MixFlush(m, all)
		checkMix(t, "MixFlush of an invalid mix", got, impl.Mix{})
		checkPool(t, "the packets of an invalid mix", list, nil)
	}
	for _, secret := range []int{m.Secret, 1, 11, 12, lastElement, 0, impl.Group} {
		checkNoEpoch(t, m, secret, impl.Mix{})
	}
}

func TestMixConstants(t *testing.T) {
	if impl.MaxPool != 5 || impl.MaxSeen != 12 || impl.Batch != 2 {
		t.Errorf("MaxPool, MaxSeen and Batch are %d, %d and %d", impl.MaxPool, impl.MaxSeen, impl.Batch)
	}
	checkNumbers(t, "the codes of MixTake", takeCodes, []int{0, 1, 2, 3, 4})
}

// The keys and the packets are written out, so that taking is not only checked by peeling.
func TestMixTakeValues(t *testing.T) {
	for _, w := range writtenTrips() {
		for i, mix := range w.trip.mixes {
			kind, next := impl.KindDeliver, w.trip.receiver
			if i+1 < len(w.trip.mixes) {
				kind, next = impl.KindForward, w.trip.names[i+1]
			}
			got, code := impl.MixTake(newMix(t, mix), w.packets[i])
			if code != impl.TakeDone {
				t.Fatalf("MixTake(%v) at mix %d returns %d", w.packets[i], mix, code)
			}
			want := impl.Peeled{Kind: kind, Next: next, Packet: w.packets[i+1]}
			checkMix(t, "the mix behind MixTake", got, mixOf(mix, []int{w.keys[i]}, want))
		}
	}
}

// The order is written out, so that it is not only checked by a function of these tests.
func TestMixFlushValues(t *testing.T) {
	pool := somePool(impl.MaxPool)
	want := []impl.Peeled{pool[4], pool[3], pool[1], pool[2], pool[0]}
	got, list := impl.MixFlush(mixOf(11, []int{5, 3}, pool...), false)
	checkPool(t, "the packets of MixFlush", list, want)
	checkMix(t, "the mix behind MixFlush", got, mixOf(11, []int{5, 3}))
}

func TestPromise41NewMixes(t *testing.T) {
	for secret := 1; secret <= lastElement; secret++ {
		m := newMix(t, secret)
		checkMix(t, "MixNew", m, mixOf(secret, nil))
		checkValidMix(t, m)
	}
}

func TestPromise41WrongSecrets(t *testing.T) {
	for _, secret := range outOfRange {
		if m, ok := impl.MixNew(secret); ok || !sameMix(m, impl.Mix{}) {
			t.Fatalf("MixNew(%d) is %v and %v, want the zero value and false", secret, m, ok)
		}
		checkInvalidMix(t, mixOf(secret, nil))
		checkInvalidMix(t, mixOf(secret, someKeys(3, 0), somePool(3)...))
	}
	checkInvalidMix(t, impl.Mix{})
}

func TestValidMixes(t *testing.T) {
	for _, m := range validMixes() {
		checkValidMix(t, m)
	}
	for key := 1; key <= lastElement; key++ {
		checkValidMix(t, mixOf(key, []int{key}))
		checkValidMix(t, mixOf(11, []int{key, 1 + key%lastElement}))
	}
}

// Nil and empty slices are the same.
func TestMixesOfNothing(t *testing.T) {
	s := sealedStop(11, 30, impl.KindForward, 3, 5)
	for _, seen := range [][]int{nil, {}, []int{7, 7}[:0]} {
		for _, pool := range [][]impl.Peeled{nil, {}, make([]impl.Peeled, 2)[:0]} {
			m := mixOf(11, seen, pool...)
			checkValidMix(t, m)
			checkTake(t, m, s.packet, impl.TakeDone)
			checkTake(t, m, wrongStops(s)[0].packet, impl.TakeWrong)
			checkFlush(t, m, false)
			checkFlush(t, m, true)
			checkNewEpoch(t, m, 12)
			checkNoEpoch(t, m, 11, m)
		}
	}
}

func TestTooManyKeys(t *testing.T) {
	for length := impl.MaxSeen + 1; length <= 3*impl.MaxSeen; length++ {
		checkInvalidMix(t, mixOf(11, someKeys(length, 0)))
		checkInvalidMix(t, mixOf(11, someKeys(length, 0), somePool(2)...))
	}
}

func TestEqualKeys(t *testing.T) {
	for length := 2; length <= impl.MaxSeen; length++ {
		for first := range length {
			for second := first + 1; second < length; second++ {
				keys := someKeys(length, 0)
				keys[second] = keys[first]
				checkInvalidMix(t, mixOf(11, keys, somePool(first%impl.MaxPool)...))
			}
		}
	}
}

// Keys that do not differ modulo Numbers are different keys.
func TestKeysThatAreEqualModuloNumbers(t *testing.T) {
	for key := 1; key+impl.Numbers <= lastElement; key++ {
		checkValidMix(t, mixOf(11, []int{key, key + impl.Numbers}))
		first, second := sealedStop(1, key, impl.KindForward, 3, 5), sealedStop(1, key+impl.Numbers, impl.KindForward, 3, 5)
		m := checkTake(t, newMix(t, 1), first.packet, impl.TakeDone)
		m = checkTake(t, m, second.packet, impl.TakeDone)
		checkNumbers(t, "the keys that were seen", m.Seen, []int{key, key + impl.Numbers})
	}
}

func TestKeysOutOfRange(t *testing.T) {
	for length := 1; length <= impl.MaxSeen; length++ {
		for place := range length {
			for _, wrong := range outOfRange {
				keys := someKeys(length, 0)
				keys[place] = wrong
				checkInvalidMix(t, mixOf(11, keys, somePool(place%impl.MaxPool)...))
			}
		}
	}
}

func TestTooManyPackets(t *testing.T) {
	pool := append(somePool(impl.MaxPool), somePool(impl.MaxPool)...)
	for length := impl.MaxPool + 1; length <= len(pool); length++ {
		checkInvalidMix(t, mixOf(11, nil, pool[:length]...))
		checkInvalidMix(t, mixOf(11, someKeys(impl.MaxSeen, 0), pool[:length]...))
	}
}

// invalidPeeled has peeled packets, each with something invalid.
func invalidPeeled() []impl.Peeled {
	list := []impl.Peeled{{}, {Kind: impl.KindDeliver, Next: lastName}}
	right := somePool(1)[0]
	for _, kind := range []int{-1, 2, 3, impl.Names, impl.Numbers, 1 << 32, 1<<32 + 1, -1 << 32} {
		list = append(list, impl.Peeled{Kind: kind, Next: right.Next, Packet: right.Packet})
	}
	for _, next := range wrongNames {
		list = append(list, impl.Peeled{Kind: impl.KindForward, Next: next, Packet: right.Packet}, impl.Peeled{Kind: impl.KindDeliver, Next: next, Packet: right.Packet})
	}
	for _, p := range invalidPackets(stop{11, right.Packet}) {
		list = append(list, impl.Peeled{Kind: right.Kind, Next: right.Next, Packet: p})
	}
	return list
}

func TestPoolsWithInvalidPackets(t *testing.T) {
	for _, invalid := range invalidPeeled() {
		for length := 1; length <= impl.MaxPool; length++ {
			for place := range length {
				pool := somePool(length)
				pool[place] = invalid
				checkInvalidMix(t, mixOf(11, someKeys(place, 0), pool...))
			}
		}
	}
}

func TestPoolsOfEqualPackets(t *testing.T) {
	for _, kind := range []int{impl.KindForward, impl.KindDeliver} {
		for next := range impl.Names {
			for length := 1; length <= impl.MaxPool; length++ {
				m := mixOf(11, nil, slices.Repeat([]impl.Peeled{waitingPacket(kind, next, 30, 5, 1)}, length)...)
				checkValidMix(t, m)
				checkFlush(t, m, false)
				checkFlush(t, m, true)
			}
		}
	}
}

func TestPromise42WaitingPackets(t *testing.T) {
	for i, s := range manyStops(t) {
		m := mixOf(s.mix, someKeys(i%impl.MaxSeen, s.key()), somePool(i%impl.MaxPool)...)
		got := checkTake(t, m, s.packet, impl.TakeDone)
		checkPeeled(t, "the last packet that waits", got.Pool[len(got.Pool)-1], s.peeled(t))
		if last := got.Seen[len(got.Seen)-1]; last != impl.SharedOf(s.mix, s.packet.Element) {
			t.Fatalf("the last key of %v is %d", got, last)
		}
		checkValidMix(t, got)
	}
}

func TestPromise42AllMixesWithSpace(t *testing.T) {
	for _, s := range fewStops(t) {
		for _, m := range mixesFor(s) {
			checkValidMix(t, checkTake(t, m, s.packet, impl.TakeDone))
		}
	}
}

func TestPromise43Replays(t *testing.T) {
	for i, s := range manyStops(t) {
		m := mixOf(s.mix, someKeys(i%impl.MaxSeen, s.key()), somePool(i%impl.MaxPool)...)
		m = checkTake(t, m, s.packet, impl.TakeDone)
		checkTake(t, m, s.packet, impl.TakeReplay)
		for _, all := range []bool{false, true} {
			flushed, _ := checkFlush(t, m, all)
			checkTake(t, flushed, s.packet, impl.TakeReplay)
		}
	}
}

// A packet is replayed after each of the others, behind each flush, and when no space is left.
func TestPromise43ReplaysLater(t *testing.T) {
	m := newMix(t, 11)
	var taken []impl.Packet
	for element := 1; element <= impl.MaxSeen; element++ {
		taken = append(taken, sealedStop(11, element, element%2, element%impl.Names, element).packet)
		m = checkTake(t, m, taken[element-1], impl.TakeDone)
		for _, p := range taken {
			checkTake(t, m, p, impl.TakeReplay)
		}
		if len(m.Pool) == impl.MaxPool {
			m, _ = checkFlush(t, m, false)
		}
		for _, p := range taken {
			checkTake(t, m, p, impl.TakeReplay)
		}
	}
	m, _ = checkFlush(t, m, true)
	checkTake(t, m, sealedStop(11, impl.MaxSeen+1, 0, 0, 0).packet, impl.TakeFull)
}

func TestPromise44ReplaysWithAnotherBody(t *testing.T) {
	for _, s := range fewStops(t) {
		m := checkTake(t, newMix(t, s.mix), s.packet, impl.TakeDone)
		for place := range s.packet.Body {
			p := copyOf(s.packet)
			for p.Body[place] = range impl.Numbers {
				checkTake(t, m, p, impl.TakeReplay)
			}
		}
	}
}

func TestPromise44OtherBodiesOfManyPackets(t *testing.T) {
	for i, s := range manyStops(t) {
		m := mixOf(s.mix, someKeys(i%impl.MaxSeen, s.key()), somePool(i%impl.MaxPool)...)
		m = checkTake(t, m, s.packet, impl.TakeDone)
		flushed, _ := checkFlush(t, m, true)
		for _, body := range [][]int{make([]int, impl.BodySize), listOf(impl.BodySize, lastNumber, 0), listOf(impl.BodySize, 3, 50)} {
			p := packetOf(s.packet.Element, s.packet.Header, s.packet.Tag, body)
			checkTake(t, m, p, impl.TakeReplay)
			checkTake(t, flushed, p, impl.TakeReplay)
		}
	}
}

// Another letter of the same sender over the same path is a replay: only its body differs.
func TestPromise44OtherLetters(t *testing.T) {
	for _, w := range fewTrips() {
		m := checkTake(t, newMix(t, w.mixes[0]), w.packet(t), impl.TakeDone)
		for _, w.letter = range fewLetters() {
			checkTake(t, m, w.packet(t), impl.TakeReplay)
		}
	}
}

// A mix cannot find out that a body was changed: it takes the packet, in which nothing else differs, and refuses the
// right one as a replay.
func TestChangedBodiesAreTaken(t *testing.T) {
	for _, s := range fewStops(t) {
		right := checkTake(t, newMix(t, s.mix), s.packet, impl.TakeDone)
		for place, number := range s.packet.Body {
			changed := copyOf(s.packet)
			for changed.Body[place] = range impl.Numbers {
				m := checkTake(t, newMix(t, s.mix), changed, impl.TakeDone)
				checkTake(t, m, s.packet, impl.TakeReplay)
				checkNumbers(t, "the keys that were seen", m.Seen, right.Seen)
				checkOneNumberOfTheBody(t, right.Pool[0], m.Pool[0], place, changed.Body[place] == number)
			}
		}
	}
}

// A changed body goes the way of the right one, but the receiver does not open it.
func TestChangedBodiesAreNotOpened(t *testing.T) {
	for _, w := range fewTrips() {
		for hop := range w.mixes {
			for place := range impl.BodySize {
				checkChangedOnTheWay(t, w, hop, place)
			}
		}
	}
}

func checkChangedOnTheWay(t *testing.T, w trip, hop, place int) {
	t.Helper()
	p := w.packet(t)
	for i, mix := range w.mixes {
		if i == hop {
			p.Body[place] = (p.Body[place] + 1 + 97*place) % impl.Numbers
		}
		_, list := checkFlush(t, checkTake(t, newMix(t, mix), p, impl.TakeDone), true)
		p = list[0].Packet
	}
	checkNotOpened(t, p.Body)
}

// A body with a number out of range, or of another size, makes the packet invalid.
func TestInvalidBodiesAreNotTaken(t *testing.T) {
	for _, s := range fewStops(t) {
		m := checkTake(t, newMix(t, s.mix), s.packet, impl.TakeDone)
		for place := range s.packet.Body {
			p := copyOf(s.packet)
			for _, p.Body[place] = range wrongNumbers {
				checkTake(t, m, p, impl.TakeInvalid)
				checkTake(t, newMix(t, s.mix), p, impl.TakeInvalid)
			}
		}
		for size := range 2 * impl.BodySize {
			if size != impl.BodySize {
				checkTake(t, m, packetOf(s.packet.Element, s.packet.Header, s.packet.Tag, make([]int, size)), impl.TakeInvalid)
			}
		}
	}
}

func TestPromise45ChangedHeaders(t *testing.T) {
	for _, s := range fewStops(t) {
		fresh := newMix(t, s.mix)
		m := checkTake(t, fresh, s.packet, impl.TakeDone)
		for place, right := range s.packet.Header {
			p := copyOf(s.packet)
			for number := range impl.Numbers {
				if number != right {
					p.Header[place] = number
					checkTake(t, fresh, p, impl.TakeWrong)
					checkTake(t, m, p, impl.TakeWrong)
				}
			}
			for _, p.Header[place] = range wrongNumbers {
				checkTake(t, fresh, p, impl.TakeInvalid)
			}
		}
	}
}

func TestPromise45SomeChangesOfManyPackets(t *testing.T) {
	for _, s := range manyStops(t) {
		m := checkTake(t, newMix(t, s.mix), s.packet, impl.TakeDone)
		for place := range s.packet.Header {
			p := copyOf(s.packet)
			p.Header[place] = (p.Header[place] + 1 + s.mix%lastNumber) % impl.Numbers
			checkTake(t, m, p, impl.TakeWrong)
		}
	}
}

func TestChangedTags(t *testing.T) {
	for _, s := range fewStops(t) {
		fresh := newMix(t, s.mix)
		m := checkTake(t, fresh, s.packet, impl.TakeDone)
		p := copyOf(s.packet)
		for p.Tag = range impl.Numbers {
			if p.Tag != s.packet.Tag {
				checkTake(t, fresh, p, impl.TakeWrong)
				checkTake(t, m, p, impl.TakeWrong)
			}
		}
		for _, p.Tag = range append([]int{-1, impl.Numbers, s.packet.Tag + impl.Numbers}, farTags...) {
			checkTake(t, m, p, impl.TakeInvalid)
		}
	}
}

// The packets of another mix have a wrong tag.
func TestPacketsOfOtherMixes(t *testing.T) {
	w := trip{40, []int{11, 12, 13}, []int{1, 2, 3}, 6, []int{9}}
	for _, s := range w.stops(t) {
		for _, mix := range w.mixes {
			code := impl.TakeWrong
			if mix == s.mix {
				code = impl.TakeDone
			}
			checkTake(t, newMix(t, mix), s.packet, code)
		}
	}
}

func TestPromise46SpaceIsLeft(t *testing.T) {
	for _, s := range fewStops(t) {
		for _, m := range mixesFor(s) {
			checkTake(t, m, s.packet, impl.TakeDone)
		}
	}
}

func TestPromise46NoSpaceIsLeft(t *testing.T) {
	for _, s := range fewStops(t) {
		for _, m := range fullMixesFor(s) {
			checkTake(t, m, s.packet, impl.TakeFull)
		}
	}
}

// A replay is found before it matters whether there is space.
func TestPromise46ReplaysComeBeforeSpace(t *testing.T) {
	for _, s := range fewStops(t) {
		for _, m := range replayMixesFor(s) {
			checkTake(t, m, s.packet, impl.TakeReplay)
		}
	}
}

// A wrong packet is found before it matters whether its key was seen or there is space.
func TestPromise46WrongPacketsComeFirst(t *testing.T) {
	for _, s := range fewStops(t) {
		for _, wrong := range wrongStops(s) {
			for _, m := range slices.Concat(mixesFor(s)[:impl.MaxPool], fullMixesFor(s), replayMixesFor(s)[:2*impl.MaxPool]) {
				checkTake(t, m, wrong.packet, impl.TakeWrong)
			}
		}
	}
}

// Invalid packets are found before anything else.
func TestPromise46InvalidPackets(t *testing.T) {
	for _, s := range fewStops(t) {
		for _, p := range invalidPackets(s) {
			for _, m := range slices.Concat(mixesFor(s)[:impl.MaxPool], fullMixesFor(s), replayMixesFor(s)[:2*impl.MaxPool]) {
				checkTake(t, m, p, impl.TakeInvalid)
			}
		}
	}
}

// Only the shared key counts as seen: not the element, the new element, the tag or the secret.
func TestPromise46OnlyTheSharedKeyIsAReplay(t *testing.T) {
	for _, s := range manyStops(t) {
		next := s.peeled(t).Packet
		var seen []int
		for _, other := range []int{s.packet.Element, next.Element, s.packet.Tag, next.Tag, s.mix, impl.PublicOf(s.mix), impl.FactorOf(s.key())} {
			if other != s.key() && other != 0 && !slices.Contains(seen, other) {
				seen = append(seen, other)
			}
		}
		checkTake(t, mixOf(s.mix, seen), s.packet, impl.TakeDone)
	}
}

// A mix that a path leads through several times takes the packet each time, because the keys differ.
func TestPathsThroughOneMix(t *testing.T) {
	w := trip{500, []int{11, 11, 11}, []int{7, 7, 7}, 3, []int{5, 6}}
	m := newMix(t, 11)
	for _, s := range w.stops(t) {
		m = checkTake(t, m, s.packet, impl.TakeDone)
	}
	for _, s := range w.stops(t) {
		checkTake(t, m, s.packet, impl.TakeReplay)
	}
}

// The packets go from mix to mix as the mixes pass them on, up to their letters.
func TestLettersGoThroughMixes(t *testing.T) {
	for _, w := range manyTrips() {
		p := w.packet(t)
		var passed impl.Peeled
		for i, mix := range w.mixes {
			if i > 0 && (passed.Kind != impl.KindForward || passed.Next != w.names[i]) {
				t.Fatalf("%v is passed on as %v", w, passed)
			}
			_, list := checkFlush(t, checkTake(t, newMix(t, mix), p, impl.TakeDone), true)
			passed = list[0]
			p = passed.Packet
		}
		if passed.Kind != impl.KindDeliver || passed.Next != w.receiver {
			t.Fatalf("%v is delivered as %v", w, passed)
		}
		checkOpens(t, p.Body, w.letter)
	}
}

func TestPromise47WhatIsPassedOn(t *testing.T) {
	for _, m := range validMixes() {
		for _, all := range []bool{false, true} {
			_, list := checkFlush(t, m, all)
			want := 0
			if all || len(m.Pool) >= 2 {
				want = len(m.Pool)
			}
			if len(list) != want {
				t.Fatalf("MixFlush(%v, %v) passes on %d packets, want %d", m, all, len(list), want)
			}
		}
	}
}

// orderValues has pools for tests of the order: two values of each number that outsiders see. The greater ones begin
// with a smaller digit, so that they are not compared as text.
func orderValues() []impl.Peeled {
	var list []impl.Peeled
	for choice := range 16 {
		element, tag := []int{9, 100}[choice>>2&1], []int{8, 70}[choice>>3&1]
		list = append(list, waitingPacket(choice&1, []int{2, 7}[choice>>1&1], element, tag, 0))
	}
	return list
}

// marked has the packets with different bodies and headers, in which the order is another one.
func marked(pool []impl.Peeled) []impl.Peeled {
	list := copyOfPool(pool)
	for i, mark := range []int{2, 0, 3, 1, 4}[:len(list)] {
		p := list[i]
		list[i] = waitingPacket(p.Kind, p.Next, p.Packet.Element, p.Packet.Tag, mark)
	}
	return list
}

// checkOrder fails if the packets are not ordered by kind, name, element and tag, those that are equal in all as in
// the pool.
func checkOrder(t *testing.T, pool []impl.Peeled) {
	t.Helper()
	_, list := checkFlush(t, mixOf(11, nil, pool...), true)
	place := func(p impl.Peeled) int {
		return slices.IndexFunc(pool, func(q impl.Peeled) bool { return samePeeled(p, q) })
	}
	for i := range len(list) - 1 {
		c := compareOutside(list[i], list[i+1])
		if c > 0 || c == 0 && place(list[i]) > place(list[i+1]) {
			t.Fatalf("%v are passed on as %v", pool, list)
		}
	}
}

func TestPromise48AllPoolsOfTwoAndThree(t *testing.T) {
	values := orderValues()
	for _, a := range values {
		for _, b := range values {
			checkOrder(t, marked([]impl.Peeled{a, b}))
			for _, c := range values {
				checkOrder(t, marked([]impl.Peeled{a, b, c}))
			}
		}
	}
}

// permutations has all orders of a list.
func permutations[T any](list []T) [][]T {
	if len(list) == 0 {
		return [][]T{{}}
	}
	var all [][]T
	for i := range list {
		for _, rest := range permutations(slices.Delete(slices.Clone(list), i, i+1)) {
			all = append(all, append([]T{list[i]}, rest...))
		}
	}
	return all
}

// poolsOfFive has packets that differ in all, in one, or in none of the numbers that outsiders see, or that are equal
// in pairs.
func poolsOfFive() [][]impl.Peeled {
	values := orderValues()
	var different, nexts, elements, tags []impl.Peeled
	for i := range impl.MaxPool {
		different = append(different, waitingPacket(i%2, 7-i, 3+90*i, 990-9*i, i))
		nexts = append(nexts, waitingPacket(1, 3+i, 996, 5, i))
		elements = append(elements, waitingPacket(0, 3, 8+i, 5, i))
		tags = append(tags, waitingPacket(0, 3, 1, 98+i, i))
	}
	return [][]impl.Peeled{
		different, nexts, elements, tags, somePool(impl.MaxPool),
		marked(slices.Repeat(values[5:6], impl.MaxPool)),
		marked([]impl.Peeled{values[0], values[0], values[15], values[15], values[0]}),
		marked([]impl.Peeled{values[1], values[2], values[4], values[8], values[1]}),
		marked([]impl.Peeled{values[14], values[13], values[11], values[7], values[7]}),
		marked([]impl.Peeled{values[3], values[3], values[3], values[12], values[6]}),
	}
}

func TestPromise48AllOrdersOfArrival(t *testing.T) {
	for _, pool := range poolsOfFive() {
		for length := 1; length <= impl.MaxPool; length++ {
			for _, other := range permutations(pool[:length]) {
				checkOrder(t, other)
			}
		}
	}
}

// chosen has a number below a limit at each call, in an order that looks random but is always the same.
func chosen() func(below int) int {
	number := 1
	return func(below int) int {
		number = number * 48271 % 2147483647
		return number / 7 % below
	}
}

// The packets have numbers of all ranges, and often the same ones.
func TestPromise48ManyPools(t *testing.T) {
	next := chosen()
	for round := range 20000 {
		elements, tags := []int{1, 3, lastElement}[round%3], []int{1, 2, impl.Numbers}[round/3%3]
		var pool []impl.Peeled
		for mark := range next(impl.MaxPool + 1) {
			pool = append(pool, waitingPacket(next(2), next(1+round%impl.Names), 1+next(elements), next(tags), mark))
		}
		checkOrder(t, pool)
	}
}

// Mixes that got the packets in another order pass them on alike, since their elements differ.
func TestPromise49ReverseOrder(t *testing.T) {
	for _, pool := range poolsOfFive() {
		for length := 1; length <= impl.MaxPool; length++ {
			for _, order := range permutations(pool[:length]) {
				for i := range order {
					order[i].Packet.Element = 1 + (order[i].Packet.Element*7+400*i)%lastElement
				}
				reverse := slices.Clone(order)
				slices.Reverse(reverse)
				_, list := impl.MixFlush(mixOf(11, nil, order...), true)
				_, other := impl.MixFlush(mixOf(11, nil, reverse...), true)
				checkDifferentElements(t, order)
				checkPool(t, "the packets of the mix in reverse order", other, list)
			}
		}
	}
}

func checkDifferentElements(t *testing.T, pool []impl.Peeled) {
	t.Helper()
	for i, p := range pool {
		for _, q := range pool[:i] {
			if p.Packet.Element == q.Packet.Element {
				t.Fatalf("two packets of %v have the same element", pool)
			}
		}
	}
}

// Packets that senders have made and a mix has taken, in all orders of arrival.
func TestPromise49PacketsOfSenders(t *testing.T) {
	var packets []impl.Packet
	for i := range impl.MaxPool {
		w := trip{40 + i, []int{11, 12}[:1+i%2], []int{1, 2}[:1+i%2], 6 - i/2, []int{i}}
		packets = append(packets, w.packet(t))
	}
	var first []impl.Peeled
	for i, order := range permutations(packets) {
		m := newMix(t, 11)
		for _, p := range order {
			m = checkTake(t, m, p, impl.TakeDone)
		}
		_, list := checkFlush(t, m, false)
		if i == 0 {
			first = list
		}
		checkPool(t, "the packets of another order of arrival", list, first)
	}
}

// Those that are equal in all that outsiders see keep their order, also the reverse one.
func TestEqualPacketsKeepTheirOrder(t *testing.T) {
	for length := 1; length <= impl.MaxPool; length++ {
		for _, pool := range permutations(marked(slices.Repeat(orderValues()[:1], length))) {
			_, list := impl.MixFlush(mixOf(11, nil, pool...), true)
			checkPool(t, "equal packets", list, pool)
		}
	}
}

func TestPromise50FlushingTwice(t *testing.T) {
	for _, m := range validMixes() {
		for _, all := range []bool{false, true} {
			flushed, _ := checkFlush(t, m, true)
			again, list := checkFlush(t, flushed, all)
			checkPool(t, "the packets of a second MixFlush", list, nil)
			checkMix(t, "the mix behind a second MixFlush", again, flushed)
		}
	}
}

// A packet that is left alone waits for the next one, or until all are asked for.
func TestFlushingOneByOne(t *testing.T) {
	first, second := sealedStop(11, 30, impl.KindForward, 3, 5), sealedStop(11, 31, impl.KindForward, 2, 5)
	m := checkTake(t, newMix(t, 11), first.packet, impl.TakeDone)
	m, list := checkFlush(t, m, false)
	checkPool(t, "the packets of a small batch", list, nil)
	_, list = checkFlush(t, m, true)
	checkPool(t, "the packets of a small batch that is asked for", list, []impl.Peeled{first.peeled(t)})
	m = checkTake(t, m, second.packet, impl.TakeDone)
	m, list = checkFlush(t, m, false)
	checkPool(t, "the packets of a batch", list, []impl.Peeled{second.peeled(t), first.peeled(t)})
	m, list = checkFlush(t, m, false)
	checkPool(t, "the packets behind a batch", list, nil)
	checkNumbers(t, "the keys that were seen", m.Seen, []int{first.key(), second.key()})
}

func TestPromise51NoPacketIsLost(t *testing.T) {
	for _, pool := range append(poolsOfFive(), marked(somePool(impl.MaxPool))) {
		for length := range impl.MaxPool + 1 {
			for _, all := range []bool{false, true} {
				_, list := impl.MixFlush(mixOf(11, nil, pool[:length]...), all)
				if len(list) > 0 && len(list) != length {
					t.Fatalf("%d of %d packets are passed on", len(list), length)
				}
				for _, p := range pool[:length] {
					is := func(q impl.Peeled) bool { return samePeeled(p, q) }
					if len(list) > 0 && !slices.ContainsFunc(list, is) {
						t.Fatalf("%v is not among %v", p, list)
					}
				}
			}
		}
	}
}

// The pool is empty behind a flush, so that further packets are taken until MaxSeen keys were seen.
func TestTakingAfterAFlush(t *testing.T) {
	m := newMix(t, lastElement)
	taken := 0
	for element := 1; element <= 3*impl.MaxSeen; element++ {
		p := sealedStop(lastElement, element, impl.KindDeliver, element%impl.Names, 0).packet
		if taken == impl.MaxSeen {
			checkTake(t, m, p, impl.TakeFull)
			continue
		}
		if len(m.Pool) == impl.MaxPool {
			checkTake(t, m, p, impl.TakeFull)
			m, _ = checkFlush(t, m, element%2 == 0)
		}
		m = checkTake(t, m, p, impl.TakeDone)
		taken++
	}
	if taken != impl.MaxSeen || len(m.Seen) != impl.MaxSeen || len(m.Pool) != impl.MaxSeen%impl.MaxPool {
		t.Fatalf("%d packets were taken by %v", taken, m)
	}
}

func TestPromise52NewEpochs(t *testing.T) {
	for _, m := range validMixes() {
		for _, secret := range []int{1, 2, 12, 499, lastElement - 1, lastElement} {
			if secret != m.Secret {
				checkValidMix(t, checkNewEpoch(t, m, secret))
			}
		}
	}
}

// In a new epoch, packets for the new secret are taken, those for the old one are wrong, and, back at the old secret,
// those that were taken before are taken again.
func TestPromise52TakingInANewEpoch(t *testing.T) {
	old, other := sealedStop(11, 30, impl.KindForward, 3, 5), sealedStop(12, 30, impl.KindForward, 3, 5)
	m := mixOf(11, someKeys(impl.MaxSeen-1, old.key()), somePool(2)...)
	m = checkTake(t, m, old.packet, impl.TakeDone)
	checkTake(t, m, sealedStop(11, 31, impl.KindForward, 3, 5).packet, impl.TakeFull)
	m = checkNewEpoch(t, m, 12)
	checkTake(t, m, old.packet, impl.TakeWrong)
	m = checkTake(t, m, other.packet, impl.TakeDone)
	checkTake(t, m, other.packet, impl.TakeReplay)
	m = checkNewEpoch(t, m, 11)
	m = checkTake(t, m, old.packet, impl.TakeDone)
	checkTake(t, m, other.packet, impl.TakeWrong)
	checkTake(t, m, sealedStop(11, 31, impl.KindForward, 3, 5).packet, impl.TakeFull)
	checkNumbers(t, "the keys that were seen", m.Seen, []int{old.key()})
}

func TestPromise53AllSecrets(t *testing.T) {
	for _, m := range []impl.Mix{mixOf(1, nil), mixOf(500, someKeys(3, 0), somePool(1)...), mixOf(lastElement, someKeys(impl.MaxSeen, 0), somePool(impl.MaxPool)...)} {
		for secret := 1; secret <= lastElement; secret++ {
			if secret == m.Secret {
				checkNoEpoch(t, m, secret, m)
			} else {
				checkNewEpoch(t, m, secret)
			}
		}
	}
}

func TestPromise53TheSameSecret(t *testing.T) {
	for _, m := range validMixes() {
		checkNoEpoch(t, m, m.Secret, m)
	}
	for secret := 1; secret <= lastElement; secret++ {
		m := mixOf(secret, []int{secret}, somePool(secret%impl.MaxPool)...)
		checkNoEpoch(t, m, secret, m)
	}
}

func TestPromise53WrongSecrets(t *testing.T) {
	for _, m := range validMixes() {
		for _, secret := range append([]int{m.Secret + impl.Group, m.Secret - impl.Group, -m.Secret}, outOfRange...) {
			checkNoEpoch(t, m, secret, impl.Mix{})
		}
	}
}

func TestPromise54KeysAreRemembered(t *testing.T) {
	for _, m := range validMixes() {
		flushed, _ := impl.MixFlush(m, true)
		if len(flushed.Pool) != 0 || len(flushed.Seen) != len(m.Seen) {
			t.Fatalf("MixFlush(%v) leaves %v", m, flushed)
		}
		checkNumbers(t, "the keys behind MixFlush", flushed.Seen, m.Seen)
	}
}

// returned has all slices that a function of mixes returns.
type returned struct {
	mix  impl.Mix
	list []impl.Peeled
}

func (r returned) copied() returned {
	return returned{copyOfMix(r.mix), copyOfPool(r.list)}
}

func (r returned) same(other returned) bool {
	return sameMix(r.mix, other.mix) && samePool(r.list, other.list)
}

// spoil overwrites one of the slices up to its capacity, and reports whether there is one with this number.
func (r returned) spoil(number int) bool {
	pools := [][]impl.Peeled{r.mix.Pool, r.list}
	numbers := [][]int{r.mix.Seen}
	for _, pool := range pools {
		for _, p := range pool {
			numbers = append(numbers, p.Packet.Header, p.Packet.Body)
		}
	}
	if number < len(numbers) {
		overwrite(numbers[number])
		return true
	}
	number -= len(numbers)
	if number >= len(pools) {
		return false
	}
	pool := pools[number][:cap(pools[number])]
	for i := range pool {
		pool[i] = impl.Peeled{Kind: -7, Next: -7}
	}
	return true
}

// arguments has a mix and a packet whose slices lie behind each other in one memory, with space behind them, so that
// appending to one of them would change another one.
type arguments struct {
	mix     impl.Mix
	packet  impl.Packet
	numbers []int
	peeled  []impl.Peeled
}

func laidOut(m impl.Mix, p impl.Packet) arguments {
	a := arguments{numbers: slices.Clone(m.Seen)}
	packets := []impl.Packet{p}
	for _, waits := range m.Pool {
		packets = append(packets, waits.Packet)
	}
	for _, packet := range packets {
		a.numbers = slices.Concat(a.numbers, packet.Header, packet.Body)
	}
	a.numbers = append(a.numbers, listOf(impl.MaxList, 17, 29)...)
	rest := a.numbers
	cut := func(length int) []int {
		list := rest[:length]
		rest = rest[length:]
		return list
	}
	seen := cut(len(m.Seen))
	for i := range packets {
		packets[i].Header, packets[i].Body = cut(len(packets[i].Header)), cut(len(packets[i].Body))
	}
	a.peeled = slices.Concat(m.Pool, somePool(impl.MaxPool))
	for i := range m.Pool {
		a.peeled[i].Packet = packets[1+i]
	}
	a.mix, a.packet = impl.Mix{Secret: m.Secret, Seen: seen, Pool: a.peeled[:len(m.Pool)]}, packets[0]
	return a
}

// checkMixApart fails if a function changes its arguments, or if a slice that it returns shares memory with them, with
// another slice of the result, or with another result.
func checkMixApart(t *testing.T, name string, m impl.Mix, p impl.Packet, of func(impl.Mix, impl.Packet) returned) {
	t.Helper()
	for part, more := 0, true; more; part++ {
		a := laidOut(m, p)
		numbers, peeled := slices.Clone(a.numbers), copyOfPool(a.peeled)
		another, got := of(a.mix, a.packet), of(a.mix, a.packet)
		unchanged, want := another.copied(), got.copied()
		more = got.spoil(part)
		want.spoil(part)
		if !got.same(want) {
			t.Fatalf("two slices of a result of %s share memory", name)
		}
		if !another.same(unchanged) || !of(a.mix, a.packet).same(unchanged) {
			t.Fatalf("two results of %s share memory", name)
		}
		checkNumbers(t, "the memory of the arguments of "+name, a.numbers, numbers)
		checkPool(t, "the packets of the arguments of "+name, a.peeled, peeled)
	}
}

func take(m impl.Mix, p impl.Packet) returned {
	mix, _ := impl.MixTake(m, p)
	return returned{mix: mix}
}

func checkAllApart(t *testing.T, m impl.Mix, p impl.Packet) {
	t.Helper()
	checkMixApart(t, "MixTake", m, p, take)
	for _, all := range []bool{false, true} {
		checkMixApart(t, "MixFlush", m, p, func(m impl.Mix, _ impl.Packet) returned {
			mix, list := impl.MixFlush(m, all)
			return returned{mix, list}
		})
	}
	for _, secret := range []int{m.Secret, 12, lastElement, 0} {
		checkMixApart(t, "MixEpoch", m, p, func(m impl.Mix, _ impl.Packet) returned {
			mix, _ := impl.MixEpoch(m, secret)
			return returned{mix: mix}
		})
	}
	checkMixApart(t, "MixValid and MixNew", m, p, func(m impl.Mix, _ impl.Packet) returned {
		impl.MixValid(m)
		mix, _ := impl.MixNew(m.Secret)
		return returned{mix: mix}
	})
}

func TestMixesShareNoMemory(t *testing.T) {
	s := sealedStop(11, 30, impl.KindForward, 3, 5)
	wrong := wrongStops(s)[0]
	for _, m := range slices.Concat(mixesFor(s), fullMixesFor(s), replayMixesFor(s)) {
		checkAllApart(t, m, s.packet)
		checkAllApart(t, m, wrong.packet)
		checkAllApart(t, m, packetOf(0, s.packet.Header, s.packet.Tag, s.packet.Body))
	}
	for _, m := range []impl.Mix{{}, mixOf(0, someKeys(3, 0), somePool(3)...), mixOf(11, []int{5, 5}, somePool(2)...), mixOf(11, nil, append(somePool(2), impl.Peeled{})...)} {
		checkAllApart(t, m, s.packet)
	}
}

// The packets of a pool may lie in one memory, and so may a pool and the packet that is taken.
func TestMixesOfSharedArguments(t *testing.T) {
	s := sealedStop(11, 30, impl.KindForward, 3, 5)
	waits := impl.Peeled{Kind: impl.KindDeliver, Next: 2, Packet: s.packet}
	m := mixOf(11, nil, waits, waits, waits)
	for _, of := range []func() returned{
		func() returned { return take(m, s.packet) },
		func() returned { mix, list := impl.MixFlush(m, true); return returned{mix, list} },
		func() returned { mix, _ := impl.MixEpoch(m, 12); return returned{mix: mix} },
	} {
		for part, more := 0, true; more; part++ {
			before, got := copyOf(s.packet), of()
			want := got.copied()
			more = got.spoil(part)
			want.spoil(part)
			if !got.same(want) {
				t.Fatalf("two slices of a result share memory, as those of the argument do")
			}
			checkPacket(t, "the packet", s.packet, before)
		}
	}
}
