package tests

import (
	"math"
	"slices"
	"testing"

	"loop.example/mixrelay/impl"
)

const lastName = impl.Names - 1

// stepSize is the number of numbers of a header that one mix reads.
const stepSize = 3

// wrongNames has the neighbours of both ends, and numbers that are in range after a remainder or with their upper bits
// cut off.
var wrongNames = []int{-1, -impl.Names, impl.Names, impl.Names + 1, 2 * impl.Names, lastNumber, 1 << 32, 1<<32 + 3, math.MaxInt, math.MinInt, math.MinInt + 3}

// trip has the arguments of PacketMake, with the secrets of the mixes instead of their public keys.
type trip struct {
	secret   int
	mixes    []int
	names    []int
	receiver int
	letter   []int
}

// stop is a packet, and a mix that peels it.
type stop struct {
	mix    int
	packet impl.Packet
}

// writtenTrip is a trip with its keys, its packet, and the packet behind each mix.
type writtenTrip struct {
	trip    trip
	keys    []int
	packets []impl.Packet
}

func packetOf(element int, header []int, tag int, body []int) impl.Packet {
	return impl.Packet{Element: element, Header: header, Tag: tag, Body: body}
}

// writtenTrips has paths of all lengths, both ends of the ranges of secrets, names, receivers and numbers of letters,
// and paths that lead through one mix several times. The packets are written out, so that peeling and making are not
// only checked by each other.
func writtenTrips() []writtenTrip {
	return []writtenTrip{
		{trip{1, []int{1}, []int{0}, 0, []int{}}, []int{5}, []impl.Packet{
			packetOf(5, []int{16, 31, 69, 129, 211, 315, 441, 589, 759}, 72, []int{15, 31, 69, 129, 211, 155}),
			packetOf(195, []int{0, 0, 0, 0, 0, 0, 40, 817, 581}, 0, []int{0, 0, 0, 0, 0, 831}),
		}},
		{trip{996, []int{996}, []int{7}, 7, []int{990, 990, 990, 990}}, []int{5}, []impl.Packet{
			packetOf(992, []int{16, 38, 69, 129, 211, 315, 441, 589, 759}, 519, []int{19, 30, 68, 128, 210, 783}),
			packetOf(802, []int{0, 0, 0, 0, 0, 0, 40, 817, 581}, 0, []int{4, 990, 990, 990, 990, 468}),
		}},
		{trip{1, []int{996}, []int{7}, 0, []int{0}}, []int{992}, []impl.Packet{
			packetOf(5, []int{8, 19, 53, 109, 187, 287, 409, 553, 719}, 121, []int{8, 19, 53, 109, 187, 815}),
			packetOf(872, []int{0, 0, 0, 0, 0, 0, 84, 865, 633}, 0, []int{1, 0, 0, 0, 0, 528}),
		}},
		{trip{996, []int{1}, []int{0}, 7, []int{1, 2, 3, 4}}, []int{992}, []impl.Packet{
			packetOf(992, []int{8, 26, 53, 109, 187, 287, 409, 553, 719}, 568, []int{11, 20, 55, 112, 191, 466}),
			packetOf(125, []int{0, 0, 0, 0, 0, 0, 84, 865, 633}, 0, []int{4, 1, 2, 3, 4, 179}),
		}},
		{trip{40, []int{11}, []int{1}, 6, []int{9}}, []int{206}, []impl.Packet{
			packetOf(200, []int{418, 640, 873, 143, 426, 731, 67, 416, 787}, 435, []int{418, 643, 873, 143, 426, 346}),
			packetOf(270, []int{0, 0, 0, 0, 0, 0, 802, 387, 941}, 0, []int{1, 9, 0, 0, 0, 606}),
		}},
		{trip{1, []int{1, 1}, []int{0, 0}, 0, []int{}}, []int{5, 195}, []impl.Packet{
			packetOf(5, []int{15, 31, 555, 525, 812, 153, 529, 949, 422}, 783, []int{410, 632, 898, 217, 571, 809}),
			packetOf(195, []int{396, 601, 829, 88, 360, 654, 40, 817, 581}, 486, []int{395, 601, 829, 88, 360, 494}),
			packetOf(951, []int{0, 0, 0, 61, 500, 895, 923, 519, 93}, 0, []int{0, 0, 0, 0, 0, 831}),
		}},
		{trip{996, []int{996, 996}, []int{7, 7}, 7, []int{990, 990, 990, 990}}, []int{5, 195}, []impl.Packet{
			packetOf(992, []int{15, 38, 11, 525, 819, 153, 529, 949, 422}, 311, []int{414, 631, 897, 216, 570, 446}),
			packetOf(802, []int{396, 608, 829, 88, 360, 654, 40, 817, 581}, 933, []int{399, 600, 828, 87, 359, 131}),
			packetOf(46, []int{0, 0, 0, 61, 500, 895, 923, 519, 93}, 0, []int{4, 990, 990, 990, 990, 468}),
		}},
		{trip{40, []int{11, 12}, []int{1, 2}, 6, []int{9}}, []int{206, 249}, []impl.Packet{
			packetOf(200, []int{417, 636, 451, 647, 204, 785, 425, 109, 828}, 194, []int{921, 415, 927, 501, 119, 387}),
			packetOf(270, []int{504, 769, 54, 358, 684, 41, 802, 387, 941}, 569, []int{504, 772, 54, 358, 684, 647}),
			packetOf(379, []int{0, 0, 0, 391, 575, 715, 329, 862, 382}, 0, []int{1, 9, 0, 0, 0, 606}),
		}},
		{trip{500, []int{141, 711}, []int{7, 0}, 3, []int{5, 0, 990}}, []int{559, 298}, []impl.Packet{
			packetOf(506, []int{132, 702, 319, 528, 484, 479, 521, 607, 737}, 402, []int{736, 626, 553, 528, 549, 626}),
			packetOf(487, []int{602, 913, 250, 603, 978, 384, 883, 115, 316}, 16, []int{604, 915, 250, 602, 978, 397}),
			packetOf(867, []int{0, 0, 0, 80, 853, 591, 781, 274, 736}, 0, []int{3, 5, 0, 990, 0, 13}),
		}},
		{trip{1, []int{1, 1, 1}, []int{0, 0, 0}, 0, []int{}}, []int{5, 195, 951}, []impl.Packet{
			packetOf(5, []int{15, 31, 16, 524, 812, 358, 455, 845, 311}, 490, []int{335, 528, 787, 121, 512, 809}),
			packetOf(195, []int{395, 601, 43, 14, 256, 543, 40, 817, 581}, 938, []int{320, 497, 718, 983, 301, 494}),
			packetOf(951, []int{917, 887, 880, 61, 500, 895, 923, 519, 93}, 205, []int{916, 887, 880, 895, 932, 831}),
			packetOf(394, []int{157, 559, 895, 842, 335, 775, 535, 366, 175}, 0, []int{0, 0, 0, 0, 0, 831}),
		}},
		{trip{996, []int{996, 996, 996}, []int{7, 7, 7}, 7, []int{990, 990, 990, 990}}, []int{5, 195, 951}, []impl.Packet{
			packetOf(992, []int{15, 38, 535, 524, 819, 805, 455, 852, 311}, 708, []int{339, 527, 786, 120, 511, 446}),
			packetOf(802, []int{395, 608, 490, 14, 263, 543, 40, 817, 581}, 466, []int{324, 496, 717, 982, 300, 131}),
			packetOf(46, []int{917, 894, 880, 61, 500, 895, 923, 519, 93}, 652, []int{920, 886, 879, 894, 931, 468}),
			packetOf(603, []int{157, 559, 895, 842, 335, 775, 535, 366, 175}, 0, []int{4, 990, 990, 990, 990, 468}),
		}},
		{trip{40, []int{11, 12, 13}, []int{1, 2, 3}, 6, []int{9}}, []int{206, 249, 939}, []impl.Packet{
			packetOf(200, []int{417, 636, 562, 646, 201, 318, 327, 966, 669}, 19, []int{822, 275, 768, 345, 979, 303}),
			packetOf(270, []int{503, 766, 578, 260, 550, 873, 802, 387, 941}, 680, []int{405, 632, 886, 202, 553, 563}),
			packetOf(379, []int{893, 857, 832, 391, 575, 715, 329, 862, 382}, 524, []int{893, 860, 832, 835, 860, 522}),
			packetOf(463, []int{547, 706, 799, 344, 786, 193, 667, 510, 331}, 0, []int{1, 9, 0, 0, 0, 606}),
		}},
		{trip{7, []int{100, 137, 174}, []int{0, 1, 2}, 5, []int{4, 0}}, []int{509, 657, 777}, []impl.Packet{
			packetOf(35, []int{32, 553, 621, 4, 269, 451, 503, 699, 952}, 349, []int{930, 926, 982, 117, 309, 166}),
			packetOf(325, []int{328, 7, 572, 985, 529, 108, 442, 715, 966}, 518, []int{898, 374, 879, 441, 47, 287}),
			packetOf(778, []int{569, 370, 184, 731, 204, 624, 796, 921, 33}, 868, []int{570, 369, 184, 25, 879, 363}),
			packetOf(297, []int{706, 316, 851, 125, 321, 473, 467, 472, 455}, 0, []int{2, 4, 0, 0, 0, 590}),
		}},
		{trip{500, []int{1, 996, 1}, []int{7, 0, 7}, 0, []int{0, 0}}, []int{506, 800, 297}, []impl.Packet{
			packetOf(506, []int{26, 543, 873, 275, 685, 259, 234, 85, 3}, 950, []int{250, 893, 613, 399, 251, 394}),
			packetOf(197, []int{614, 441, 401, 740, 933, 180, 475, 751, 14}, 782, []int{224, 350, 522, 738, 7, 536}),
			packetOf(297, []int{600, 907, 246, 611, 935, 224, 214, 196, 156}, 125, []int{601, 907, 246, 598, 972, 602}),
			packetOf(108, []int{13, 954, 838, 410, 943, 441, 792, 286, 749}, 0, []int{2, 0, 0, 0, 0, 225}),
		}},
	}
}

// fewTrips is for tests that try much with each.
func fewTrips() []trip {
	var trips []trip
	for _, w := range writtenTrips() {
		trips = append(trips, w.trip)
	}
	return trips
}

// manyTrips has, for paths of all lengths, each secret of a sender, and each choice of both ends of all ranges.
func manyTrips() []trip {
	trips := fewTrips()
	letters := fewLetters()
	for hops := 1; hops <= impl.MaxHops; hops++ {
		for secret := 1; secret <= lastElement; secret++ {
			w := trip{secret: secret, receiver: secret % impl.Names, letter: letters[secret%len(letters)]}
			for i := range hops {
				w.mixes = append(w.mixes, 1+(secret*(31+i)+450*i)%lastElement)
				w.names = append(w.names, (secret/impl.Names+3*i)%impl.Names)
			}
			trips = append(trips, w)
		}
		for choice := range 1 << (2*hops + 2) {
			trips = append(trips, tripOfEnds(hops, choice))
		}
	}
	return trips
}

// tripOfEnds takes one end of a range for each bit of a choice.
func tripOfEnds(hops, choice int) trip {
	end := func(first, last int) int {
		bit := choice & 1
		choice >>= 1
		return []int{first, last}[bit]
	}
	w := trip{secret: end(1, lastElement), receiver: end(0, lastName), letter: []int{0, lastNumber}}
	for range hops {
		w.mixes = append(w.mixes, end(1, lastElement))
		w.names = append(w.names, end(0, lastName))
	}
	return w
}

func (w trip) publics() []int {
	var publics []int
	for _, mix := range w.mixes {
		publics = append(publics, impl.PublicOf(mix))
	}
	return publics
}

// keys returns the keys of a path, and fails if there are none.
func (w trip) keys(t *testing.T) []int {
	t.Helper()
	keys, ok := impl.PathKeys(w.secret, w.publics())
	if !ok || len(keys) != len(w.mixes) {
		t.Fatalf("PathKeys(%d, %v) is %v and %v", w.secret, w.publics(), keys, ok)
	}
	return keys
}

// packet returns the packet of a trip, and fails if there is none.
func (w trip) packet(t *testing.T) impl.Packet {
	t.Helper()
	p, ok := impl.PacketMake(w.secret, w.publics(), w.names, w.receiver, w.letter)
	if !ok {
		t.Fatalf("PacketMake of %v fails", w)
	}
	return p
}

// stops returns the packet of a trip as each mix of the path gets it.
func (w trip) stops(t *testing.T) []stop {
	t.Helper()
	var stops []stop
	p := w.packet(t)
	for _, mix := range w.mixes {
		stops = append(stops, stop{mix, p})
		p = stop{mix, p}.peeled(t).Packet
	}
	return stops
}

func (s stop) key() int {
	return impl.SharedOf(s.mix, s.packet.Element)
}

// peeled returns what the mix finds, and fails if it finds nothing.
func (s stop) peeled(t *testing.T) impl.Peeled {
	t.Helper()
	peeled, ok := impl.PacketPeel(s.mix, s.packet)
	if !ok {
		t.Fatalf("PacketPeel(%d, %v) fails", s.mix, s.packet)
	}
	return peeled
}

func stopsOf(t *testing.T, trips []trip) []stop {
	t.Helper()
	var stops []stop
	for _, w := range trips {
		stops = append(stops, w.stops(t)...)
	}
	return stops
}

// sealedStop has a header that begins with any numbers, with the right tag.
func sealedStop(mix, element int, beginning ...int) stop {
	header := listOf(impl.HeaderSize, 17*mix%impl.Numbers, element)
	copy(header, beginning)
	key := impl.SharedOf(mix, element)
	masked := impl.MaskOn(header, key)
	return stop{mix, packetOf(element, masked, impl.TagOf(key, masked), listOf(impl.BodySize, element%impl.Numbers, mix))}
}

// sealedStops has packets that PacketMake does not make, but that are peeled: with any tags and numbers in their
// headers and bodies.
func sealedStops() []stop {
	var stops []stop
	for _, mix := range someElements {
		for _, element := range someElements {
			for _, kind := range []int{impl.KindForward, impl.KindDeliver} {
				for _, next := range []int{0, 3, lastName} {
					for _, tag := range []int{0, 1, lastNumber} {
						stops = append(stops, sealedStop(mix, element, kind, next, tag))
					}
				}
			}
		}
	}
	return stops
}

func manyStops(t *testing.T) []stop {
	t.Helper()
	return append(stopsOf(t, manyTrips()), sealedStops()...)
}

// fewStops is for tests that try much with each.
func fewStops(t *testing.T) []stop {
	t.Helper()
	return append(stopsOf(t, fewTrips()), sealedStop(1, 1, impl.KindForward, lastName, lastNumber), sealedStop(lastElement, lastElement, impl.KindDeliver, 0, 0))
}

func copyOf(p impl.Packet) impl.Packet {
	return packetOf(p.Element, slices.Clone(p.Header), p.Tag, slices.Clone(p.Body))
}

func samePacket(a, b impl.Packet) bool {
	return a.Element == b.Element && slices.Equal(a.Header, b.Header) && a.Tag == b.Tag && slices.Equal(a.Body, b.Body)
}

func checkPacket(t *testing.T, name string, got, want impl.Packet) {
	t.Helper()
	if !samePacket(got, want) {
		t.Fatalf("%s is %v, want %v", name, got, want)
	}
}

func checkPeeled(t *testing.T, name string, got, want impl.Peeled) {
	t.Helper()
	if got.Kind != want.Kind || got.Next != want.Next || !samePacket(got.Packet, want.Packet) {
		t.Fatalf("%s is %v, want %v", name, got, want)
	}
}

func checkNoKeys(t *testing.T, secret int, publics []int) {
	t.Helper()
	if keys, ok := impl.PathKeys(secret, publics); ok || len(keys) != 0 {
		t.Fatalf("PathKeys(%d, %v) is %v and %v, want nothing and false", secret, publics, keys, ok)
	}
}

func checkNotMade(t *testing.T, secret int, publics, names []int, receiver int, letter []int) {
	t.Helper()
	p, ok := impl.PacketMake(secret, publics, names, receiver, letter)
	if ok || !samePacket(p, impl.Packet{}) {
		t.Fatalf("PacketMake(%d, %v, %v, %d, %v) is %v and %v, want the zero value and false", secret, publics, names, receiver, letter, p, ok)
	}
}

func checkNotPeeled(t *testing.T, secret int, p impl.Packet) {
	t.Helper()
	peeled, ok := impl.PacketPeel(secret, p)
	if ok || peeled.Kind != 0 || peeled.Next != 0 || !samePacket(peeled.Packet, impl.Packet{}) {
		t.Fatalf("PacketPeel(%d, %v) is %v and %v, want the zero value and false", secret, p, peeled, ok)
	}
}

// checkInvalid fails if a packet is valid, or if a mix peels it.
func checkInvalid(t *testing.T, mix int, p impl.Packet) {
	t.Helper()
	if impl.PacketValid(p) {
		t.Fatalf("PacketValid(%v) is true", p)
	}
	checkNotPeeled(t, mix, p)
}

func checkValid(t *testing.T, p impl.Packet) {
	t.Helper()
	if !impl.PacketValid(p) {
		t.Fatalf("PacketValid(%v) is false", p)
	}
}

func TestPacketConstants(t *testing.T) {
	if impl.MaxHops != 3 || impl.HeaderSize != 9 || impl.Names != 8 || impl.KindForward != 0 || impl.KindDeliver != 1 {
		t.Errorf("MaxHops, HeaderSize, Names, KindForward and KindDeliver are %d, %d, %d, %d and %d", impl.MaxHops, impl.HeaderSize, impl.Names, impl.KindForward, impl.KindDeliver)
	}
}

func TestPacketValues(t *testing.T) {
	for _, w := range writtenTrips() {
		checkNumbers(t, "PathKeys", w.trip.keys(t), w.keys)
		checkPacket(t, "PacketMake", w.trip.packet(t), w.packets[0])
		for i, mix := range w.trip.mixes {
			want := impl.Peeled{Kind: impl.KindDeliver, Next: w.trip.receiver, Packet: w.packets[i+1]}
			if i+1 < len(w.trip.mixes) {
				want.Kind, want.Next = impl.KindForward, w.trip.names[i+1]
			}
			checkPeeled(t, "PacketPeel", stop{mix, w.packets[i]}.peeled(t), want)
		}
	}
}

// No mix of a path of one appends anything before the header is read, so that all behind the receiver is zeros.
func TestPathsOfOneMix(t *testing.T) {
	for _, mix := range someElements {
		for secret := 1; secret <= lastElement; secret++ {
			key := impl.SharedOf(secret, impl.PublicOf(mix))
			for receiver := range impl.Names {
				w := trip{secret, []int{mix}, []int{(receiver + secret) % impl.Names}, receiver, []int{receiver, secret % impl.Numbers}}
				checkNumbers(t, "PathKeys of one mix", w.keys(t), []int{key})
				header := impl.MaskOn([]int{impl.KindDeliver, receiver, 0, 0, 0, 0, 0, 0, 0}, key)
				want := packetOf(impl.PublicOf(secret), header, impl.TagOf(key, header), impl.MaskOn(packed(t, w.letter), key))
				checkPacket(t, "PacketMake for one mix", w.packet(t), want)
				checkOneMix(t, w, key)
			}
		}
	}
}

func checkOneMix(t *testing.T, w trip, key int) {
	t.Helper()
	want := impl.Peeled{Kind: impl.KindDeliver, Next: w.receiver}
	appended := impl.MaskOff(make([]int, impl.HeaderSize+stepSize), key)[impl.HeaderSize:]
	want.Packet.Element = impl.BlindOf(impl.PublicOf(w.secret), impl.FactorOf(key))
	want.Packet.Header = append(make([]int, impl.HeaderSize-stepSize), appended...)
	want.Packet.Body = packed(t, w.letter)
	checkPeeled(t, "PacketPeel of one mix", stop{w.mixes[0], w.packet(t)}.peeled(t), want)
}

// The header for the last mix has zeros behind the receiver, up to what the mixes before have appended.
func TestZerosBehindTheLastMix(t *testing.T) {
	for _, w := range manyTrips() {
		stops := w.stops(t)
		last := stops[len(stops)-1].peeled(t).Packet
		zeros := impl.HeaderSize - stepSize*len(w.mixes)
		if last.Tag != 0 || slices.ContainsFunc(last.Header[:zeros], isNotZero) {
			t.Fatalf("behind the last mix of %v there is %v", w, last)
		}
	}
}

// The name of the first mix must be a name, but is not in the packet.
func TestTheNameOfTheFirstMixIsNotInThePacket(t *testing.T) {
	for _, w := range fewTrips() {
		want := w.packet(t)
		w.names = slices.Clone(w.names)
		for name := range impl.Names {
			w.names[0] = name
			checkPacket(t, "PacketMake with another first name", w.packet(t), want)
		}
	}
}

func TestWrongSecretsOfSenders(t *testing.T) {
	for _, w := range fewTrips() {
		publics := w.publics()
		for _, secret := range append([]int{w.secret + impl.Group, w.secret - impl.Group, -w.secret}, outOfRange...) {
			checkNoKeys(t, secret, publics)
			checkNoKeys(t, secret, nil)
			checkNotMade(t, secret, publics, w.names, w.receiver, w.letter)
		}
	}
}

func TestWrongPublicKeys(t *testing.T) {
	for _, w := range fewTrips() {
		for place := range w.mixes {
			publics := w.publics()
			right := publics[place]
			for _, wrong := range append([]int{right + impl.Group, right - impl.Group, -right}, outOfRange...) {
				publics[place] = wrong
				checkNoKeys(t, w.secret, publics)
				checkNotMade(t, w.secret, publics, w.names, w.receiver, w.letter)
			}
		}
	}
}

// There are as many names as mixes, so that only the length of the path is wrong.
func TestPathsOfWrongLengths(t *testing.T) {
	for _, secret := range someElements {
		for _, empty := range [][]int{nil, {}, []int{5, 10, 15}[:0]} {
			checkNoKeys(t, secret, empty)
			checkNotMade(t, secret, empty, nil, 0, nil)
			checkNotMade(t, secret, empty, []int{0}, 0, nil)
		}
		for length := impl.MaxHops + 1; length <= impl.MaxList+1; length++ {
			checkNoKeys(t, secret, listOf(length, 5, 5))
			checkNotMade(t, secret, listOf(length, 5, 5), make([]int, length), 0, nil)
			checkNotMade(t, secret, listOf(length, 5, 5), make([]int, impl.MaxHops), 0, nil)
		}
	}
}

func TestWrongNumbersOfNames(t *testing.T) {
	for _, w := range fewTrips() {
		for length := range 2*impl.MaxHops + 1 {
			if length != len(w.mixes) {
				checkNotMade(t, w.secret, w.publics(), make([]int, length), w.receiver, w.letter)
			}
		}
		checkNotMade(t, w.secret, w.publics(), nil, w.receiver, w.letter)
		checkNotMade(t, w.secret, w.publics(), w.names[:len(w.names)-1], w.receiver, w.letter)
		checkNotMade(t, w.secret, w.publics(), append(slices.Clone(w.names), 0), w.receiver, w.letter)
	}
}

func TestWrongNamesAndReceivers(t *testing.T) {
	for _, w := range fewTrips() {
		for _, wrong := range wrongNames {
			checkNotMade(t, w.secret, w.publics(), w.names, wrong, w.letter)
			for place := range w.names {
				names := slices.Clone(w.names)
				names[place] = wrong
				checkNotMade(t, w.secret, w.publics(), names, w.receiver, w.letter)
			}
		}
	}
}

func TestAllNamesAndReceivers(t *testing.T) {
	for hops := 1; hops <= impl.MaxHops; hops++ {
		for choice := range 1 << (3 * (hops + 1)) {
			w := trip{secret: 1 + choice%lastElement, receiver: choice % impl.Names}
			for i := range hops {
				w.mixes = append(w.mixes, 11+i)
				w.names = append(w.names, choice>>(3*(i+1))%impl.Names)
			}
			checkArrives(t, w)
		}
	}
}

func TestWrongLettersOfPackets(t *testing.T) {
	for _, w := range fewTrips() {
		for _, letter := range wrongLetters() {
			checkNotMade(t, w.secret, w.publics(), w.names, w.receiver, letter)
		}
	}
}

func TestTheZeroValueIsNoPacket(t *testing.T) {
	for _, mix := range someElements {
		checkInvalid(t, mix, impl.Packet{})
	}
}

func TestElementsOfPackets(t *testing.T) {
	for _, s := range fewStops(t) {
		p := copyOf(s.packet)
		for _, wrong := range append([]int{p.Element + impl.Group, p.Element - impl.Group, -p.Element}, outOfRange...) {
			checkInvalid(t, s.mix, packetOf(wrong, p.Header, p.Tag, p.Body))
		}
		for p.Element = 1; p.Element <= lastElement; p.Element++ {
			checkValid(t, p)
		}
	}
}

func TestTagsOfPackets(t *testing.T) {
	for _, s := range fewStops(t) {
		p := copyOf(s.packet)
		for _, wrong := range slices.Concat([]int{p.Tag + impl.Numbers, p.Tag - impl.Numbers, ^p.Tag}, wrongNumbers, farTags) {
			checkInvalid(t, s.mix, packetOf(p.Element, p.Header, wrong, p.Body))
		}
		for p.Tag = range impl.Numbers {
			checkValid(t, p)
		}
	}
}

// The tags of headers of other sizes are right, so that only the size is wrong.
func TestHeadersAndBodiesOfOtherSizes(t *testing.T) {
	for _, s := range fewStops(t) {
		p := s.packet
		for size := 0; size <= impl.MaxList+1; size++ {
			list := append(slices.Clone(p.Header), listOf(impl.MaxList, 0, 7)...)[:size]
			if size != impl.HeaderSize {
				checkInvalid(t, s.mix, packetOf(p.Element, list, max(0, impl.TagOf(s.key(), list)), p.Body))
				checkInvalid(t, s.mix, packetOf(p.Element, list, p.Tag, p.Body))
			}
			if size != impl.BodySize {
				checkInvalid(t, s.mix, packetOf(p.Element, p.Header, p.Tag, list))
			}
		}
		checkInvalid(t, s.mix, packetOf(p.Element, nil, p.Tag, p.Body))
		checkInvalid(t, s.mix, packetOf(p.Element, p.Header, p.Tag, nil))
		checkInvalid(t, s.mix, packetOf(p.Element, p.Body, p.Tag, p.Header))
	}
}

func TestNumbersOfHeaders(t *testing.T) {
	for _, s := range fewStops(t) {
		for place := range s.packet.Header {
			p := copyOf(s.packet)
			right := p.Header[place]
			for p.Header[place] = range impl.Numbers {
				checkValid(t, p)
			}
			for _, p.Header[place] = range append([]int{right + impl.Numbers, right - impl.Numbers}, wrongNumbers...) {
				for p.Tag = range impl.Numbers {
					checkInvalid(t, s.mix, p)
				}
			}
		}
	}
}

func TestNumbersOfBodies(t *testing.T) {
	for _, s := range fewStops(t) {
		for place := range s.packet.Body {
			p := copyOf(s.packet)
			right := p.Body[place]
			for p.Body[place] = range impl.Numbers {
				checkValid(t, p)
			}
			for _, p.Body[place] = range append([]int{right + impl.Numbers, right - impl.Numbers}, wrongNumbers...) {
				checkInvalid(t, s.mix, p)
			}
		}
	}
}

func TestWrongSecretsOfMixes(t *testing.T) {
	for _, s := range fewStops(t) {
		for _, secret := range append([]int{s.mix + impl.Group, s.mix - impl.Group, -s.mix}, outOfRange...) {
			checkNotPeeled(t, secret, s.packet)
		}
	}
}

// A mix peels the packet of another one only if both have keys that do not differ modulo Numbers: these have the same
// tags and masks, but other factors.
func TestSecretsOfOtherMixes(t *testing.T) {
	for _, s := range fewStops(t) {
		right := s.peeled(t)
		for secret := 1; secret <= lastElement; secret++ {
			other := stop{secret, s.packet}
			if other.key()%impl.Numbers != s.key()%impl.Numbers {
				checkNotPeeled(t, secret, s.packet)
				continue
			}
			want := impl.Peeled{Kind: right.Kind, Next: right.Next, Packet: copyOf(right.Packet)}
			want.Packet.Element = impl.BlindOf(s.packet.Element, impl.FactorOf(other.key()))
			checkPeeled(t, "PacketPeel with another secret", other.peeled(t), want)
		}
	}
}

func TestMixesOfAPathInAnotherOrder(t *testing.T) {
	w := trip{40, []int{11, 12, 13}, []int{1, 2, 3}, 6, []int{9}}
	for i, s := range w.stops(t) {
		for k, mix := range w.mixes {
			if k != i {
				checkNotPeeled(t, mix, s.packet)
			}
		}
	}
}

// The tags of these headers are right, so that only the kind or the name is wrong.
func TestKindsAndNamesOfHeaders(t *testing.T) {
	for _, mix := range []int{1, 500, lastElement} {
		for number := range impl.Numbers {
			for small := range impl.Names + 1 {
				checkStep(t, mix, number, small)
				checkStep(t, mix, small, number)
			}
			checkStep(t, mix, number, lastNumber)
			checkStep(t, mix, lastNumber, number)
		}
	}
}

func checkStep(t *testing.T, mix, kind, next int) {
	t.Helper()
	s := sealedStop(mix, 1+(31*kind+next)%lastElement, kind, next, (kind+next)%impl.Numbers)
	checkValid(t, s.packet)
	if kind != impl.KindForward && kind != impl.KindDeliver || next >= impl.Names {
		checkNotPeeled(t, mix, s.packet)
	} else if peeled := s.peeled(t); peeled.Kind != kind || peeled.Next != next {
		t.Fatalf("the kind %d and the name %d are peeled as %d and %d", kind, next, peeled.Kind, peeled.Next)
	}
}

func TestPathKeysShareNoMemory(t *testing.T) {
	for _, w := range manyTrips() {
		checkApart(t, "PathKeys", w.publics(), func(publics []int) []int {
			keys, _ := impl.PathKeys(w.secret, publics)
			return keys
		})
	}
}

// checkPacketApart fails if a function that reads memory changes it, or if what it returns shares memory with it, with
// another result, or between the header and the body.
func checkPacketApart(t *testing.T, name string, memory []int, of func() impl.Packet) {
	t.Helper()
	before := slices.Clone(memory)
	first, second, third := of(), of(), of()
	want := copyOf(third)
	overwrite(first.Header)
	checkNumbers(t, "the body of "+name, first.Body, want.Body)
	overwrite(second.Body)
	checkNumbers(t, "the header of "+name, second.Header, want.Header)
	checkNumbers(t, "the memory of the arguments of "+name, memory, before)
	checkPacket(t, "another result of "+name, third, want)
	checkPacket(t, "a later result of "+name, of(), want)
}

func overwrite(list []int) {
	for i := range list[:cap(list)] {
		list[:cap(list)][i] = -7
	}
}

// The public keys, the names and the letter lie behind each other in one memory.
func TestPacketMakeSharesNoMemory(t *testing.T) {
	for _, w := range append(manyTrips(), trip{}, trip{secret: 1, mixes: []int{1, 2, 3, 4}, names: []int{0, 0, 0, 0}}) {
		memory := slices.Concat(w.publics(), w.names, w.letter, listOf(impl.MaxList, 17, 29))
		hops := len(w.mixes)
		publics, names, letter := memory[:hops], memory[hops:2*hops], memory[2*hops:2*hops+len(w.letter)]
		checkPacketApart(t, "PacketMake", memory, func() impl.Packet {
			p, _ := impl.PacketMake(w.secret, publics, names, w.receiver, letter)
			return p
		})
	}
}

func TestPacketMakeFromOneListForAll(t *testing.T) {
	for hops := 1; hops <= impl.MaxHops; hops++ {
		list := listOf(hops, 1, 2)
		want, ok := impl.PacketMake(7, slices.Clone(list), slices.Clone(list), 0, slices.Clone(list))
		got, same := impl.PacketMake(7, list, list, 0, list)
		if !ok || !same {
			t.Fatalf("PacketMake of %v for all is %v and %v", list, ok, same)
		}
		checkPacket(t, "PacketMake from one list", got, want)
		checkNumbers(t, "the list", list, listOf(hops, 1, 2))
	}
}

// The body lies behind the header in one memory, or the header behind the body, so that appending to one would change
// the other.
func TestPacketPeelSharesNoMemory(t *testing.T) {
	for _, s := range manyStops(t) {
		p := s.packet
		memory := slices.Concat(p.Header, p.Body, p.Header, listOf(impl.MaxList, 17, 29))
		middle := memory[impl.HeaderSize : impl.HeaderSize+impl.BodySize]
		for _, header := range [][]int{memory[:impl.HeaderSize], memory[impl.HeaderSize+impl.BodySize:][:impl.HeaderSize]} {
			checkPeelApart(t, s, packetOf(p.Element, header, p.Tag, middle), memory)
			checkPeelApart(t, s, packetOf(p.Element, header, (p.Tag+1)%impl.Numbers, middle), memory)
			checkPeelApart(t, s, packetOf(p.Element, header[:impl.BodySize], p.Tag, middle), memory)
		}
	}
}

func checkPeelApart(t *testing.T, s stop, p impl.Packet, memory []int) {
	t.Helper()
	checkPacketApart(t, "PacketPeel", memory, func() impl.Packet {
		peeled, _ := impl.PacketPeel(s.mix, p)
		return peeled.Packet
	})
}

func TestPromise26KeysOfAPath(t *testing.T) {
	for _, w := range manyTrips() {
		secret, keys := w.secret, w.keys(t)
		for i, public := range w.publics() {
			if want := impl.SharedOf(secret, public); keys[i] != want {
				t.Fatalf("key %d of %v is %d, want %d", i, w, keys[i], want)
			}
			secret = impl.BlindOf(secret, impl.FactorOf(keys[i]))
		}
	}
}

func TestPromise26AllPathsOfOneMix(t *testing.T) {
	for secret := 1; secret <= lastElement; secret++ {
		for public := 1; public <= lastElement; public++ {
			if keys, ok := impl.PathKeys(secret, []int{public}); !ok || len(keys) != 1 || keys[0] != impl.SharedOf(secret, public) {
				t.Fatalf("PathKeys(%d, [%d]) is %v and %v", secret, public, keys, ok)
			}
		}
	}
}

func TestPromise27ShorterPathsBeginLongerOnes(t *testing.T) {
	for _, w := range manyTrips() {
		keys := w.keys(t)
		for hops := 1; hops < len(w.mixes); hops++ {
			shorter := trip{secret: w.secret, mixes: w.mixes[:hops]}
			checkNumbers(t, "PathKeys of the first mixes", shorter.keys(t), keys[:hops])
		}
	}
}

func TestPromise28PacketsAreValid(t *testing.T) {
	for _, w := range manyTrips() {
		p := w.packet(t)
		checkValid(t, p)
		if p.Element != impl.PublicOf(w.secret) {
			t.Fatalf("the element of %v is %d", w, p.Element)
		}
	}
}

func checkSizes(t *testing.T, p impl.Packet) {
	t.Helper()
	if len(p.Header) != impl.HeaderSize || len(p.Body) != impl.BodySize {
		t.Fatalf("%v has other sizes than other packets", p)
	}
}

func TestPromise29AllPacketsLookAlike(t *testing.T) {
	for _, s := range manyStops(t) {
		checkSizes(t, s.packet)
		checkSizes(t, s.peeled(t).Packet)
	}
}

func TestPromise29PacketsOfAllLettersLookAlike(t *testing.T) {
	for _, letter := range someLetters() {
		for hops := 1; hops <= impl.MaxHops; hops++ {
			w := trip{40, []int{11, 12, 13}[:hops], []int{1, 2, 3}[:hops], 6, letter}
			for _, s := range w.stops(t) {
				checkSizes(t, s.packet)
				checkSizes(t, s.peeled(t).Packet)
			}
		}
	}
}

// checkArrives lets the mixes of a path peel a packet one after the other, up to the letter.
func checkArrives(t *testing.T, w trip) {
	t.Helper()
	p := w.packet(t)
	for i, mix := range w.mixes {
		peeled := stop{mix, p}.peeled(t)
		kind, next := impl.KindDeliver, w.receiver
		if i+1 < len(w.mixes) {
			kind, next = impl.KindForward, w.names[i+1]
		}
		if peeled.Kind != kind || peeled.Next != next {
			t.Fatalf("mix %d of %v finds the kind %d and the name %d, want %d and %d", i, w, peeled.Kind, peeled.Next, kind, next)
		}
		p = peeled.Packet
	}
	checkOpens(t, p.Body, w.letter)
}

func TestPromise30LettersArrive(t *testing.T) {
	for _, w := range manyTrips() {
		checkArrives(t, w)
	}
}

func TestPromise30AllLettersArrive(t *testing.T) {
	for _, letter := range someLetters() {
		for hops := 1; hops <= impl.MaxHops; hops++ {
			checkArrives(t, trip{40, []int{11, 12, 13}[:hops], []int{1, 2, 3}[:hops], 6, letter})
		}
	}
}

func TestPromise30PathsOfOneMixFromAllSendersToAllMixes(t *testing.T) {
	for secret := 1; secret <= lastElement; secret++ {
		for mix := 1; mix <= lastElement; mix++ {
			checkArrives(t, trip{secret, []int{mix}, []int{mix % impl.Names}, secret % impl.Names, []int{mix % impl.Numbers}})
		}
	}
}

func TestPromise31BodiesAreMaskedWithAllKeys(t *testing.T) {
	for _, w := range manyTrips() {
		body := packed(t, w.letter)
		for _, key := range w.keys(t) {
			body = impl.MaskOn(body, key)
		}
		checkNumbers(t, "the body of a packet", w.packet(t).Body, body)
	}
}

func TestPromise32ChangedHeadersAreRefused(t *testing.T) {
	for _, s := range fewStops(t) {
		for place, right := range s.packet.Header {
			p := copyOf(s.packet)
			for number := range impl.Numbers {
				if number != right {
					p.Header[place] = number
					checkNotPeeled(t, s.mix, p)
				}
			}
			for _, p.Header[place] = range wrongNumbers {
				checkNotPeeled(t, s.mix, p)
			}
		}
	}
}

func TestPromise32ChangedTagsAreRefused(t *testing.T) {
	for _, s := range fewStops(t) {
		p := copyOf(s.packet)
		for p.Tag = -impl.Numbers; p.Tag <= 2*impl.Numbers; p.Tag++ {
			if p.Tag != s.packet.Tag {
				checkNotPeeled(t, s.mix, p)
			}
		}
		for _, p.Tag = range farTags {
			checkNotPeeled(t, s.mix, p)
		}
	}
}

func TestPromise32SomeChangesOfManyPackets(t *testing.T) {
	for _, s := range manyStops(t) {
		s.peeled(t)
		for _, step := range []int{1, 495, lastNumber} {
			for place := range s.packet.Header {
				p := copyOf(s.packet)
				p.Header[place] = (p.Header[place] + step) % impl.Numbers
				checkNotPeeled(t, s.mix, p)
			}
			p := copyOf(s.packet)
			p.Tag = (p.Tag + step) % impl.Numbers
			checkNotPeeled(t, s.mix, p)
		}
	}
}

func TestPromise33NewElementsAreBlinded(t *testing.T) {
	for _, s := range manyStops(t) {
		p := s.peeled(t).Packet
		checkValid(t, p)
		if want := impl.BlindOf(s.packet.Element, impl.FactorOf(s.key())); p.Element != want {
			t.Fatalf("PacketPeel(%d, %v) has the element %d, want %d", s.mix, s.packet, p.Element, want)
		}
	}
}

func TestPromise34NewBodiesAreUnmasked(t *testing.T) {
	for _, s := range manyStops(t) {
		want := impl.MaskOff(s.packet.Body, s.key())
		if len(want) != impl.BodySize {
			t.Fatalf("MaskOff(%v, %d) is %v", s.packet.Body, s.key(), want)
		}
		checkNumbers(t, "the new body", s.peeled(t).Packet.Body, want)
	}
}

func TestPromise35HeadersWithoutTheMask(t *testing.T) {
	for _, s := range manyStops(t) {
		peeled := s.peeled(t)
		opened := impl.MaskOff(s.packet.Header, s.key())
		found := []int{peeled.Kind, peeled.Next, peeled.Packet.Tag}
		checkNumbers(t, "the header without the mask", opened, append(found, peeled.Packet.Header[:impl.HeaderSize-stepSize]...))
	}
}

// What follows is three zeros, without the mask that is behind the header.
func TestPeelingAppendsThreeZeros(t *testing.T) {
	for _, s := range manyStops(t) {
		want := make([]int, stepSize)
		for i, x := range impl.StreamOf(s.key(), impl.HeaderSize+stepSize)[impl.HeaderSize:] {
			want[i] = (impl.Numbers - x) % impl.Numbers
		}
		checkNumbers(t, "the end of the new header", s.peeled(t).Packet.Header[impl.HeaderSize-stepSize:], want)
	}
}

func TestPromise36TagsAreRight(t *testing.T) {
	for _, s := range manyStops(t) {
		if s.peeled(t); !impl.TagCheck(s.key(), s.packet.Header, s.packet.Tag) {
			t.Fatalf("PacketPeel(%d, %v) succeeds with a wrong tag", s.mix, s.packet)
		}
	}
}

// The kinds and names of these packets are right, so that the tag decides alone.
func TestPromise36AllTags(t *testing.T) {
	for _, s := range sealedStops() {
		p, peeled := copyOf(s.packet), 0
		for p.Tag = range impl.Numbers {
			if _, ok := impl.PacketPeel(s.mix, p); ok {
				peeled++
				if !impl.TagCheck(s.key(), p.Header, p.Tag) {
					t.Fatalf("PacketPeel(%d, %v) succeeds with a wrong tag", s.mix, p)
				}
			}
		}
		if peeled != 1 {
			t.Fatalf("PacketPeel(%d, %v) succeeds with %d tags", s.mix, s.packet, peeled)
		}
	}
}

func TestPromise37ChangedBodiesArePeeled(t *testing.T) {
	for _, s := range fewStops(t) {
		before := s.peeled(t)
		for place, right := range s.packet.Body {
			changed := stop{s.mix, copyOf(s.packet)}
			for number := range impl.Numbers {
				changed.packet.Body[place] = number
				checkOneNumberOfTheBody(t, before, changed.peeled(t), place, number == right)
			}
		}
	}
}

func TestPromise37SomeChangesOfManyPackets(t *testing.T) {
	for _, s := range manyStops(t) {
		before := s.peeled(t)
		for place := range s.packet.Body {
			changed := stop{s.mix, copyOf(s.packet)}
			changed.packet.Body[place] = (changed.packet.Body[place] + 1) % impl.Numbers
			checkOneNumberOfTheBody(t, before, changed.peeled(t), place, false)
		}
	}
}

// checkOneNumberOfTheBody fails if two results differ in anything but one number of the body, or if this one is the
// same although it was changed.
func checkOneNumberOfTheBody(t *testing.T, before, after impl.Peeled, place int, same bool) {
	t.Helper()
	if (before.Packet.Body[place] == after.Packet.Body[place]) != same {
		t.Fatalf("number %d of the body of %v became that of %v", place, before, after)
	}
	after.Packet.Body[place] = before.Packet.Body[place]
	checkPeeled(t, "PacketPeel with a changed body", after, before)
}

// A path that leads through the same mix twice is peeled by it again, and others are not.
func TestPromise38PeelingAgain(t *testing.T) {
	again, refused := 0, 0
	for _, s := range manyStops(t) {
		next := stop{s.mix, s.peeled(t).Packet}
		if _, ok := impl.PacketPeel(next.mix, next.packet); !ok {
			refused++
		} else if impl.TagCheck(next.key(), next.packet.Header, next.packet.Tag) {
			again++
		} else {
			t.Fatalf("mix %d peels %v again, with a wrong tag", next.mix, next.packet)
		}
	}
	if again == 0 || refused == 0 {
		t.Fatalf("%d packets are peeled again, and %d are not", again, refused)
	}
}

// The kind and the name that the mix would find again are right, so that only the new tag decides, of which one is
// right for the new key.
func TestPromise38PeelingAgainWithAllTags(t *testing.T) {
	for _, mix := range someElements {
		element := 30
		factor := impl.FactorOf(impl.SharedOf(mix, element))
		newKey := impl.SharedOf(mix, impl.BlindOf(element, factor))
		hidden := impl.MaskOn([]int{impl.KindDeliver, 2, 0, 5, 6, 7}, newKey)
		peeled := 0
		for tag := range impl.Numbers {
			s := sealedStop(mix, element, append([]int{impl.KindForward, 1, tag}, hidden...)...)
			again := s.peeled(t).Packet
			if _, ok := impl.PacketPeel(mix, again); ok {
				peeled++
				if !impl.TagCheck(newKey, again.Header, tag) {
					t.Fatalf("mix %d peels %v again, with a wrong tag", mix, again)
				}
			}
		}
		if peeled != 1 {
			t.Fatalf("mix %d peels with %d new tags again", mix, peeled)
		}
	}
}

func TestPromise39LettersDoNotShowOutside(t *testing.T) {
	for _, w := range fewTrips() {
		first := w.packet(t)
		for _, w.letter = range someLetters() {
			p := w.packet(t)
			p.Body = first.Body
			checkPacket(t, "PacketMake of another letter", p, first)
		}
	}
}

func TestPromise40OtherSecretsHaveOtherElements(t *testing.T) {
	for _, w := range fewTrips() {
		checkDifferent(t, "the element", func(secret int) int {
			w.secret = secret
			return w.packet(t).Element
		})
	}
}
