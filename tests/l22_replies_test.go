package tests

import (
	"math"
	"slices"
	"testing"

	"loop.example/mixrelay/impl"
)

func blockOf(first, element int, header []int, tag int) impl.Block {
	return impl.Block{First: first, Element: element, Header: header, Tag: tag}
}

// someBlock has numbers of its own in its header, with a tag that no mix finds right.
func someBlock(first, element, tag int) impl.Block {
	return blockOf(first, element, listOf(impl.HeaderSize, element%impl.Numbers, 97), tag)
}

// someBlocks has both ends of all ranges. Most were not made by ReplyMake.
func someBlocks() []impl.Block {
	var blocks []impl.Block
	for _, first := range []int{0, 1, 4, lastName} {
		for _, element := range []int{1, 2, 500, lastElement} {
			for _, tag := range []int{0, 1, 495, lastNumber} {
				blocks = append(blocks, someBlock(first, element, tag), blockOf(first, element, listOf(impl.HeaderSize, 0, 0), tag), blockOf(first, element, listOf(impl.HeaderSize, lastNumber, 0), tag))
			}
		}
	}
	for _, w := range writtenTrips() {
		p := w.packets[0]
		blocks = append(blocks, blockOf(w.trip.names[0], p.Element, p.Header, p.Tag))
	}
	return blocks
}

func copyOfBlock(b impl.Block) impl.Block {
	return blockOf(b.First, b.Element, slices.Clone(b.Header), b.Tag)
}

func sameBlock(a, b impl.Block) bool {
	return a.First == b.First && a.Element == b.Element && slices.Equal(a.Header, b.Header) && a.Tag == b.Tag
}

func checkBlock(t *testing.T, name string, got, want impl.Block) {
	t.Helper()
	if !sameBlock(got, want) {
		t.Fatalf("%s is %v, want %v", name, got, want)
	}
}

// block returns the block for the receiver of a trip and the keys of its maker, and fails if there is none.
func (w trip) block(t *testing.T) (impl.Block, []int) {
	t.Helper()
	b, keys, ok := impl.ReplyMake(w.secret, w.publics(), w.names, w.receiver)
	if !ok {
		t.Fatalf("ReplyMake of %v fails", w)
	}
	return b, keys
}

// reply returns the packet of a reply, and fails if there is none.
func reply(t *testing.T, b impl.Block, letter []int) impl.Packet {
	t.Helper()
	p, ok := impl.ReplyFill(b, letter)
	if !ok {
		t.Fatalf("ReplyFill(%v, %v) fails", b, letter)
	}
	return p
}

func checkNoBlock(t *testing.T, secret int, publics, names []int, owner int) {
	t.Helper()
	b, keys, ok := impl.ReplyMake(secret, publics, names, owner)
	if ok || !sameBlock(b, impl.Block{}) || len(keys) != 0 {
		t.Fatalf("ReplyMake(%d, %v, %v, %d) is %v, %v and %v, want zero values and false", secret, publics, names, owner, b, keys, ok)
	}
}

func checkNotFilled(t *testing.T, b impl.Block, letter []int) {
	t.Helper()
	p, ok := impl.ReplyFill(b, letter)
	if ok || !samePacket(p, impl.Packet{}) {
		t.Fatalf("ReplyFill(%v, %v) is %v and %v, want the zero value and false", b, letter, p, ok)
	}
}

func checkReplyOpens(t *testing.T, keys, body, want []int) {
	t.Helper()
	if letter, ok := impl.ReplyOpen(keys, body); !ok || !slices.Equal(letter, want) {
		t.Fatalf("ReplyOpen(%v, %v) is %v and %v, want %v and true", keys, body, letter, ok, want)
	}
}

func checkReplyClosed(t *testing.T, keys, body []int) {
	t.Helper()
	if letter, ok := impl.ReplyOpen(keys, body); ok || len(letter) != 0 {
		t.Fatalf("ReplyOpen(%v, %v) is %v and %v, want nothing and false", keys, body, letter, ok)
	}
}

// withStreams adds the streams of keys to a body, as often as times says. It counts without the functions of chapter 2,
// so that numbers of keys and numbers that these refuse can be tried.
func withStreams(body, keys []int, times int) []int {
	changed := slices.Clone(body)
	for i := range changed {
		for _, key := range keys {
			changed[i] += times * (key*(i+2) + 11*i*i + 5)
		}
		changed[i] = (changed[i]%impl.Numbers + impl.Numbers) % impl.Numbers
	}
	return changed
}

// bodyFor has the body that is opened with the keys as the letter.
func bodyFor(t *testing.T, keys, letter []int) []int {
	t.Helper()
	return withStreams(packed(t, letter), keys, -1)
}

// checkReplyAsDefined fails unless a body is opened with valid keys just as the document defines, and reports whether
// it is.
func checkReplyAsDefined(t *testing.T, keys, body []int) bool {
	t.Helper()
	letter, ok := impl.LetterOpen(withStreams(body, keys, 1))
	if ok {
		checkReplyOpens(t, keys, body, letter)
	} else {
		checkReplyClosed(t, keys, body)
	}
	return ok
}

// keysOfPaths has keys of all numbers of mixes, both ends of their range included.
func keysOfPaths() [][]int {
	lists := [][]int{{1}, {2}, {206}, {lastNumber}, {impl.Numbers}, {lastElement}, {1, 1}, {1, lastElement}, {lastElement, 500}, {lastElement, lastElement}, {1, 2, 3}, {1, lastElement, 1}, {500, 499, 501}, {lastElement, lastElement, lastElement}}
	for _, w := range writtenTrips() {
		lists = append(lists, w.keys)
	}
	return lists
}

// replyTrips has, besides those of all packets, paths with the public keys 1 and 996, which are those of the secrets
// 399 and 598.
func replyTrips() []trip {
	return append(manyTrips(),
		trip{1, []int{399}, []int{0}, lastName, []int{0}},
		trip{lastElement, []int{598}, []int{lastName}, 0, []int{lastNumber}},
		trip{3, []int{399, 598}, []int{0, lastName}, 4, nil},
		trip{3, []int{399, 598, 399}, []int{4, 4, 4}, 4, []int{1, 2, 3, 4}},
		trip{lastElement, []int{598, 598, 399}, []int{lastName, 0, lastName}, 0, []int{5, 6}})
}

// writtenReply is a reply with its block, its keys, and its body when it begins and behind each mix.
type writtenReply struct {
	trip   trip
	block  impl.Block
	keys   []int
	bodies [][]int
}

// writtenReplies is written out, so that making, filling and opening are not only checked by each other.
func writtenReplies() []writtenReply {
	return []writtenReply{
		{trip{40, []int{11}, []int{1}, 6, []int{9}},
			blockOf(1, 200, []int{418, 640, 873, 143, 426, 731, 67, 416, 787}, 435), []int{206},
			[][]int{{1, 9, 0, 0, 0, 606}, {575, 366, 118, 848, 565, 866}}},
		{trip{1, []int{1}, []int{0}, 0, []int{}},
			blockOf(0, 5, []int{16, 31, 69, 129, 211, 315, 441, 589, 759}, 72), []int{5},
			[][]int{{0, 0, 0, 0, 0, 831}, {976, 960, 922, 862, 780, 516}}},
		{trip{996, []int{996}, []int{7}, 7, []int{990, 990, 990, 990}},
			blockOf(7, 992, []int{16, 38, 69, 129, 211, 315, 441, 589, 759}, 519), []int{5},
			[][]int{{4, 990, 990, 990, 990, 468}, {980, 959, 921, 861, 779, 153}}},
		{trip{40, []int{11, 12}, []int{1, 2}, 5, []int{7}},
			blockOf(1, 200, []int{417, 636, 104, 647, 203, 785, 425, 109, 828}, 750), []int{206, 249},
			[][]int{{1, 7, 0, 0, 0, 919}, {575, 364, 118, 848, 565, 188}, {72, 592, 64, 490, 872, 147}}},
		{trip{500, []int{141, 711}, []int{7, 0}, 3, []int{5, 0, 990}},
			blockOf(7, 506, []int{132, 702, 319, 528, 484, 479, 521, 607, 737}, 402), []int{559, 298},
			[][]int{{3, 5, 0, 990, 0, 13}, {862, 294, 688, 73, 429, 775}, {261, 375, 438, 461, 442, 391}}},
		{trip{40, []int{11, 12, 13}, []int{1, 2, 3}, 6, []int{9}},
			blockOf(1, 200, []int{417, 636, 562, 646, 201, 318, 327, 966, 669}, 19), []int{206, 249, 939},
			[][]int{{1, 9, 0, 0, 0, 606}, {575, 366, 118, 848, 565, 866}, {72, 594, 64, 490, 872, 825}, {171, 734, 223, 646, 12, 909}}},
		{trip{7, []int{100, 137, 174}, []int{0, 1, 2}, 5, []int{4, 0}},
			blockOf(0, 35, []int{32, 553, 621, 4, 269, 451, 503, 699, 952}, 349), []int{509, 657, 777},
			[][]int{{2, 4, 0, 0, 0, 590}, {961, 443, 888, 324, 729, 711}, {633, 438, 193, 899, 570, 787}, {65, 73, 9, 874, 682, 23}}},
		{trip{996, []int{996, 996, 996}, []int{7, 7, 7}, 7, []int{990, 990, 990, 990}},
			blockOf(7, 992, []int{15, 38, 535, 524, 819, 805, 455, 852, 311}, 708), []int{5, 195, 951},
			[][]int{{4, 990, 990, 990, 990, 468}, {980, 959, 921, 861, 779, 153}, {585, 358, 92, 773, 419, 490}, {660, 462, 203, 869, 478, 490}}},
		{trip{500, []int{1, 996, 1}, []int{7, 0, 7}, 0, []int{}},
			blockOf(7, 506, []int{26, 543, 873, 275, 685, 259, 234, 85, 3}, 950), []int{506, 800, 297},
			[][]int{{0, 0, 0, 0, 0, 831}, {965, 448, 900, 339, 747, 973}, {351, 14, 624, 199, 721, 48}, {743, 98, 378, 592, 740, 662}}},
		{trip{3, []int{399, 598, 399}, []int{4, 4, 4}, 4, []int{1, 2, 3, 4}},
			blockOf(4, 15, []int{11, 29, 62, 977, 12, 77, 706, 141, 626}, 443), []int{3, 922, 258},
			[][]int{{4, 1, 2, 3, 4, 179}, {984, 967, 932, 875, 796, 869}, {126, 167, 168, 125, 38, 81}, {596, 368, 78, 713, 291, 968}}},
	}
}

// last has the body that the maker of the block gets.
func (r writtenReply) last() []int {
	return r.bodies[len(r.bodies)-1]
}

func TestReplyValues(t *testing.T) {
	for _, r := range writtenReplies() {
		b, keys := r.trip.block(t)
		checkBlock(t, "the block of ReplyMake", b, r.block)
		checkNumbers(t, "the keys of ReplyMake", keys, r.keys)
		p := reply(t, r.block, r.trip.letter)
		checkPacket(t, "ReplyFill", p, packetOf(b.Element, b.Header, b.Tag, r.bodies[0]))
		for i, mix := range r.trip.mixes {
			p = stop{mix, p}.peeled(t).Packet
			checkNumbers(t, "the body behind a mix", p.Body, r.bodies[i+1])
		}
		checkReplyOpens(t, r.keys, r.last(), r.trip.letter)
	}
}

func TestReplyMakeWithWrongSecrets(t *testing.T) {
	for _, w := range fewTrips() {
		publics := w.publics()
		for _, secret := range append([]int{w.secret + impl.Group, w.secret - impl.Group, -w.secret}, outOfRange...) {
			checkNoBlock(t, secret, publics, w.names, w.receiver)
		}
	}
}

func TestReplyMakeWithWrongPublicKeys(t *testing.T) {
	for _, w := range fewTrips() {
		for place := range w.mixes {
			publics := w.publics()
			right := publics[place]
			for _, publics[place] = range append([]int{right + impl.Group, right - impl.Group, -right}, outOfRange...) {
				checkNoBlock(t, w.secret, publics, w.names, w.receiver)
			}
		}
	}
}

// There are as many names as mixes, so that only the length of the path is wrong.
func TestReplyMakeWithPathsOfWrongLengths(t *testing.T) {
	for _, secret := range someElements {
		for _, empty := range [][]int{nil, {}, []int{5, 10, 15}[:0]} {
			checkNoBlock(t, secret, empty, nil, 0)
			checkNoBlock(t, secret, empty, []int{}, 0)
			checkNoBlock(t, secret, empty, []int{3}, 0)
		}
		for length := impl.MaxHops + 1; length <= impl.MaxList+1; length++ {
			checkNoBlock(t, secret, listOf(length, 5, 5), make([]int, length), 0)
			checkNoBlock(t, secret, listOf(length, 5, 5), make([]int, impl.MaxHops), 0)
		}
	}
}

func TestReplyMakeWithWrongNumbersOfNames(t *testing.T) {
	for _, w := range fewTrips() {
		for length := range 2*impl.MaxHops + 1 {
			if length != len(w.mixes) {
				checkNoBlock(t, w.secret, w.publics(), make([]int, length), w.receiver)
			}
		}
		checkNoBlock(t, w.secret, w.publics(), nil, w.receiver)
		checkNoBlock(t, w.secret, w.publics(), w.names[:len(w.names)-1], w.receiver)
		checkNoBlock(t, w.secret, w.publics(), append(slices.Clone(w.names), 0), w.receiver)
	}
}

func TestReplyMakeWithWrongNamesAndOwners(t *testing.T) {
	for _, w := range fewTrips() {
		for _, wrong := range wrongNames {
			checkNoBlock(t, w.secret, w.publics(), w.names, wrong)
			for place := range w.names {
				names := slices.Clone(w.names)
				names[place] = wrong
				checkNoBlock(t, w.secret, w.publics(), names, w.receiver)
			}
		}
	}
}

// All names of the mixes and of the owner are in range, 0 and Names-1 included.
func TestReplyMakeWithAllNamesAndOwners(t *testing.T) {
	for hops := 1; hops <= impl.MaxHops; hops++ {
		for choice := range 1 << (3 * (hops + 1)) {
			w := trip{secret: 1 + choice%lastElement, receiver: choice % impl.Names, letter: []int{choice % impl.Numbers}}
			for i := range hops {
				w.mixes = append(w.mixes, 11+i)
				w.names = append(w.names, choice>>(3*(i+1))%impl.Names)
			}
			checkReplyArrives(t, w)
		}
	}
}

func TestReplyFillOfAllFirstNames(t *testing.T) {
	for _, b := range someBlocks() {
		for b.First = range impl.Names {
			checkFilled(t, b, []int{7, 8})
		}
		for _, b.First = range append([]int{impl.Numbers, impl.Numbers + 1, impl.Group, impl.Group + 1, b.Element + impl.Names, math.MaxInt32, math.MinInt32, -1 << 32}, wrongNames...) {
			checkNotFilled(t, b, []int{7, 8})
		}
	}
}

func TestReplyFillOfAllElements(t *testing.T) {
	for _, b := range someBlocks() {
		right := b.Element
		for b.Element = 1; b.Element <= lastElement; b.Element++ {
			checkFilled(t, b, []int{lastNumber})
		}
		for _, b.Element = range append([]int{right + impl.Group, right - impl.Group, -right}, outOfRange...) {
			checkNotFilled(t, b, []int{lastNumber})
		}
	}
}

func TestReplyFillOfAllTags(t *testing.T) {
	for _, b := range someBlocks() {
		right := b.Tag
		for b.Tag = range impl.Numbers {
			checkFilled(t, b, nil)
		}
		for _, b.Tag = range slices.Concat([]int{right + impl.Numbers, right - impl.Numbers, ^right}, wrongNumbers, farTags) {
			checkNotFilled(t, b, nil)
		}
	}
}

func TestReplyFillOfHeadersOfOtherSizes(t *testing.T) {
	for _, b := range someBlocks() {
		right := b.Header
		for size := 0; size <= impl.MaxList+1; size++ {
			b.Header = append(slices.Clone(right), listOf(impl.MaxList, 0, 7)...)[:size]
			if size == impl.HeaderSize {
				checkFilled(t, b, []int{0})
			} else {
				checkNotFilled(t, b, []int{0})
			}
		}
		b.Header = nil
		checkNotFilled(t, b, []int{0})
	}
}

func TestReplyFillOfNumbersOfHeaders(t *testing.T) {
	for _, b := range someBlocks() {
		for place := range b.Header {
			changed := copyOfBlock(b)
			for _, changed.Header[place] = range []int{0, 1, 495, lastNumber} {
				checkFilled(t, changed, []int{1, 2, 3, 4})
			}
			for _, changed.Header[place] = range append([]int{b.Header[place] + impl.Numbers, b.Header[place] - impl.Numbers}, wrongNumbers...) {
				checkNotFilled(t, changed, []int{1, 2, 3, 4})
			}
		}
	}
}

func TestReplyFillOfWrongLetters(t *testing.T) {
	for _, b := range someBlocks() {
		for _, letter := range wrongLetters() {
			checkNotFilled(t, b, letter)
		}
	}
}

// A zero block has a right tag and a right name of the first mix, but no element and no header.
func TestTheZeroValueIsNoBlock(t *testing.T) {
	for _, letter := range fewLetters() {
		checkNotFilled(t, impl.Block{}, letter)
	}
	checkNotFilled(t, impl.Block{}, make([]int, impl.MaxLetter+1))
	checkNotFilled(t, someBlock(-1, 0, -1), []int{impl.Numbers})
}

// The body would be opened if it were taken without masks.
func TestReplyOpenWithoutKeys(t *testing.T) {
	for _, letter := range fewLetters() {
		for _, none := range [][]int{nil, {}, []int{1, 2, 3}[:0]} {
			checkReplyClosed(t, none, packed(t, letter))
		}
	}
}

// The masks of all keys are on the body, so that only the number of keys is wrong.
func TestReplyOpenWithTooManyKeys(t *testing.T) {
	for length := impl.MaxHops + 1; length <= impl.MaxList+1; length++ {
		for _, keys := range [][]int{listOf(length, 1, 0), listOf(length, 206, 43), slices.Repeat([]int{lastElement}, length)} {
			for _, letter := range fewLetters() {
				checkReplyClosed(t, keys, bodyFor(t, keys, letter))
			}
		}
	}
}

func TestReplyOpenWithOneKeyMoreOrFewer(t *testing.T) {
	for _, r := range writtenReplies() {
		for place := range r.keys {
			checkReplyClosed(t, slices.Delete(slices.Clone(r.keys), place, place+1), r.last())
		}
		for key := 1; key <= lastElement; key++ {
			for place := range len(r.keys) + 1 {
				checkReplyClosed(t, slices.Insert(slices.Clone(r.keys), place, key), r.last())
			}
		}
	}
}

// Keys that are equal modulo Numbers have the same masks. No other key opens a written-out reply.
func TestReplyOpenWithAnotherKey(t *testing.T) {
	for _, r := range writtenReplies() {
		for place, right := range r.keys {
			keys := slices.Clone(r.keys)
			for key := 1; key <= lastElement; key++ {
				keys[place] = key
				if key%impl.Numbers == right%impl.Numbers {
					checkReplyOpens(t, keys, r.last(), r.trip.letter)
				} else {
					checkReplyClosed(t, keys, r.last())
				}
			}
		}
	}
}

// The masks of the right keys are on the body, or those that the wrong key would have if it were not refused.
func TestReplyOpenWithKeysOutOfRange(t *testing.T) {
	for _, keys := range keysOfPaths() {
		for place := range keys {
			for _, wrong := range append([]int{keys[place] + impl.Group, keys[place] - impl.Group, -keys[place]}, outOfRange...) {
				others := slices.Clone(keys)
				others[place] = wrong
				checkReplyClosed(t, others, bodyFor(t, keys, []int{7, 8}))
				checkReplyClosed(t, others, bodyFor(t, others, []int{7, 8}))
			}
		}
	}
}

// Each body begins with one that is opened, or is the beginning of one.
func TestReplyOpenOfBodiesOfOtherSizes(t *testing.T) {
	for _, keys := range keysOfPaths() {
		for _, letter := range fewLetters() {
			for size := 0; size <= impl.MaxList+1; size++ {
				longer := append(packed(t, letter), make([]int, impl.MaxList)...)[:size]
				body := withStreams(longer, keys, -1)
				if size == impl.BodySize {
					checkReplyOpens(t, keys, body, letter)
				} else {
					checkReplyClosed(t, keys, body)
				}
			}
			checkReplyClosed(t, keys, nil)
		}
	}
}

// The remainders of some of the numbers are right.
func TestReplyOpenOfBodiesWithNumbersOutOfRange(t *testing.T) {
	for _, keys := range keysOfPaths() {
		for _, letter := range fewLetters() {
			for place := range impl.BodySize {
				body := bodyFor(t, keys, letter)
				right := body[place]
				for _, body[place] = range append([]int{right + impl.Numbers, right - impl.Numbers, right + impl.Numbers<<32, right - impl.Numbers<<32}, wrongNumbers...) {
					checkReplyClosed(t, keys, body)
				}
			}
		}
	}
	checkReplyClosed(t, []int{1}, slices.Repeat([]int{math.MaxInt}, impl.BodySize))
	checkReplyClosed(t, []int{0}, slices.Repeat([]int{-1}, impl.BodySize))
}

func TestPromise87BlocksHaveTheFirstMix(t *testing.T) {
	for _, w := range replyTrips() {
		b, keys := w.block(t)
		if b.First != w.names[0] {
			t.Fatalf("the block of %v has the first mix %d", w, b.First)
		}
		checkNumbers(t, "the keys of ReplyMake", keys, w.keys(t))
	}
}

// checkReplyArrives lets the mixes of a path peel a reply one after the other, up to the maker of the block, who opens
// it with the keys in every order.
func checkReplyArrives(t *testing.T, w trip) {
	t.Helper()
	b, keys := w.block(t)
	p := reply(t, b, w.letter)
	for i, mix := range w.mixes {
		peeled := stop{mix, p}.peeled(t)
		kind, next := impl.KindDeliver, w.receiver
		if i+1 < len(w.mixes) {
			kind, next = impl.KindForward, w.names[i+1]
		}
		if peeled.Kind != kind || peeled.Next != next {
			t.Fatalf("mix %d of %v finds the kind %d and the name %d, want %d and %d", i, w, peeled.Kind, peeled.Next, kind, next)
		}
		p = peeled.Packet
	}
	for _, order := range permutations(keys) {
		checkReplyOpens(t, order, p.Body, w.letter)
	}
}

func TestPromise88RepliesArrive(t *testing.T) {
	for _, w := range replyTrips() {
		checkReplyArrives(t, w)
	}
}

func TestPromise88RepliesWithAllLettersArrive(t *testing.T) {
	for _, letter := range someLetters() {
		for hops := 1; hops <= impl.MaxHops; hops++ {
			checkReplyArrives(t, trip{40, []int{11, 12, 13}[:hops], []int{1, 2, 3}[:hops], 6, letter})
		}
	}
}

func TestPromise88RepliesArriveThroughMixes(t *testing.T) {
	for _, w := range replyTrips() {
		b, keys := w.block(t)
		p := reply(t, b, w.letter)
		for _, mix := range w.mixes {
			_, list := checkFlush(t, checkTake(t, newMix(t, mix), p, impl.TakeDone), true)
			p = list[0].Packet
		}
		checkReplyOpens(t, keys, p.Body, w.letter)
	}
}

// One block is filled several times, and each reply would arrive if it were the first one.
func TestOneBlockForSeveralLetters(t *testing.T) {
	for _, w := range fewTrips() {
		b, keys := w.block(t)
		before := copyOfBlock(b)
		for _, letter := range fewLetters() {
			p := reply(t, b, letter)
			for _, mix := range w.mixes {
				p = stop{mix, p}.peeled(t).Packet
			}
			checkReplyOpens(t, keys, p.Body, letter)
		}
		checkBlock(t, "the block behind ReplyFill", b, before)
	}
}

// checkFilled fails unless the packet of a reply is valid, with the head of the block and the body of the letter.
func checkFilled(t *testing.T, b impl.Block, letter []int) {
	t.Helper()
	p := reply(t, b, letter)
	checkValid(t, p)
	checkPacket(t, "ReplyFill", p, packetOf(b.Element, b.Header, b.Tag, packed(t, letter)))
}

func TestPromise89PacketsOfReplies(t *testing.T) {
	for _, w := range replyTrips() {
		b, _ := w.block(t)
		checkFilled(t, b, w.letter)
	}
}

func TestPromise89PacketsOfAllLetters(t *testing.T) {
	blocks := someBlocks()
	for i, letter := range someLetters() {
		checkFilled(t, blocks[i%len(blocks)], letter)
	}
	for _, b := range blocks {
		for _, letter := range append(fewLetters(), nil) {
			checkFilled(t, b, letter)
		}
	}
}

func TestPromise90RepliesAreOpenedAsLetters(t *testing.T) {
	for _, keys := range keysOfPaths() {
		for _, letter := range someLetters() {
			body := bodyFor(t, keys, letter)
			masked := body
			for _, key := range keys {
				masked = impl.MaskOn(masked, key)
			}
			checkOpens(t, masked, letter)
			checkReplyOpens(t, keys, body, letter)
		}
	}
}

// Bodies that are opened, and bodies that are not, are treated alike with the keys in every order.
func TestPromise90KeysInAnotherOrder(t *testing.T) {
	for _, keys := range keysOfPaths() {
		for _, letter := range fewLetters() {
			body := bodyFor(t, keys, letter)
			other := slices.Clone(body)
			other[impl.BodySize-1] = (other[impl.BodySize-1] + 1) % impl.Numbers
			for _, order := range permutations(keys) {
				checkReplyOpens(t, order, body, letter)
				checkReplyClosed(t, order, other)
			}
		}
	}
}

// Only the tag decides about most of these bodies: the length is right, and what is behind the letter is zeros.
func TestPromise90ManyBodies(t *testing.T) {
	next := chosen()
	opened, closed := 0, 0
	for round := range 100000 {
		keys := make([]int, 1+round%impl.MaxHops)
		for i := range keys {
			keys[i] = 1 + next(lastElement)
		}
		shown := []int{2, next(impl.Numbers), next(impl.Numbers), 0, 0, next(impl.Numbers)}
		if round%10 == 0 {
			shown = packed(t, shown[1:3])
		}
		body := withStreams(shown, keys, -1)
		if checkReplyAsDefined(t, keys, body) {
			opened++
		} else {
			closed++
		}
		slices.Reverse(keys)
		checkReplyAsDefined(t, keys, body)
	}
	if opened < 10000 || closed < 80000 {
		t.Errorf("%d bodies are opened, and %d are not", opened, closed)
	}
}

func sumOf(keys []int) int {
	sum := 0
	for _, key := range keys {
		sum += key
	}
	return sum
}

// otherKeys has lists of keys of all numbers of mixes. Some have the same sum as the given keys modulo Numbers.
func otherKeys(keys []int) [][]int {
	var lists [][]int
	next := chosen()
	for round := range 3000 {
		other := make([]int, 1+round%impl.MaxHops)
		for i := range other {
			other[i] = 1 + next(lastElement)
		}
		if round%2 == 0 {
			other[0] = 1 + ((sumOf(keys)-sumOf(other[1:])-1)%impl.Numbers+impl.Numbers)%impl.Numbers
		}
		lists = append(lists, other)
	}
	return lists
}

// The masks of a list of keys depend on their number and on their sum modulo Numbers. No mask turns the body of a
// letter into that of another one.
func TestOtherKeysOpenOnlyWithTheSameMask(t *testing.T) {
	opened := 0
	for _, keys := range keysOfPaths() {
		for _, letter := range [][]int{{}, {7, 8}, {lastNumber, 0, 500, 1}} {
			body := bodyFor(t, keys, letter)
			for _, other := range otherKeys(keys) {
				if len(other) == len(keys) && (sumOf(other)-sumOf(keys))%impl.Numbers == 0 {
					checkReplyOpens(t, other, body, letter)
					opened++
				} else {
					checkReplyClosed(t, other, body)
				}
			}
		}
	}
	if opened < 10000 {
		t.Errorf("only %d bodies are opened", opened)
	}
}

func TestPromise91OneChangedNumberIsFound(t *testing.T) {
	for _, r := range writtenReplies() {
		for place, right := range r.last() {
			body := slices.Clone(r.last())
			for body[place] = range impl.Numbers {
				if body[place] == right {
					checkReplyOpens(t, r.keys, body, r.trip.letter)
				} else {
					checkReplyClosed(t, r.keys, body)
				}
			}
			for _, body[place] = range wrongNumbers {
				checkReplyClosed(t, r.keys, body)
			}
		}
	}
}

func TestPromise91SomeChangesOfManyReplies(t *testing.T) {
	for i, keys := range keysOfPaths() {
		for _, letter := range someLetters() {
			body := bodyFor(t, keys, letter)
			for place := range body {
				changed := slices.Clone(body)
				changed[place] = (changed[place] + 1 + 97*i%lastNumber) % impl.Numbers
				checkReplyClosed(t, keys, changed)
			}
		}
	}
}

// The body is changed before it comes to a mix, or behind the last one.
func TestPromise91ChangesOnTheWay(t *testing.T) {
	for _, r := range writtenReplies() {
		for hop := range len(r.keys) + 1 {
			for place := range impl.BodySize {
				for _, step := range []int{1, 495, lastNumber} {
					checkReplyChanged(t, r, hop, place, step)
				}
			}
		}
	}
}

func checkReplyChanged(t *testing.T, r writtenReply, hop, place, step int) {
	t.Helper()
	p := reply(t, r.block, r.trip.letter)
	change := func(i int) {
		if i == hop {
			p.Body[place] = (p.Body[place] + step) % impl.Numbers
		}
	}
	for i, mix := range r.trip.mixes {
		change(i)
		_, list := checkFlush(t, checkTake(t, newMix(t, mix), p, impl.TakeDone), true)
		p = list[0].Packet
	}
	change(len(r.trip.mixes))
	checkReplyClosed(t, r.keys, p.Body)
}

// checkSecondReply fails unless each mix of a path refuses a second reply, which has come as far as the first one.
func checkSecondReply(t *testing.T, w trip, one, two []int) {
	t.Helper()
	b, _ := w.block(t)
	first, second := reply(t, b, one), reply(t, b, two)
	for _, mix := range w.mixes {
		s := stop{mix, first}
		for _, waiting := range []int{0, 1, impl.MaxPool - 1} {
			seen := someKeys(waiting, s.key())
			checkSecondAtMix(t, mixOf(mix, seen, somePool(waiting)...), first, second)
		}
		checkSecondAtMix(t, mixOf(mix, someKeys(impl.MaxSeen-1, s.key())), first, second)
		first, second = s.peeled(t).Packet, stop{mix, second}.peeled(t).Packet
	}
}

// checkSecondAtMix lets a mix take both replies, also with a MixFlush between, which passes the first one on only if it
// is asked for all or another packet waits.
func checkSecondAtMix(t *testing.T, m impl.Mix, first, second impl.Packet) {
	t.Helper()
	taken := checkTake(t, m, first, impl.TakeDone)
	checkTake(t, taken, second, impl.TakeReplay)
	for _, all := range []bool{false, true} {
		flushed, _ := checkFlush(t, taken, all)
		checkTake(t, flushed, second, impl.TakeReplay)
		checkTake(t, flushed, first, impl.TakeReplay)
	}
}

func TestPromise92SecondReplies(t *testing.T) {
	letters := fewLetters()
	for i, w := range replyTrips() {
		checkSecondReply(t, w, w.letter, letters[i%len(letters)])
	}
	for _, w := range fewTrips() {
		for _, one := range letters {
			for _, two := range letters {
				checkSecondReply(t, w, one, two)
			}
		}
	}
}

// Replies of other blocks, which have other elements, are taken.
func TestRepliesOfOtherBlocksAreTaken(t *testing.T) {
	for _, w := range fewTrips() {
		b, _ := w.block(t)
		m := checkTake(t, newMix(t, w.mixes[0]), reply(t, b, w.letter), impl.TakeDone)
		for secret := 1; secret <= lastElement; secret++ {
			if secret != w.secret {
				other := w
				other.secret = secret
				b, _ := other.block(t)
				checkTake(t, m, reply(t, b, w.letter), impl.TakeDone)
			}
		}
	}
}

// checkBesidePacket fails unless a block has what the packet of a letter with the same arguments has.
func checkBesidePacket(t *testing.T, w trip) {
	t.Helper()
	b, _ := w.block(t)
	p := w.packet(t)
	checkBlock(t, "ReplyMake", b, blockOf(w.names[0], p.Element, p.Header, p.Tag))
}

func TestPromise93BlocksAreLikePackets(t *testing.T) {
	letters := fewLetters()
	for i, w := range replyTrips() {
		checkBesidePacket(t, w)
		w.letter = letters[i%len(letters)]
		checkBesidePacket(t, w)
	}
}

func TestPromise93PacketsOfAllLetters(t *testing.T) {
	for _, w := range fewTrips() {
		for _, w.letter = range someLetters() {
			checkBesidePacket(t, w)
		}
	}
}

// The packets are written out in the tests of chapter 5.
func TestPromise93WrittenPackets(t *testing.T) {
	for _, w := range writtenTrips() {
		b, keys := w.trip.block(t)
		p := w.packets[0]
		checkBlock(t, "ReplyMake", b, blockOf(w.trip.names[0], p.Element, p.Header, p.Tag))
		checkNumbers(t, "the keys of ReplyMake", keys, w.keys)
	}
}

// twoLists is a result with two slices.
type twoLists struct {
	one, two []int
}

func (l twoLists) copied() twoLists {
	return twoLists{slices.Clone(l.one), slices.Clone(l.two)}
}

func checkTwoLists(t *testing.T, name string, got, want twoLists) {
	t.Helper()
	checkNumbers(t, "one list of "+name, got.one, want.one)
	checkNumbers(t, "the other list of "+name, got.two, want.two)
}

// checkTwoApart fails if a function changes the memory of its arguments, or if a list that it returns shares memory
// with them, with the other list, or with another result. Each list is overwritten up to its capacity.
func checkTwoApart(t *testing.T, name string, memory []int, of func() twoLists) {
	t.Helper()
	before := slices.Clone(memory)
	first, second, third := of(), of(), of()
	want := third.copied()
	overwrite(first.one)
	checkNumbers(t, "the other list of "+name, first.two, want.two)
	overwrite(second.two)
	checkNumbers(t, "one list of "+name, second.one, want.one)
	checkNumbers(t, "the memory of the arguments of "+name, memory, before)
	checkTwoLists(t, "another result of "+name, third, want)
	checkTwoLists(t, "a later result of "+name, of(), want)
}

// The public keys and the names lie behind each other in one memory, with space behind them that belongs to others.
func TestReplyMakeSharesNoMemory(t *testing.T) {
	invalid := []trip{{}, {secret: 1, mixes: []int{1, 2, 3, 4}, names: []int{0, 0, 0, 0}}, {1, []int{1, 2}, []int{0, 8}, 0, nil}, {1, []int{1, 2}, []int{0, 1}, -1, nil}, {0, []int{1, 2}, []int{0, 1}, 1, nil}}
	for _, w := range append(replyTrips(), invalid...) {
		memory := slices.Concat(w.publics(), w.names, listOf(impl.MaxList, 17, 29))
		hops := len(w.mixes)
		for _, names := range [][]int{memory[hops : 2*hops], memory[hops : 2*hops+1]} {
			checkTwoApart(t, "ReplyMake", memory, func() twoLists {
				b, keys, _ := impl.ReplyMake(w.secret, memory[:hops], names, w.receiver)
				return twoLists{b.Header, keys}
			})
		}
	}
}

// The header and the letter lie behind each other in one memory, or the letter and the header.
func TestReplyFillSharesNoMemory(t *testing.T) {
	invalid := []impl.Block{{}, someBlock(-1, 1, 0), someBlock(0, 0, 0), someBlock(0, 1, impl.Numbers), blockOf(0, 1, listOf(impl.HeaderSize-1, 3, 3), 4), blockOf(0, 1, listOf(impl.HeaderSize+1, 3, 3), 4), blockOf(0, 1, listOf(impl.HeaderSize, impl.Numbers-1, 0), -1)}
	for _, b := range append(someBlocks(), invalid...) {
		for _, letter := range append(fewLetters(), []int{impl.Numbers}, make([]int, impl.MaxLetter+1)) {
			memory := slices.Concat(b.Header, letter, b.Header, listOf(impl.MaxList, 17, 29))
			size := len(b.Header)
			middle := memory[size : size+len(letter)]
			for _, b.Header = range [][]int{memory[:size], memory[size+len(letter):][:size]} {
				checkTwoApart(t, "ReplyFill", memory, func() twoLists {
					p, _ := impl.ReplyFill(b, middle)
					return twoLists{p.Header, p.Body}
				})
			}
		}
	}
}

// The keys lie before the body or behind it.
func TestReplyOpenSharesNoMemory(t *testing.T) {
	for _, keys := range append(keysOfPaths(), nil, []int{0}, []int{1, impl.Group}, []int{1, 2, 3, 4}) {
		for _, letter := range fewLetters() {
			body := bodyFor(t, keys, letter)
			for place := range impl.BodySize + 1 {
				memory := slices.Concat(keys, body, keys, listOf(impl.MaxList, 17, 29))
				middle := memory[len(keys) : len(keys)+impl.BodySize]
				if place < impl.BodySize {
					middle[place]++
				}
				for _, list := range [][]int{memory[:len(keys)], memory[len(keys)+impl.BodySize:][:len(keys)]} {
					checkTwoApart(t, "ReplyOpen", memory, func() twoLists {
						opened, _ := impl.ReplyOpen(list, middle)
						return twoLists{one: opened}
					})
				}
			}
		}
	}
}

// All slices of a call may be one.
func TestRepliesFromOneSlice(t *testing.T) {
	list := []int{3, 4, 5}
	got, gotKeys, ok := impl.ReplyMake(7, list, list, 0)
	want, wantKeys, same := impl.ReplyMake(7, slices.Clone(list), slices.Clone(list), 0)
	if !ok || !same {
		t.Fatalf("ReplyMake of %v for all is %v and %v", list, ok, same)
	}
	checkBlock(t, "ReplyMake from one slice", got, want)
	checkNumbers(t, "the keys from one slice", gotKeys, wantKeys)
	checkNumbers(t, "the slice", list, []int{3, 4, 5})

	b := someBlock(3, 30, 5)
	header := slices.Clone(b.Header)
	p := reply(t, b, b.Header[:impl.MaxLetter])
	checkPacket(t, "ReplyFill from one slice", p, packetOf(30, header, 5, packed(t, header[:impl.MaxLetter])))
	checkNumbers(t, "the header", b.Header, header)

	body := []int{1, 2, 3, 4, 5, 6}
	for size := 1; size <= impl.MaxHops; size++ {
		checkReplyAsDefined(t, body[:size], body)
		checkNumbers(t, "the body", body, []int{1, 2, 3, 4, 5, 6})
	}
}
