package tests

import (
	"math"
	"slices"
	"testing"

	"loop.example/mixrelay/impl"
)

// mostNumbers is the length of the longest letter that can be cut: it fills all pieces but for its own length.
const mostNumbers = impl.MaxPieces*impl.PieceSize - 1

// piecesOf lays numbers that fill their pieces out in pieces.
func piecesOf(numbers []int) [][]int {
	var pieces [][]int
	for first := 0; first < len(numbers); first += impl.PieceSize {
		pieces = append(pieces, slices.Clone(numbers[first:first+impl.PieceSize]))
	}
	return pieces
}

// cutOf has the pieces of a letter as the document defines them, also if they are more than MaxPieces.
func cutOf(long []int) [][]int {
	numbers := append([]int{len(long)}, long...)
	for len(numbers)%impl.PieceSize > 0 {
		numbers = append(numbers, 0)
	}
	return piecesOf(numbers)
}

// parityOf has the sums of all pieces at each place, modulo Numbers. Missing pieces add nothing.
func parityOf(pieces [][]int) []int {
	sums := make([]int, impl.PieceSize)
	for _, piece := range pieces {
		for place, number := range piece {
			sums[place] += number
		}
	}
	for place := range sums {
		sums[place] %= impl.Numbers
	}
	return sums
}

// letterIn has the letter whose pieces these are, if there is one: it ends in the last piece, with zeros behind it.
func letterIn(pieces [][]int) ([]int, bool) {
	numbers := slices.Concat(pieces...)
	end := 1 + numbers[0]
	if end > len(numbers) || end <= len(numbers)-impl.PieceSize || slices.ContainsFunc(numbers[end:], isNotZero) {
		return nil, false
	}
	return numbers[1:end], true
}

// longLetters has letters of all lengths: zeros, the greatest number, different numbers, letters that end with zeros,
// and some numbers at each place, both ends of their range included.
func longLetters() [][]int {
	letters := [][]int{nil}
	for length := 0; length <= mostNumbers; length++ {
		letters = append(letters, listOf(length, 0, 0), listOf(length, lastNumber, 0), listOf(length, 1, 1), listOf(length, 497, 131))
		for place := range length {
			zerosBehind := listOf(length, 7, 97)
			clear(zerosBehind[place:])
			letters = append(letters, zerosBehind)
			for _, number := range []int{0, 1, length, mostNumbers, 500, lastNumber} {
				zerosAround, different := listOf(length, 0, 0), listOf(length, 3, 50)
				zerosAround[place], different[place] = number, number
				letters = append(letters, zerosAround, different)
			}
		}
	}
	return letters
}

// fewLongLetters has letters of all lengths, for tests that try much with each.
func fewLongLetters() [][]int {
	var letters [][]int
	for length := 0; length <= mostNumbers; length++ {
		letters = append(letters, listOf(length, 0, 0), listOf(length, lastNumber, 0), listOf(length, 497, 131))
	}
	return letters
}

// somePieces has 1 to MaxPieces pieces: zeros, the greatest number, different numbers, and those of letters. Most are
// not those of a letter.
func somePieces() [][][]int {
	var all [][][]int
	for count := 1; count <= impl.MaxPieces; count++ {
		size := count * impl.PieceSize
		for _, numbers := range [][]int{listOf(size, 0, 0), listOf(size, 1, 0), listOf(size, lastNumber, 0), listOf(size, 0, lastNumber), listOf(size, 497, 131), listOf(size, 14, 330), listOf(size, 2, 989)} {
			all = append(all, piecesOf(numbers))
		}
	}
	for _, long := range fewLongLetters() {
		all = append(all, cutOf(long))
	}
	return all
}

// someParities has parities with both ends of the range and numbers between at each place.
func someParities() [][]int {
	return [][]int{{0, 0, 0}, {1, 2, 3}, {500, 3, 986}, {0, 495, lastNumber}, {lastNumber, 0, 1}, {14, lastNumber, 0}, {lastNumber, lastNumber, lastNumber}}
}

// wrongPieces has lists of all other lengths but 0, and lists with each wrong number at each place.
func wrongPieces() [][]int {
	var pieces [][]int
	for length := 1; length <= impl.MaxList+2; length++ {
		if length != impl.PieceSize {
			pieces = append(pieces, listOf(length, 0, 0), listOf(length, 5, 7))
		}
	}
	for _, wrong := range wrongNumbers {
		for place := range impl.PieceSize {
			for _, piece := range [][]int{{0, 0, 0}, {2, 5, lastNumber}} {
				piece[place] = wrong
				pieces = append(pieces, piece)
			}
		}
	}
	return append(pieces, []int{math.MaxInt, math.MaxInt, math.MaxInt}, []int{math.MinInt, math.MinInt, math.MinInt}, make([]int, 1000))
}

func copyOfPieces(pieces [][]int) [][]int {
	var copied [][]int
	for _, piece := range pieces {
		copied = append(copied, slices.Clone(piece))
	}
	return copied
}

// withPiece has the pieces with another one at a place. None stands for one that is missing.
func withPiece(pieces [][]int, place int, piece ...int) [][]int {
	changed := copyOfPieces(pieces)
	changed[place] = slices.Clone(piece)
	return changed
}

// withoutSome has the pieces of which those are missing whose bits are set.
func withoutSome(pieces [][]int, choice int) [][]int {
	some := copyOfPieces(pieces)
	for place := range some {
		if choice>>place&1 == 1 {
			some[place] = nil
		}
	}
	return some
}

func checkPieces(t *testing.T, name string, got, want [][]int) {
	t.Helper()
	if !slices.EqualFunc(got, want, slices.Equal[[]int]) {
		t.Fatalf("%s is %v, want %v", name, got, want)
	}
}

func checkCut(t *testing.T, long []int, want [][]int) {
	t.Helper()
	if got := impl.PiecesCut(long); !slices.EqualFunc(got, want, slices.Equal[[]int]) {
		t.Fatalf("PiecesCut(%v) is %v, want %v", long, got, want)
	}
}

func checkParity(t *testing.T, pieces [][]int, want []int) {
	t.Helper()
	if got := impl.PiecesParity(pieces); !slices.Equal(got, want) {
		t.Fatalf("PiecesParity(%v) is %v, want %v", pieces, got, want)
	}
}

func checkRepaired(t *testing.T, pieces [][]int, parity []int, want [][]int) {
	t.Helper()
	if got, ok := impl.PiecesRepair(pieces, parity); !ok || !slices.EqualFunc(got, want, slices.Equal[[]int]) {
		t.Fatalf("PiecesRepair(%v, %v) is %v and %v, want %v and true", pieces, parity, got, ok, want)
	}
}

func checkNotRepaired(t *testing.T, pieces [][]int, parity []int) {
	t.Helper()
	if got, ok := impl.PiecesRepair(pieces, parity); ok || len(got) != 0 {
		t.Fatalf("PiecesRepair(%v, %v) is %v and %v, want nothing and false", pieces, parity, got, ok)
	}
}

func checkJoined(t *testing.T, pieces [][]int, want []int) {
	t.Helper()
	if got, ok := impl.PiecesJoin(pieces); !ok || !slices.Equal(got, want) {
		t.Fatalf("PiecesJoin(%v) is %v and %v, want %v and true", pieces, got, ok, want)
	}
}

func checkNotJoined(t *testing.T, pieces [][]int) {
	t.Helper()
	if got, ok := impl.PiecesJoin(pieces); ok || len(got) != 0 {
		t.Fatalf("PiecesJoin(%v) is %v and %v, want nothing and false", pieces, got, ok)
	}
}

// checkInvalidPieces fails unless all functions refuse pieces, with any parity.
func checkInvalidPieces(t *testing.T, pieces [][]int) {
	t.Helper()
	checkParity(t, pieces, nil)
	checkNotJoined(t, pieces)
	for _, parity := range append(someParities(), parityOf(nil)) {
		checkNotRepaired(t, pieces, parity)
	}
}

// checkWhole fails unless complete pieces have the parity that the document defines, and each of them is repaired with
// it, however it is missing.
func checkWhole(t *testing.T, pieces [][]int) {
	t.Helper()
	parity := parityOf(pieces)
	checkParity(t, pieces, parity)
	for place := range pieces {
		for _, missing := range [][]int{nil, {}, []int{5, 6, 7}[:0]} {
			some := copyOfPieces(pieces)
			some[place] = missing
			checkRepaired(t, some, parity, pieces)
		}
	}
}

func TestPieceConstants(t *testing.T) {
	if impl.PieceSize != 3 || impl.MaxPieces != 5 {
		t.Errorf("PieceSize is %d and MaxPieces is %d, want 3 and 5", impl.PieceSize, impl.MaxPieces)
	}
}

// The pieces are written out, so that cutting and joining are not only checked by each other.
func TestPiecesValues(t *testing.T) {
	for _, c := range []struct {
		long   []int
		pieces [][]int
		parity []int
	}{
		{nil, [][]int{{0, 0, 0}}, []int{0, 0, 0}},
		{[]int{}, [][]int{{0, 0, 0}}, []int{0, 0, 0}},
		{[]int{0}, [][]int{{1, 0, 0}}, []int{1, 0, 0}},
		{[]int{7}, [][]int{{1, 7, 0}}, []int{1, 7, 0}},
		{[]int{990}, [][]int{{1, 990, 0}}, []int{1, 990, 0}},
		{[]int{5, 6}, [][]int{{2, 5, 6}}, []int{2, 5, 6}},
		{[]int{0, 0}, [][]int{{2, 0, 0}}, []int{2, 0, 0}},
		{[]int{990, 990}, [][]int{{2, 990, 990}}, []int{2, 990, 990}},
		{[]int{5, 6, 7}, [][]int{{3, 5, 6}, {7, 0, 0}}, []int{10, 5, 6}},
		{[]int{0, 0, 0}, [][]int{{3, 0, 0}, {0, 0, 0}}, []int{3, 0, 0}},
		{[]int{5, 6, 7, 8}, [][]int{{4, 5, 6}, {7, 8, 0}}, []int{11, 13, 6}},
		{[]int{1, 0, 0, 0}, [][]int{{4, 1, 0}, {0, 0, 0}}, []int{4, 1, 0}},
		{[]int{3, 1, 4, 1, 5}, [][]int{{5, 3, 1}, {4, 1, 5}}, []int{9, 4, 6}},
		{[]int{990, 990, 990, 990, 990}, [][]int{{5, 990, 990}, {990, 990, 990}}, []int{4, 989, 989}},
		{[]int{1, 2, 3, 4, 5, 6}, [][]int{{6, 1, 2}, {3, 4, 5}, {6, 0, 0}}, []int{15, 5, 7}},
		{[]int{0, 0, 0, 0, 0, 0, 9}, [][]int{{7, 0, 0}, {0, 0, 0}, {0, 9, 0}}, []int{7, 9, 0}},
		{[]int{9, 8, 7, 6, 5, 4, 3, 2}, [][]int{{8, 9, 8}, {7, 6, 5}, {4, 3, 2}}, []int{19, 18, 15}},
		{[]int{990, 990, 990, 990, 990, 990, 990, 990}, [][]int{{8, 990, 990}, {990, 990, 990}, {990, 990, 990}}, []int{6, 988, 988}},
		{[]int{988, 3, 0, 0, 0, 0, 0, 0, 0}, [][]int{{9, 988, 3}, {0, 0, 0}, {0, 0, 0}, {0, 0, 0}}, []int{9, 988, 3}},
		{[]int{0, 0, 0, 0, 0, 0, 0, 0, 0, 0}, [][]int{{10, 0, 0}, {0, 0, 0}, {0, 0, 0}, {0, 0, 0}}, []int{10, 0, 0}},
		{[]int{1, 2, 3, 4, 5, 6, 7, 8, 9, 10, 11}, [][]int{{11, 1, 2}, {3, 4, 5}, {6, 7, 8}, {9, 10, 11}}, []int{29, 22, 26}},
		{[]int{990, 990, 990, 990, 990, 990, 990, 990, 990, 990, 990, 990}, [][]int{{12, 990, 990}, {990, 990, 990}, {990, 990, 990}, {990, 990, 990}, {990, 0, 0}}, []int{8, 987, 987}},
		{[]int{500, 400, 300, 200, 100, 0, 10, 20, 30, 40, 50, 60, 70}, [][]int{{13, 500, 400}, {300, 200, 100}, {0, 10, 20}, {30, 40, 50}, {60, 70, 0}}, []int{403, 820, 570}},
		{[]int{1, 2, 3, 4, 5, 6, 7, 8, 9, 10, 11, 12, 13, 14}, [][]int{{14, 1, 2}, {3, 4, 5}, {6, 7, 8}, {9, 10, 11}, {12, 13, 14}}, []int{44, 35, 40}},
		{[]int{990, 990, 990, 990, 990, 990, 990, 990, 990, 990, 990, 990, 990, 990}, [][]int{{14, 990, 990}, {990, 990, 990}, {990, 990, 990}, {990, 990, 990}, {990, 990, 990}}, []int{10, 986, 986}},
		{[]int{977, 990, 990, 0, 1, 0, 0, 0, 0, 0, 0, 0, 0, 0}, [][]int{{14, 977, 990}, {990, 0, 1}, {0, 0, 0}, {0, 0, 0}, {0, 0, 0}}, []int{13, 977, 0}},
	} {
		checkCut(t, c.long, c.pieces)
		checkParity(t, c.pieces, c.parity)
		for place := range c.pieces {
			checkRepaired(t, withPiece(c.pieces, place), c.parity, c.pieces)
		}
		checkJoined(t, c.pieces, c.long)
	}
}

func TestPiecesRepairValues(t *testing.T) {
	for _, c := range []struct {
		pieces [][]int
		parity []int
		want   [][]int
	}{
		{[][]int{{}}, []int{0, 0, 0}, [][]int{{0, 0, 0}}},
		{[][]int{nil}, []int{1, 500, 990}, [][]int{{1, 500, 990}}},
		{[][]int{{}, {1, 1, 1}}, []int{0, 1, 2}, [][]int{{990, 0, 1}, {1, 1, 1}}},
		{[][]int{{990, 0, 7}, {}}, []int{0, 990, 7}, [][]int{{990, 0, 7}, {1, 990, 0}}},
		{[][]int{{990, 990, 990}, {}, {990, 990, 990}}, []int{0, 989, 988}, [][]int{{990, 990, 990}, {2, 0, 990}, {990, 990, 990}}},
		{[][]int{{990, 1, 0}, {990, 2, 0}, {990, 3, 0}, {990, 4, 0}, {}}, []int{0, 9, 0}, [][]int{{990, 1, 0}, {990, 2, 0}, {990, 3, 0}, {990, 4, 0}, {4, 990, 0}}},
		{[][]int{{8, 7, 6}, {5, 4, 3}}, []int{0, 0, 0}, [][]int{{8, 7, 6}, {5, 4, 3}}},
	} {
		checkRepaired(t, c.pieces, c.parity, c.want)
	}
}

func TestPiecesOfNothing(t *testing.T) {
	for _, none := range [][][]int{nil, {}, [][]int{{0, 0, 0}}[:0]} {
		checkInvalidPieces(t, none)
	}
}

// Of one piece more than MaxPieces one may be missing, or all may be those of a letter that is too long.
func TestTooManyPieces(t *testing.T) {
	for count := impl.MaxPieces + 1; count <= 2*impl.MaxList; count++ {
		size := count * impl.PieceSize
		for _, numbers := range [][]int{listOf(size, 0, 0), listOf(size, lastNumber, 0), listOf(size, size-1, 0), listOf(size, 497, 131)} {
			pieces := piecesOf(numbers)
			checkInvalidPieces(t, pieces)
			checkInvalidPieces(t, withPiece(pieces, 0))
			checkInvalidPieces(t, withPiece(pieces, count-1))
			checkInvalidPieces(t, make([][]int, count))
			checkNotRepaired(t, withPiece(pieces, impl.MaxPieces), parityOf(pieces[:impl.MaxPieces]))
		}
	}
	for length := mostNumbers + 1; length <= impl.MaxList; length++ {
		checkInvalidPieces(t, cutOf(listOf(length, 0, 0)))
		checkInvalidPieces(t, cutOf(listOf(length, 1, 1)))
	}
	for length := range mostNumbers + 1 {
		pieces := cutOf(listOf(length, 0, 0))
		for len(pieces) <= impl.MaxPieces {
			pieces = append(pieces, []int{0, 0, 0})
		}
		checkInvalidPieces(t, pieces)
	}
}

// Where another piece is missing, PiecesRepair could do without it.
func TestWrongPiecesAtEachPlace(t *testing.T) {
	for _, wrong := range wrongPieces() {
		for count := 1; count <= impl.MaxPieces; count++ {
			long := listOf(count*impl.PieceSize-1, 0, 0)
			pieces := cutOf(long)
			for place := range pieces {
				changed := withPiece(pieces, place, wrong...)
				checkInvalidPieces(t, changed)
				for other := range pieces {
					if other != place {
						checkInvalidPieces(t, withPiece(changed, other))
					}
				}
			}
		}
	}
}

// The remainder of the wrong number is that of the piece.
func TestPiecesWithRightRemainders(t *testing.T) {
	for _, pieces := range somePieces() {
		for i := range pieces {
			for place := range impl.PieceSize {
				for _, step := range []int{impl.Numbers, -impl.Numbers, impl.Numbers << 32, -impl.Numbers << 32} {
					changed := copyOfPieces(pieces)
					changed[i][place] += step
					checkInvalidPieces(t, changed)
				}
			}
		}
	}
}

// A list that is as long as two pieces, or as the rest of the letter, is no piece.
func TestPiecesThatAreNotCut(t *testing.T) {
	for _, long := range fewLongLetters() {
		pieces := cutOf(long)
		numbers := slices.Concat(pieces...)
		if len(pieces) == 1 {
			continue
		}
		checkInvalidPieces(t, [][]int{numbers})
		for i := range pieces[1:] {
			joined := append(copyOfPieces(pieces[:i]), slices.Concat(pieces[i], pieces[i+1]))
			checkInvalidPieces(t, append(joined, pieces[i+2:]...))
		}
		for size := range impl.PieceSize {
			last := len(pieces) - 1
			if size > 0 {
				checkInvalidPieces(t, withPiece(pieces, last, pieces[last][:size]...))
				checkInvalidPieces(t, withPiece(pieces, 0, pieces[0][:size]...))
			}
		}
	}
}

func TestPiecesParityOfMissingPieces(t *testing.T) {
	for _, pieces := range somePieces() {
		for choice := 1; choice < 1<<len(pieces); choice++ {
			checkParity(t, withoutSome(pieces, choice), nil)
		}
	}
}

// With a wrong parity nothing is repaired, also if nothing is missing.
func TestWrongParities(t *testing.T) {
	for _, pieces := range somePieces() {
		for _, wrong := range append(wrongPieces(), nil, []int{}, []int{1, 2, 3}[:0]) {
			checkNotRepaired(t, pieces, wrong)
			for place := range pieces {
				checkNotRepaired(t, withPiece(pieces, place), wrong)
			}
		}
	}
}

// The remainder of the wrong number is the right one, or the right parity is too long or too short.
func TestParitiesWithRightRemainders(t *testing.T) {
	for _, pieces := range somePieces() {
		right := parityOf(pieces)
		wrong := [][]int{append(slices.Clone(right), 0), right[:impl.PieceSize-1], slices.Concat(right, right)}
		for place := range right {
			for _, step := range []int{impl.Numbers, -impl.Numbers, impl.Numbers << 32, -impl.Numbers << 32} {
				changed := slices.Clone(right)
				changed[place] += step
				wrong = append(wrong, changed)
			}
		}
		for _, parity := range wrong {
			checkNotRepaired(t, pieces, parity)
			for place := range pieces {
				checkNotRepaired(t, withPiece(pieces, place), parity)
			}
		}
	}
}

func TestPromise94LettersAreJoined(t *testing.T) {
	for _, long := range longLetters() {
		checkJoined(t, impl.PiecesCut(long), long)
	}
}

func TestPromise94EachNumberAtEachPlace(t *testing.T) {
	for length := range mostNumbers + 1 {
		for place := range length {
			long := listOf(length, 0, 0)
			for long[place] = range impl.Numbers {
				checkCut(t, long, cutOf(long))
				checkJoined(t, impl.PiecesCut(long), long)
			}
		}
	}
}

func TestPromise94ManyLetters(t *testing.T) {
	next := chosen()
	for round := range 30000 {
		long := make([]int, round%(mostNumbers+1))
		limit := []int{2, mostNumbers + 2, impl.Numbers}[round%3]
		for i := range long {
			long[i] = next(limit)
		}
		checkCut(t, long, cutOf(long))
		checkJoined(t, impl.PiecesCut(long), long)
	}
}

func TestPromise95SizesOfPieces(t *testing.T) {
	counts := []int{1, 1, 1, 2, 2, 2, 3, 3, 3, 4, 4, 4, 5, 5, 5}
	for _, long := range longLetters() {
		pieces := impl.PiecesCut(long)
		if len(pieces) != counts[len(long)] || len(pieces) > impl.MaxPieces {
			t.Fatalf("PiecesCut(%v) has %d pieces, want %d", long, len(pieces), counts[len(long)])
		}
		for _, piece := range pieces {
			if len(piece) != impl.PieceSize {
				t.Fatalf("PiecesCut(%v) has the piece %v", long, piece)
			}
		}
	}
}

// Letters of 2, 5, 8, 11 and 14 numbers fill their pieces; one number more needs a piece more.
func TestPromise95FullPieces(t *testing.T) {
	for count := 1; count <= impl.MaxPieces; count++ {
		length := count*impl.PieceSize - 1
		for _, long := range [][]int{listOf(length+1, 0, 0), listOf(length+1, lastNumber, 0), listOf(length+1, 1, 1)} {
			full, more := impl.PiecesCut(long[:length]), impl.PiecesCut(long)
			if len(full) != count || full[count-1][impl.PieceSize-1] != long[length-1] {
				t.Fatalf("PiecesCut(%v) is %v", long[:length], full)
			}
			if count == impl.MaxPieces {
				checkPieces(t, "PiecesCut of one number more", more, nil)
			} else {
				checkNumbers(t, "the piece of one number more", more[count], []int{long[length], 0, 0})
			}
		}
	}
}

func TestPromise96LengthAndNumbers(t *testing.T) {
	for _, long := range longLetters() {
		numbers := slices.Concat(impl.PiecesCut(long)...)
		end := 1 + len(long)
		if len(numbers) < end || numbers[0] != len(long) {
			t.Fatalf("PiecesCut(%v) has the numbers %v", long, numbers)
		}
		checkNumbers(t, "the letter in PiecesCut", numbers[1:end], long)
		checkNumbers(t, "what is behind the letter in PiecesCut", numbers[end:], make([]int, len(numbers)-end))
		checkCut(t, long, cutOf(long))
	}
}

func TestPromise97TheLongestLetter(t *testing.T) {
	for first := range impl.Numbers {
		for _, step := range []int{0, 1, 131, lastNumber} {
			long := listOf(impl.MaxList+2, first, step)
			if pieces := impl.PiecesCut(long[:14]); len(pieces) != impl.MaxPieces {
				t.Fatalf("PiecesCut(%v) has %d pieces", long[:14], len(pieces))
			}
			checkCut(t, long[:14], cutOf(long[:14]))
			for length := 15; length <= len(long); length++ {
				checkCut(t, long[:length], nil)
			}
		}
	}
}

func TestPiecesCutOfWrongLists(t *testing.T) {
	for _, list := range append(wrongLists(), make([]int, 1000), slices.Repeat([]int{-1}, 1000)) {
		checkCut(t, list, nil)
	}
	for length := 1; length <= impl.MaxList+1; length++ {
		for place := range length {
			for _, list := range [][]int{listOf(length, 0, 0), listOf(length, 3, 50)} {
				right := list[place]
				for _, list[place] = range append([]int{right + impl.Numbers, right - impl.Numbers}, wrongNumbers...) {
					checkCut(t, list, nil)
				}
			}
		}
	}
}

func TestPromise98OneMissingPiece(t *testing.T) {
	for _, long := range longLetters() {
		pieces := impl.PiecesCut(long)
		checkPieces(t, "PiecesCut", pieces, cutOf(long))
		parity := impl.PiecesParity(pieces)
		for place := range pieces {
			repaired, ok := impl.PiecesRepair(withPiece(pieces, place), parity)
			if !ok {
				t.Fatalf("PiecesRepair of %v without piece %d fails", pieces, place)
			}
			checkPieces(t, "PiecesRepair", repaired, pieces)
			checkJoined(t, repaired, long)
		}
	}
}

func TestPromise98PiecesOfNoLetter(t *testing.T) {
	for _, pieces := range somePieces() {
		checkWhole(t, pieces)
	}
}

// Each number is lost, beside other pieces with both ends of the range.
func TestPromise98AllNumbers(t *testing.T) {
	for number := range impl.Numbers {
		piece := []int{number, lastNumber - number, (number + 495) % impl.Numbers}
		for count := 1; count <= impl.MaxPieces; count++ {
			for _, other := range []int{0, 1, 495, lastNumber} {
				pieces := piecesOf(listOf(count*impl.PieceSize, other, 0))
				pieces[number%count] = piece
				checkWhole(t, pieces)
			}
		}
	}
}

func TestPromise98ManyPieces(t *testing.T) {
	next := chosen()
	for round := range 20000 {
		numbers := make([]int, (1+round%impl.MaxPieces)*impl.PieceSize)
		for i := range numbers {
			numbers[i] = next(impl.Numbers)
		}
		checkWhole(t, piecesOf(numbers))
	}
}

// Not only the right parity is taken where nothing is missing.
func TestPromise99CompletePieces(t *testing.T) {
	for _, pieces := range somePieces() {
		for _, parity := range append(someParities(), parityOf(pieces)) {
			checkRepaired(t, pieces, parity, pieces)
		}
		for place := range impl.PieceSize {
			parity := []int{14, 0, lastNumber}
			for parity[place] = range impl.Numbers {
				checkRepaired(t, pieces, parity, pieces)
			}
		}
	}
	for _, long := range longLetters() {
		pieces := impl.PiecesCut(long)
		for _, parity := range someParities() {
			checkRepaired(t, pieces, parity, pieces)
		}
	}
}

func TestPromise100SeveralMissingPieces(t *testing.T) {
	for _, pieces := range somePieces() {
		for choice := range 1 << len(pieces) {
			if bitsOf(choice) < 2 {
				continue
			}
			some := withoutSome(pieces, choice)
			for _, parity := range append(someParities(), parityOf(pieces), parityOf(some), nil) {
				checkNotRepaired(t, some, parity)
			}
			checkNotJoined(t, some)
		}
	}
}

func TestPromise100AllPiecesAreMissing(t *testing.T) {
	for count := 2; count <= 2*impl.MaxPieces; count++ {
		checkInvalidPieces(t, make([][]int, count))
		checkInvalidPieces(t, slices.Repeat([][]int{{}}, count))
	}
}

// A letter of one piece is repaired from the parity alone.
func TestOneMissingPieceIsItsParity(t *testing.T) {
	for place := range impl.PieceSize {
		parity := []int{14, 0, lastNumber}
		for parity[place] = range impl.Numbers {
			checkRepaired(t, [][]int{nil}, parity, [][]int{parity})
			checkRepaired(t, [][]int{{}}, parity, [][]int{parity})
		}
	}
	checkParity(t, [][]int{nil}, nil)
	checkNotJoined(t, [][]int{nil})
}

// With any parity, the repaired piece makes it the right one.
func TestPromise101OtherPiecesAreUnchanged(t *testing.T) {
	for _, pieces := range somePieces() {
		for place := range pieces {
			some := withPiece(pieces, place)
			for _, parity := range append(someParities(), parityOf(pieces)) {
				repaired, ok := impl.PiecesRepair(some, parity)
				if !ok || len(repaired) != len(pieces) || len(repaired[place]) != impl.PieceSize || slices.ContainsFunc(repaired[place], isNoNumber) {
					t.Fatalf("PiecesRepair(%v, %v) is %v and %v", some, parity, repaired, ok)
				}
				checkNumbers(t, "the parity of PiecesRepair", parityOf(repaired), parity)
				checkParity(t, repaired, parity)
				repaired[place] = nil
				checkPieces(t, "PiecesRepair without the repaired piece", repaired, some)
			}
		}
	}
}

func isNoNumber(number int) bool {
	return number < 0 || number > lastNumber
}

func TestPromise102SumsOfPieces(t *testing.T) {
	for _, pieces := range somePieces() {
		checkParity(t, pieces, parityOf(pieces))
	}
	for _, long := range longLetters() {
		checkParity(t, impl.PiecesCut(long), parityOf(cutOf(long)))
	}
}

// The sums are the last number, Numbers itself, and one more, at one place each.
func TestPromise102SumsThatReachNumbers(t *testing.T) {
	for number := 1; number < lastNumber; number++ {
		rest := lastNumber - number
		checkParity(t, [][]int{{number, number, number}, {rest, rest + 1, rest + 1}}, []int{lastNumber, 0, 0})
		checkParity(t, [][]int{{number, number, number + 1}, {rest, rest + 1, rest + 1}}, []int{lastNumber, 0, 1})
		checkParity(t, [][]int{{number, 0, 0}, {rest, 0, number}, {0, rest, 0}, {0, number, rest}, {1, 0, 2}}, []int{0, lastNumber, 1})
	}
	for count := 1; count <= impl.MaxPieces; count++ {
		most := impl.Numbers - count
		checkParity(t, piecesOf(listOf(count*impl.PieceSize, lastNumber, 0)), []int{most, most, most})
		checkParity(t, piecesOf(listOf(count*impl.PieceSize, 1, 0)), []int{count, count, count})
	}
}

// Only the sum at its own place changes with a number.
func TestPromise102EachNumberAtEachPlace(t *testing.T) {
	for _, pieces := range somePieces() {
		if len(pieces)%2 == 0 {
			continue
		}
		for i := range pieces {
			for place := range impl.PieceSize {
				changed := copyOfPieces(pieces)
				for changed[i][place] = 0; changed[i][place] <= lastNumber; changed[i][place] += 10 {
					checkParity(t, changed, parityOf(changed))
				}
			}
		}
	}
}

func TestPromise103ReverseOrder(t *testing.T) {
	for _, pieces := range somePieces() {
		parity := impl.PiecesParity(pieces)
		if len(parity) != impl.PieceSize {
			t.Fatalf("PiecesParity(%v) is %v", pieces, parity)
		}
		reversed := copyOfPieces(pieces)
		slices.Reverse(reversed)
		checkParity(t, reversed, parity)
		for _, other := range permutations(pieces) {
			checkParity(t, other, parity)
		}
	}
	for _, long := range longLetters() {
		pieces := impl.PiecesCut(long)
		parity := impl.PiecesParity(pieces)
		slices.Reverse(pieces)
		checkParity(t, pieces, parity)
	}
}

// checkJoinAsDefined fails unless complete pieces are joined just as the document defines, and reports whether they are.
func checkJoinAsDefined(t *testing.T, pieces [][]int) bool {
	t.Helper()
	long, ok := letterIn(pieces)
	if !ok {
		checkNotJoined(t, pieces)
		return false
	}
	checkJoined(t, pieces, long)
	checkCut(t, long, pieces)
	return true
}

func TestPromise104AllPieces(t *testing.T) {
	for _, long := range longLetters() {
		if !checkJoinAsDefined(t, cutOf(long)) {
			t.Fatalf("the pieces of %v are not those of a letter", long)
		}
	}
	for _, pieces := range somePieces() {
		checkJoinAsDefined(t, pieces)
	}
}

// Each first number is tried with zeros and with other numbers behind it, for all numbers of pieces.
func TestPromise104AllFirstNumbers(t *testing.T) {
	joined := 0
	for count := 1; count <= impl.MaxPieces; count++ {
		for _, behind := range []int{0, 1, count*impl.PieceSize - 1, lastNumber} {
			pieces := piecesOf(listOf(count*impl.PieceSize, behind, 0))
			for pieces[0][0] = range impl.Numbers {
				if checkJoinAsDefined(t, pieces) {
					joined++
				}
			}
			for _, pieces[0][0] = range wrongNumbers {
				checkInvalidPieces(t, pieces)
			}
		}
	}
	// All PieceSize lengths are right with zeros, and the greatest one with others, too.
	if want := impl.MaxPieces * (impl.PieceSize + 3); joined != want {
		t.Errorf("%d pieces are joined, want %d", joined, want)
	}
}

func TestPromise104OtherLengths(t *testing.T) {
	for _, long := range longLetters() {
		pieces := cutOf(long)
		for _, length := range []int{-1, len(long) - 1, len(long) + 1, len(long) - impl.PieceSize, len(long) + impl.PieceSize, mostNumbers, mostNumbers + 1, impl.MaxList, lastNumber, impl.Numbers} {
			changed := copyOfPieces(pieces)
			changed[0][0] = length
			if isNoNumber(length) {
				checkNotJoined(t, changed)
			} else {
				checkJoinAsDefined(t, changed)
			}
		}
	}
}

func TestPromise104NumbersBehindTheLetter(t *testing.T) {
	for _, long := range longLetters() {
		pieces := cutOf(long)
		for i := 1 + len(long); i < len(pieces)*impl.PieceSize; i++ {
			changed := copyOfPieces(pieces)
			for _, changed[i/impl.PieceSize][i%impl.PieceSize] = range []int{1, 2, 500, lastNumber, -1, impl.Numbers} {
				checkNotJoined(t, changed)
			}
		}
	}
}

func TestPromise104PiecesMoreAndFewer(t *testing.T) {
	for _, long := range longLetters() {
		pieces := cutOf(long)
		checkNotJoined(t, pieces[:len(pieces)-1])
		for place := range pieces {
			checkNotJoined(t, withPiece(pieces, place))
		}
		// What is behind the first piece may by chance be those of another letter.
		if len(pieces) > 1 {
			checkJoinAsDefined(t, pieces[1:])
		}
		for more := copyOfPieces(pieces); len(more) <= impl.MaxPieces+1; {
			checkNotJoined(t, append(more, nil))
			checkNotJoined(t, append(more, []int{1, 2, 3}))
			checkNotJoined(t, append([][]int{{0, 0, 0}}, more...))
			more = append(more, []int{0, 0, 0})
			checkNotJoined(t, more)
		}
	}
}

// The first number often fits, and the numbers behind the letter are often zeros.
func TestPromise104ManyPieces(t *testing.T) {
	next := chosen()
	joined, refused := 0, 0
	for round := range 60000 {
		numbers := make([]int, (1+round%impl.MaxPieces)*impl.PieceSize)
		for i := range numbers {
			numbers[i] = next([]int{1, 2, impl.Numbers}[(round/5+i*next(2))%3])
		}
		numbers[0] = next(mostNumbers + 3)
		if round%2 == 0 {
			numbers[0] = len(numbers) - 1 - next(impl.PieceSize)
			clear(numbers[min(1+numbers[0]+next(2), len(numbers)):])
		}
		if checkJoinAsDefined(t, piecesOf(numbers)) {
			joined++
		} else {
			refused++
		}
	}
	if joined < 15000 || refused < 15000 {
		t.Errorf("%d pieces are joined, and %d are not", joined, refused)
	}
}

// Pieces come back one by one as letters through mixes, one of them is lost, and the letter is read anyway.
func TestPiecesGoAsLetters(t *testing.T) {
	for _, long := range fewLongLetters() {
		pieces := impl.PiecesCut(long)
		sent := append(copyOfPieces(pieces), impl.PiecesParity(pieces))
		for lost := range sent {
			arrived := make([][]int, len(sent))
			for i, piece := range sent {
				if i != lost {
					arrived[i] = arrivedLetter(t, trip{40 + i, []int{11}, []int{1}, 6, piece})
				}
			}
			if lost < len(pieces) {
				checkRepaired(t, arrived[:len(pieces)], arrived[len(pieces)], pieces)
			} else {
				checkJoined(t, arrived[:len(pieces)], long)
			}
		}
	}
}

func arrivedLetter(t *testing.T, w trip) []int {
	t.Helper()
	b, keys := w.block(t)
	p := reply(t, b, w.letter)
	for _, mix := range w.mixes {
		p = stop{mix, p}.peeled(t).Packet
	}
	letter, ok := impl.ReplyOpen(keys, p.Body)
	if !ok {
		t.Fatalf("the letter of %v is not opened", w)
	}
	return letter
}

// laidOutPieces has pieces and a parity whose slices lie behind each other in one memory, with space behind them, so
// that appending to one of them would change another one.
type laidOutPieces struct {
	pieces  [][]int
	parity  []int
	numbers []int
	lists   [][]int
}

func layOutPieces(pieces [][]int, parity []int) laidOutPieces {
	l := laidOutPieces{numbers: slices.Concat(slices.Concat(pieces...), parity, listOf(impl.MaxList, 17, 29))}
	rest := l.numbers
	for _, piece := range pieces {
		l.lists = append(l.lists, rest[:len(piece)])
		rest = rest[len(piece):]
	}
	l.parity = rest[:len(parity)]
	l.lists = append(l.lists, rest[:3], rest[3:6], rest[1:4])
	l.pieces = l.lists[:len(pieces)]
	return l
}

// checkPiecesApart fails if a function changes its arguments, or if a list that it returns shares memory with them, with
// another list of the result, or with another result.
func checkPiecesApart(t *testing.T, name string, pieces [][]int, parity []int, of func([][]int, []int) [][]int) {
	t.Helper()
	l := layOutPieces(pieces, parity)
	numbers, lists := slices.Clone(l.numbers), copyOfPieces(l.lists)
	got, another := of(l.pieces, l.parity), of(l.pieces, l.parity)
	want := copyOfPieces(another)
	spoilLists(t, name, got)
	checkPieces(t, "another result of "+name, another, want)
	checkNumbers(t, "the memory of the numbers of "+name, l.numbers, numbers)
	checkPieces(t, "the memory of the lists of "+name, l.lists, lists)
	checkPieces(t, "a later result of "+name, of(l.pieces, l.parity), want)
}

func checkAllPiecesApart(t *testing.T, pieces [][]int, parity []int) {
	t.Helper()
	checkPiecesApart(t, "PiecesCut", pieces, parity, func(_ [][]int, parity []int) [][]int {
		return impl.PiecesCut(parity)
	})
	checkPiecesApart(t, "PiecesParity", pieces, parity, func(pieces [][]int, _ []int) [][]int {
		return [][]int{impl.PiecesParity(pieces)}
	})
	checkPiecesApart(t, "PiecesRepair", pieces, parity, func(pieces [][]int, parity []int) [][]int {
		repaired, _ := impl.PiecesRepair(pieces, parity)
		return repaired
	})
	checkPiecesApart(t, "PiecesJoin", pieces, parity, func(pieces [][]int, _ []int) [][]int {
		long, _ := impl.PiecesJoin(pieces)
		return [][]int{long}
	})
}

func TestPiecesShareNoMemory(t *testing.T) {
	for _, pieces := range somePieces() {
		for _, parity := range append(someParities(), nil, []int{1, 2}, []int{1, 2, 3, 4}, []int{-1, 0, 0}) {
			checkAllPiecesApart(t, pieces, parity)
			for place := range pieces {
				checkAllPiecesApart(t, withPiece(pieces, place), parity)
				checkAllPiecesApart(t, withPiece(pieces, place, impl.Numbers, 0, 0), parity)
			}
		}
	}
	for _, pieces := range [][][]int{nil, {nil, nil}, {{1}}, {{1, 2, 3, 4}, {5, 6}}, piecesOf(listOf(18, 17, 0))} {
		checkAllPiecesApart(t, pieces, []int{1, 2, 3})
	}
	for _, long := range longLetters() {
		checkAllPiecesApart(t, cutOf(long), long)
	}
}

// All pieces and the parity may be one slice, and the pieces of a result may go on as arguments.
func TestPiecesOfOneSliceForAll(t *testing.T) {
	memory := []int{1, 0, 0, 0, 0}
	piece := memory[:impl.PieceSize]
	for count := 1; count <= impl.MaxPieces; count++ {
		pieces := slices.Repeat([][]int{piece}, count)
		complete, ok := impl.PiecesRepair(pieces, piece)
		if !ok {
			t.Fatalf("PiecesRepair(%v, %v) fails", pieces, piece)
		}
		spoilLists(t, "PiecesRepair", complete)
		pieces[count-1] = memory[:0]
		repaired, ok := impl.PiecesRepair(pieces, piece)
		if !ok {
			t.Fatalf("PiecesRepair(%v, %v) fails", pieces, piece)
		}
		spoilLists(t, "PiecesRepair", repaired)
		checkNumbers(t, "the memory of all pieces", memory, []int{1, 0, 0, 0, 0})
	}
	checkJoined(t, [][]int{piece}, piece[1:2])
}
