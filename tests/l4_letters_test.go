package tests

import (
	"math"
	"slices"
	"testing"

	"loop.example/mixrelay/impl"
)

const tagPlace = impl.BodySize - 1

// someLetters has letters of all lengths with every choice of some numbers, both ends of their range included, and
// letters with each number at each place.
func someLetters() [][]int {
	letters := [][]int{{}}
	shorter := letters
	for range impl.MaxLetter {
		var longer [][]int
		for _, letter := range shorter {
			for _, number := range []int{0, 1, impl.MaxLetter, 500, lastNumber} {
				longer = append(longer, append(slices.Clone(letter), number))
			}
		}
		letters, shorter = append(letters, longer...), longer
	}
	for length := 1; length <= impl.MaxLetter; length++ {
		for number := range impl.Numbers {
			letters = append(letters, listOf(length, number, 131))
		}
	}
	return letters
}

// fewLetters has letters of all lengths: zeros, the greatest number, and different numbers, for tests that try much
// with each.
func fewLetters() [][]int {
	var letters [][]int
	for length := 0; length <= impl.MaxLetter; length++ {
		letters = append(letters, listOf(length, 0, 0), listOf(length, lastNumber, 0), listOf(length, 497, 131), listOf(length, 1, 1))
	}
	return letters
}

// wrongLetters has lists of all greater lengths, each wrong number at each place of letters of all lengths, and the
// wrong lists of chapter 2.
func wrongLetters() [][]int {
	letters := wrongLists()
	for length := impl.MaxLetter + 1; length <= impl.MaxList+1; length++ {
		letters = append(letters, listOf(length, 0, 0), listOf(length, 5, 7))
	}
	for _, wrong := range wrongNumbers {
		for length := 1; length <= impl.MaxLetter; length++ {
			for place := range length {
				for _, letter := range [][]int{listOf(length, 0, 0), listOf(length, 3, 50)} {
					letter[place] = wrong
					letters = append(letters, letter)
				}
			}
		}
	}
	return letters
}

// packed returns the body of a letter, and fails if there is none.
func packed(t *testing.T, letter []int) []int {
	t.Helper()
	body, ok := impl.LetterPack(letter)
	if !ok || len(body) != impl.BodySize {
		t.Fatalf("LetterPack(%v) is %v and %v", letter, body, ok)
	}
	return body
}

func checkOpens(t *testing.T, body, want []int) {
	t.Helper()
	if letter, ok := impl.LetterOpen(body); !ok || !slices.Equal(letter, want) {
		t.Fatalf("LetterOpen(%v) is %v and %v, want %v and true", body, letter, ok, want)
	}
}

func checkNotPacked(t *testing.T, letter []int) {
	t.Helper()
	if body, ok := impl.LetterPack(letter); ok || len(body) != 0 {
		t.Fatalf("LetterPack(%v) is %v and %v, want nothing and false", letter, body, ok)
	}
}

func checkNotOpened(t *testing.T, body []int) {
	t.Helper()
	if letter, ok := impl.LetterOpen(body); ok || len(letter) != 0 {
		t.Fatalf("LetterOpen(%v) is %v and %v, want nothing and false", body, letter, ok)
	}
}

// tagged appends the right tag, so that a body can only be refused for something else.
func tagged(t *testing.T, numbers []int) []int {
	t.Helper()
	return append(slices.Clone(numbers), tagInRange(t, 1, numbers))
}

func TestLetterConstants(t *testing.T) {
	if impl.BodySize != 6 || impl.MaxLetter != 4 {
		t.Errorf("BodySize is %d and MaxLetter is %d, want 6 and 4", impl.BodySize, impl.MaxLetter)
	}
}

func TestLetterValues(t *testing.T) {
	for _, c := range []struct{ letter, body []int }{
		{nil, []int{0, 0, 0, 0, 0, 831}}, {[]int{}, []int{0, 0, 0, 0, 0, 831}},
		{[]int{0}, []int{1, 0, 0, 0, 0, 528}}, {[]int{1}, []int{1, 1, 0, 0, 0, 867}}, {[]int{7}, []int{1, 7, 0, 0, 0, 919}}, {[]int{990}, []int{1, 990, 0, 0, 0, 189}},
		{[]int{0, 0}, []int{2, 0, 0, 0, 0, 225}}, {[]int{7, 8}, []int{2, 7, 8, 0, 0, 74}}, {[]int{8, 7}, []int{2, 8, 7, 0, 0, 233}},
		{[]int{0, 990}, []int{2, 0, 990, 0, 0, 45}}, {[]int{990, 990}, []int{2, 990, 990, 0, 0, 697}},
		{[]int{0, 0, 0}, []int{3, 0, 0, 0, 0, 913}}, {[]int{1, 2, 3}, []int{3, 1, 2, 3, 0, 478}}, {[]int{990, 990, 990}, []int{3, 990, 990, 990, 0, 772}},
		{[]int{0, 0, 0, 0}, []int{4, 0, 0, 0, 0, 610}}, {[]int{0, 0, 0, 990}, []int{4, 0, 0, 0, 990, 609}}, {[]int{1, 2, 3, 4}, []int{4, 1, 2, 3, 4, 179}},
		{[]int{4, 3, 2, 1}, []int{4, 4, 3, 2, 1, 760}}, {[]int{500, 0, 17, 3}, []int{4, 500, 0, 17, 3, 172}}, {[]int{990, 990, 990, 990}, []int{4, 990, 990, 990, 990, 468}},
	} {
		checkNumbers(t, "LetterPack", packed(t, c.letter), c.body)
		checkOpens(t, c.body, c.letter)
	}
}

// A body begins with the length and the letter, and ends with the tag of all that is before.
func TestBodiesBeginWithTheLetterAndEndWithTheTag(t *testing.T) {
	for _, letter := range someLetters() {
		body := packed(t, letter)
		checkNumbers(t, "the beginning of a body", body[:1+len(letter)], append([]int{len(letter)}, letter...))
		checkNumbers(t, "a body", body, tagged(t, body[:tagPlace]))
	}
}

func TestTheEmptyLetter(t *testing.T) {
	want := []int{0, 0, 0, 0, 0, 831}
	for _, empty := range [][]int{nil, {}, make([]int, 0, impl.BodySize), listOf(impl.MaxLetter, 5, 7)[:0]} {
		checkNumbers(t, "the body of the empty letter", packed(t, empty), want)
	}
	letter, ok := impl.LetterOpen(want)
	if !ok || len(letter) != 0 {
		t.Fatalf("LetterOpen of the body of the empty letter is %v and %v", letter, ok)
	}
}

// A letter or a body that is a part of another list is only that part.
func TestLettersIgnoreWhatIsBehindThem(t *testing.T) {
	memory := []int{1, 2, 3, 4, 5, -1, impl.Numbers}
	for length := 0; length <= impl.MaxLetter; length++ {
		body := packed(t, slices.Clone(memory[:length]))
		checkNumbers(t, "LetterPack of a part", packed(t, memory[:length]), body)
		longer := append(slices.Clone(body), -1, 7)
		checkOpens(t, longer[:impl.BodySize], memory[:length])
	}
}

func TestWhatIsNoLetterHasNoBody(t *testing.T) {
	for _, letter := range wrongLetters() {
		checkNotPacked(t, letter)
	}
}

func TestBodiesOfAnotherLength(t *testing.T) {
	checkNotOpened(t, nil)
	for _, letter := range fewLetters() {
		body := packed(t, letter)
		for length := range impl.BodySize {
			checkNotOpened(t, body[:length])
			checkNotOpened(t, body[:length:length])
			checkNotOpened(t, body[impl.BodySize-length:])
		}
		for _, further := range []int{-1, 0, 1, body[tagPlace], lastNumber, impl.Numbers} {
			checkNotOpened(t, append(slices.Clone(body), further))
			checkNotOpened(t, append([]int{further}, body...))
		}
		checkNotOpened(t, append(slices.Clone(body), body...))
	}
}

// These are bodies but for their size: the length, the letter, zeros and the right tag.
func TestTaggedBodiesOfAnotherLength(t *testing.T) {
	for size := 2; size <= impl.MaxList; size++ {
		if size == impl.BodySize {
			continue
		}
		for length := 0; length <= min(size-2, impl.MaxLetter+1); length++ {
			numbers := make([]int, size-1)
			numbers[0] = length
			copy(numbers[1:], listOf(length, 497, 131))
			checkNotOpened(t, tagged(t, numbers))
		}
	}
}

func TestBodiesWithAWrongLength(t *testing.T) {
	for _, letter := range fewLetters() {
		body := packed(t, letter)
		for length := impl.MaxLetter + 1; length < impl.Numbers; length++ {
			body[0] = length
			checkNotOpened(t, body)
			checkNotOpened(t, tagged(t, body[:tagPlace]))
		}
		for _, length := range append([]int{math.MaxInt - 1, math.MinInt + 1, 1<<32 + len(letter), len(letter) | math.MinInt}, wrongNumbers...) {
			body[0] = length
			for tag := -1; tag <= impl.Numbers; tag++ {
				body[tagPlace] = tag
				checkNotOpened(t, body)
			}
		}
	}
}

// The tag of a body with a number behind its letter is right, so that only this number is wrong.
func TestBodiesWithANumberBehindTheLetter(t *testing.T) {
	for _, letter := range fewLetters() {
		for place := 1 + len(letter); place < tagPlace; place++ {
			body := packed(t, letter)
			for number := 1; number < impl.Numbers; number++ {
				body[place] = number
				checkNotOpened(t, tagged(t, body[:tagPlace]))
			}
		}
	}
}

func TestBodiesWithAWrongTag(t *testing.T) {
	for _, letter := range fewLetters() {
		body := packed(t, letter)
		right := body[tagPlace]
		wrong := append([]int{right + impl.Numbers, right - impl.Numbers, right + 1<<32, right - 1<<32, right | math.MinInt}, farTags...)
		for key := 2; key <= lastElement; key++ {
			// A key that differs by Numbers has the same tags.
			if key != 1+impl.Numbers {
				wrong = append(wrong, tagInRange(t, key, body[:tagPlace]))
			}
		}
		for _, tag := range wrong {
			body[tagPlace] = tag
			checkNotOpened(t, body)
		}
	}
}

// No tag makes up for a number that is out of range, in the letter or behind it.
func TestBodiesWithNumbersOutOfRange(t *testing.T) {
	for _, letter := range fewLetters() {
		for place := range tagPlace {
			for _, wrong := range wrongNumbers {
				body := packed(t, letter)
				body[place] = wrong
				for tag := -1; tag <= impl.Numbers; tag++ {
					body[tagPlace] = tag
					checkNotOpened(t, body)
				}
			}
		}
	}
}

// onlyFirst keeps the slice of a result, for functions that take one slice and return one.
func onlyFirst(of func([]int) ([]int, bool)) func([]int) []int {
	return func(list []int) []int {
		result, _ := of(list)
		return result
	}
}

func TestLettersShareNoMemory(t *testing.T) {
	for _, letter := range append(someLetters(), wrongLetters()...) {
		checkApart(t, "LetterPack", letter, onlyFirst(impl.LetterPack))
		checkApart(t, "LetterOpen of a letter", letter, onlyFirst(impl.LetterOpen))
	}
	for _, letter := range someLetters() {
		body := packed(t, letter)
		checkApart(t, "LetterOpen", body, onlyFirst(impl.LetterOpen))
		for place := range body {
			changed := slices.Clone(body)
			changed[place]++
			checkApart(t, "LetterOpen of a changed body", changed, onlyFirst(impl.LetterOpen))
		}
	}
}

func TestPromise21LetterOpenUndoesLetterPack(t *testing.T) {
	for _, letter := range someLetters() {
		checkOpens(t, packed(t, letter), letter)
	}
}

func TestPromise21AllLettersOfTwoNumbers(t *testing.T) {
	for one := range impl.Numbers {
		for two := range impl.Numbers {
			letter := []int{one, two}
			checkOpens(t, packed(t, letter), letter)
		}
	}
}

func TestPromise22OneChangedNumberIsFound(t *testing.T) {
	for _, letter := range fewLetters() {
		body := packed(t, letter)
		for place := range body {
			changed := slices.Clone(body)
			for number := range impl.Numbers {
				changed[place] = number
				if number == body[place] {
					checkOpens(t, changed, letter)
				} else {
					checkNotOpened(t, changed)
				}
			}
			for _, number := range wrongNumbers {
				changed[place] = number
				checkNotOpened(t, changed)
			}
		}
	}
}

func TestPromise22SomeChangesOfManyLetters(t *testing.T) {
	for _, letter := range someLetters() {
		body := packed(t, letter)
		for place := range body {
			for _, step := range []int{1, 2, 495, lastNumber} {
				changed := slices.Clone(body)
				changed[place] = (changed[place] + step) % impl.Numbers
				checkNotOpened(t, changed)
			}
		}
	}
}

// All tags are tried with some numbers at all other places, so that what is opened is known without LetterPack: it is
// one body for each choice of numbers that is a length, a letter and zeros.
func TestPromise23LetterPackUndoesLetterOpen(t *testing.T) {
	some := []int{0, 1, lastNumber}
	for length := -1; length <= impl.BodySize+1; length++ {
		for choice := range 81 {
			body := []int{length, some[choice%3], some[choice/3%3], some[choice/9%3], some[choice/27], 0}
			want := 0
			if length >= 0 && length <= impl.MaxLetter && !slices.ContainsFunc(body[1+length:], isNotZero) {
				want = 1
			}
			if opened := openedOf(t, body); opened != want {
				t.Fatalf("%d of the bodies %v with any tag are opened, want %d", opened, body[:tagPlace], want)
			}
		}
	}
}

func isNotZero(n int) bool {
	return n != 0
}

// openedOf gives a body each tag, and returns with how many it is opened. It fails if the letter of one of them has
// another body.
func openedOf(t *testing.T, body []int) int {
	t.Helper()
	opened := 0
	for tag := -1; tag <= impl.Numbers; tag++ {
		body[tagPlace] = tag
		letter, ok := impl.LetterOpen(body)
		if !ok {
			continue
		}
		checkNumbers(t, "LetterPack of LetterOpen", packed(t, letter), body)
		opened++
	}
	return opened
}

func TestPromise24AllBodiesHaveOneSize(t *testing.T) {
	empty, ok := impl.LetterPack(nil)
	if !ok || len(empty) != impl.BodySize {
		t.Fatalf("LetterPack of the empty letter is %v and %v", empty, ok)
	}
	for _, letter := range someLetters() {
		if body, ok := impl.LetterPack(letter); !ok || len(body) != len(empty) {
			t.Fatalf("LetterPack(%v) is %v and %v, want %d numbers and true", letter, body, ok, len(empty))
		}
	}
}

func TestPromise24OneNumberTooMany(t *testing.T) {
	checkNumbers(t, "LetterPack of MaxLetter zeros", packed(t, make([]int, impl.MaxLetter)), []int{4, 0, 0, 0, 0, 610})
	checkNotPacked(t, make([]int, impl.MaxLetter+1))
}

func TestPromise25ZerosBetweenLetterAndTag(t *testing.T) {
	for _, letter := range someLetters() {
		body := packed(t, letter)
		if slices.ContainsFunc(body[1+len(letter):tagPlace], isNotZero) {
			t.Fatalf("LetterPack(%v) is %v, with a number behind the letter", letter, body)
		}
	}
}
