package tests

import (
	"math"
	"runtime"
	"slices"
	"strings"
	"sync"
	"testing"

	"loop.example/mixrelay/impl"
)

// tableOf has a row for each sender, with a 1 for each receiver to which it may write.
func tableOf(rows ...string) [][]bool {
	var table [][]bool
	for _, text := range rows {
		row := make([]bool, len(text))
		for receiver := range text {
			row[receiver] = text[receiver] == '1'
		}
		table = append(table, row)
	}
	return table
}

// textOf has the rows of a table, for messages.
func textOf(table [][]bool) string {
	rows := []string{}
	for _, row := range table {
		text := ""
		for _, may := range row {
			text += map[bool]string{false: "0", true: "1"}[may]
		}
		rows = append(rows, text)
	}
	return "table (" + strings.Join(rows, " ") + ")"
}

func copyOfTable(table [][]bool) [][]bool {
	var other [][]bool
	for _, row := range table {
		other = append(other, slices.Clone(row))
	}
	return other
}

func sameTable(a, b [][]bool) bool {
	return slices.EqualFunc(a, b, slices.Equal[[]bool])
}

// tableWhere has a number of senders and as many receivers.
func tableWhere(size int, may func(sender, receiver int) bool) [][]bool {
	return oblongWhere(size, size, may)
}

func oblongWhere(senders, receivers int, may func(sender, receiver int) bool) [][]bool {
	table := make([][]bool, senders)
	for sender := range table {
		table[sender] = make([]bool, receivers)
		for receiver := range table[sender] {
			table[sender][receiver] = may(sender, receiver)
		}
	}
	return table
}

func anything(int, int) bool { return true }

func nothing(int, int) bool { return false }

func itsOwn(sender, receiver int) bool { return sender == receiver }

// allTables has all tables of a number of senders.
func allTables(size int) [][][]bool {
	var tables [][][]bool
	for bits := range 1 << (size * size) {
		tables = append(tables, tableWhere(size, func(sender, receiver int) bool {
			return bits>>(sender*size+receiver)&1 == 1
		}))
	}
	return tables
}

func withPermission(table [][]bool, sender, receiver int, may bool) [][]bool {
	other := copyOfTable(table)
	other[sender][receiver] = may
	return other
}

// onlyTo has a receiver as the only one of a sender.
func onlyTo(table [][]bool, sender, receiver int) [][]bool {
	return tableWhere(len(table), func(s, r int) bool {
		if s == sender {
			return r == receiver
		}
		return table[s][r]
	})
}

func exchangedTable(table [][]bool) [][]bool {
	return tableWhere(len(table), func(sender, receiver int) bool { return table[receiver][sender] })
}

// assignmentsOf has what the document calls assignments: the receivers of the senders, in order, chosen from all orders
// of receivers.
func assignmentsOf(table [][]bool) [][]int {
	var assignments [][]int
	for _, receivers := range permutations(listOf(len(table), 0, 1)) {
		forbidden := false
		for sender, receiver := range receivers {
			forbidden = forbidden || !table[sender][receiver]
		}
		if !forbidden {
			assignments = append(assignments, receivers)
		}
	}
	return assignments
}

// usesOf counts the assignments in which a sender writes to a receiver.
func usesOf(assignments [][]int, sender, receiver int) int {
	uses := 0
	for _, receivers := range assignments {
		if receivers[sender] == receiver {
			uses++
		}
	}
	return uses
}

// lowest divides both numbers by whatever divides both.
func lowest(f fraction) fraction {
	for divisor := f.den; divisor > 1; divisor-- {
		if f.num%divisor == 0 && f.den%divisor == 0 {
			f = fraction{f.num / divisor, f.den / divisor}
		}
	}
	return f
}

// chanceOf has the chance that the document asks for, as a part of assignments.
func chanceOf(assignments [][]int, sender, receiver int) fraction {
	if len(assignments) == 0 {
		return fraction{0, 0}
	}
	return lowest(fraction{usesOf(assignments, sender, receiver), len(assignments)})
}

func bestOf(assignments [][]int, sender, size int) int {
	best := -1
	for receiver := size - 1; receiver >= 0; receiver-- {
		uses := usesOf(assignments, sender, receiver)
		if uses > 0 && (best == -1 || uses >= usesOf(assignments, sender, best)) {
			best = receiver
		}
	}
	return best
}

func certainOf(assignments [][]int, size int) []int {
	var certain []int
	for sender := range size {
		different := map[int]bool{}
		for _, receivers := range assignments {
			different[receivers[sender]] = true
		}
		if len(different) == 1 {
			certain = append(certain, sender)
		}
	}
	return certain
}

// tablesWithout has tables in which a row, a column or one permission is missing, or all permissions are.
func tablesWithout(size int) [][][]bool {
	tables := [][][]bool{tableWhere(size, nothing)}
	for one := range size {
		tables = append(tables,
			tableWhere(size, func(sender, _ int) bool { return sender != one }),
			tableWhere(size, func(_, receiver int) bool { return receiver != one }))
		for two := range size {
			tables = append(tables, withPermission(tableWhere(size, anything), one, two, false))
		}
	}
	return tables
}

// tablesOfOrders has tables with one assignment, and with one permission more.
func tablesOfOrders(size int) [][][]bool {
	var tables [][][]bool
	for _, receivers := range permutations(listOf(size, 0, 1)) {
		tables = append(tables, tableWhere(size, func(sender, receiver int) bool { return receivers[sender] == receiver }))
	}
	for one := range size {
		for two := range size {
			tables = append(tables, withPermission(tableWhere(size, itsOwn), one, two, true))
		}
	}
	return tables
}

// tablesOfOneReceiver has tables in which two senders may write to the same one receiver only.
func tablesOfOneReceiver(size int) [][][]bool {
	var tables [][][]bool
	for one := range size {
		for other := range one {
			for only := range size {
				tables = append(tables, tableWhere(size, func(sender, receiver int) bool {
					return receiver == only || sender != one && sender != other
				}))
			}
		}
	}
	return tables
}

// specialTables has tables of one number of senders that follow a rule.
func specialTables(size int) [][][]bool {
	tables := [][][]bool{
		tableWhere(size, anything),
		tableWhere(size, func(sender, receiver int) bool { return sender != receiver }),
		tableWhere(size, func(sender, receiver int) bool { return sender <= receiver }),
		tableWhere(size, func(sender, receiver int) bool { return sender >= receiver }),
		tableWhere(size, func(sender, receiver int) bool { return sender < receiver }),
		tableWhere(size, func(sender, receiver int) bool { return receiver == sender || receiver == (sender+1)%size }),
		tableWhere(size, func(sender, receiver int) bool { return sender/2 == receiver/2 }),
		tableWhere(size, func(sender, receiver int) bool { return sender == 0 || receiver == 0 }),
		tableWhere(size, func(sender, receiver int) bool { return sender != size-1 || receiver == size-1 }),
		tableWhere(size, func(sender, receiver int) bool { return (sender+receiver)%2 == 0 }),
	}
	return slices.Concat(tables, tablesWithout(size), tablesOfOrders(size), tablesOfOneReceiver(size))
}

// chosenTable has fewer permissions the greater the number is.
func chosenTable(next func(int) int, size, rare int) [][]bool {
	return tableWhere(size, func(int, int) bool { return next(4) >= rare })
}

// someTables has all tables of up to three senders, and some of more.
func someTables() [][][]bool {
	tables := slices.Concat(allTables(1), allTables(2), allTables(3))
	next := chosen()
	for size := 4; size <= impl.MaxPlayers; size++ {
		tables = append(tables, specialTables(size)...)
		for round := range 300 {
			tables = append(tables, chosenTable(next, size, round%4))
		}
	}
	return tables
}

// fewTables has tables of all numbers of senders.
func fewTables() [][][]bool {
	var tables [][][]bool
	next := chosen()
	for size := 1; size <= impl.MaxPlayers; size++ {
		tables = append(tables, specialTables(size)[:10]...)
		for rare := range 4 {
			tables = append(tables, chosenTable(next, size, rare))
		}
	}
	return tables
}

// wrongPlayers has numbers of no sender and no receiver of a table, some of which are in range after a remainder or
// with their upper bits cut off.
func wrongPlayers(size int) []int {
	return []int{
		-1, -2, -size, -size - 1, size, size + 1, 2*size - 1, 2 * size, impl.MaxPlayers, impl.MaxPlayers + 1, 1 << 8, 1 << 32, 1<<32 + size - 1,
		-1 << 8, -1 << 32, -1<<32 + size - 1, math.MaxInt, math.MaxInt - size, math.MinInt, math.MinInt + size - 1,
	}
}

// wrongRows has rows in place of one of a table.
func wrongRows(size int) [][]bool {
	rows := [][]bool{nil, {}, make([]bool, size-1), make([]bool, size+1), slices.Repeat([]bool{true}, size-1), slices.Repeat([]bool{true}, size+1)}
	for _, length := range []int{impl.MaxPlayers, impl.MaxPlayers + 1, 2 * size, size + 256} {
		if length != size {
			rows = append(rows, slices.Repeat([]bool{true}, length))
		}
	}
	return rows
}

// wrongTables has tables of a wrong number of rows, or with a wrong row at each place.
func wrongTables() [][][]bool {
	tables := [][][]bool{
		nil, {}, {nil}, {{}}, {{true, true}}, {{true, false}}, {{true}, {true}}, {nil, nil}, {{true, true}, {true}}, {{true}, {true, true}},
		tableOf("11", "1111", "111"), tableOf("111", "11", "1111"), tableOf("1111", "111", "11"), tableOf("111", "111", ""),
	}
	for senders := range impl.MaxPlayers + 3 {
		for receivers := range impl.MaxPlayers + 3 {
			if senders != receivers || senders > impl.MaxPlayers {
				tables = append(tables, oblongWhere(senders, receivers, anything), oblongWhere(senders, receivers, itsOwn))
			}
		}
	}
	for _, size := range []int{10, 20, 21, 256 + 1, 256 + impl.MaxPlayers} {
		tables = append(tables, tableWhere(size, itsOwn), make([][]bool, size), oblongWhere(size, impl.MaxPlayers, anything))
	}
	for size := 1; size <= impl.MaxPlayers; size++ {
		for place := range size {
			for _, row := range wrongRows(size) {
				tables = append(tables, slices.Replace(tableWhere(size, anything), place, place+1, row), slices.Replace(tableWhere(size, itsOwn), place, place+1, row))
			}
		}
	}
	return tables
}

func chance(table [][]bool, sender, receiver int) fraction {
	num, den := impl.AssignChance(table, sender, receiver)
	return fraction{num, den}
}

func checkCount(t *testing.T, table [][]bool, want int) {
	t.Helper()
	if got := impl.AssignCount(table); got != want {
		t.Fatalf("AssignCount of the %s is %d, want %d", textOf(table), got, want)
	}
}

func checkChance(t *testing.T, table [][]bool, sender, receiver int, want fraction) {
	t.Helper()
	if got := chance(table, sender, receiver); got != want {
		t.Fatalf("AssignChance of the %s, %d to %d, is %v, want %v", textOf(table), sender, receiver, got, want)
	}
}

func checkBest(t *testing.T, table [][]bool, sender, want int) {
	t.Helper()
	if got := impl.AssignBest(table, sender); got != want {
		t.Fatalf("AssignBest of the %s, sender %d, is %d, want %d", textOf(table), sender, got, want)
	}
}

func checkCertain(t *testing.T, table [][]bool, want ...int) {
	t.Helper()
	checkNumbers(t, "AssignCertain of the "+textOf(table), impl.AssignCertain(table), want)
}

func checkTableValid(t *testing.T, table [][]bool, want bool) {
	t.Helper()
	if impl.AssignValid(table) != want {
		t.Fatalf("AssignValid of the %s is not %t", textOf(table), want)
	}
}

// checkTable compares all functions with what the document asks for of a valid table.
func checkTable(t *testing.T, table [][]bool) {
	t.Helper()
	assignments, size := assignmentsOf(table), len(table)
	checkTableValid(t, table, true)
	checkCount(t, table, len(assignments))
	checkCertain(t, table, certainOf(assignments, size)...)
	for sender := range table {
		checkBest(t, table, sender, bestOf(assignments, sender, size))
		for receiver := range table {
			checkChance(t, table, sender, receiver, chanceOf(assignments, sender, receiver))
		}
	}
}

// checkNoPlayer compares what is returned for a sender or a receiver that does not exist.
func checkNoPlayer(t *testing.T, table [][]bool, wrong int) {
	t.Helper()
	checkBest(t, table, wrong, -1)
	checkChance(t, table, wrong, wrong, fraction{0, 0})
	for player := range table {
		checkChance(t, table, wrong, player, fraction{0, 0})
		checkChance(t, table, player, wrong, fraction{0, 0})
	}
}

// checkNoTable compares all functions with what the document asks for of an invalid table.
func checkNoTable(t *testing.T, table [][]bool) {
	t.Helper()
	checkTableValid(t, table, false)
	checkCount(t, table, -1)
	checkCertain(t, table)
	for _, sender := range []int{-1, 0, 1, impl.MaxPlayers - 1, impl.MaxPlayers, len(table) - 1, len(table)} {
		checkBest(t, table, sender, -1)
		for _, receiver := range []int{-1, 0, 1, impl.MaxPlayers - 1, impl.MaxPlayers, len(table) - 1, len(table)} {
			checkChance(t, table, sender, receiver, fraction{0, 0})
		}
	}
}

func TestAssignConstants(t *testing.T) {
	if impl.MaxPlayers != 5 {
		t.Errorf("MaxPlayers is %d", impl.MaxPlayers)
	}
}

// writtenTable has what the document asks for, written out: the chances of each sender, its best receiver, and the
// senders that are certain.
type writtenTable struct {
	table   [][]bool
	count   int
	chances [][]fraction
	best    []int
	certain []int
}

func writtenTables() []writtenTable {
	none, never, third, half, most, ever := fraction{0, 0}, fraction{0, 1}, fraction{1, 3}, fraction{1, 2}, fraction{2, 3}, fraction{1, 1}
	return []writtenTable{
		{tableOf("1"), 1, [][]fraction{{ever}}, []int{0}, []int{0}},
		{tableOf("0"), 0, [][]fraction{{none}}, []int{-1}, nil},
		{tableOf("11", "11"), 2, [][]fraction{{half, half}, {half, half}}, []int{0, 0}, nil},
		{tableOf("10", "11"), 1, [][]fraction{{ever, never}, {never, ever}}, []int{0, 1}, []int{0, 1}},
		{tableOf("01", "11"), 1, [][]fraction{{never, ever}, {ever, never}}, []int{1, 0}, []int{0, 1}},
		{tableOf("10", "10"), 0, [][]fraction{{none, none}, {none, none}}, []int{-1, -1}, nil},
		{tableOf("11", "00"), 0, [][]fraction{{none, none}, {none, none}}, []int{-1, -1}, nil},
		{tableOf("110", "111", "011"), 3, [][]fraction{{most, third, never}, {third, third, third}, {never, third, most}}, []int{0, 0, 2}, nil},
		{tableOf("100", "011", "011"), 2, [][]fraction{{ever, never, never}, {never, half, half}, {never, half, half}}, []int{0, 1, 1}, []int{0}},
		{tableOf("111", "010", "111"), 2, [][]fraction{{half, never, half}, {never, ever, never}, {half, never, half}}, []int{0, 1, 0}, []int{1}},
		{tableOf("011", "101", "110"), 2, [][]fraction{{never, half, half}, {half, never, half}, {half, half, never}}, []int{1, 0, 0}, nil},
		{tableOf("001", "011", "111"), 1, [][]fraction{{never, never, ever}, {never, ever, never}, {ever, never, never}}, []int{2, 1, 0}, []int{0, 1, 2}},
		{tableOf("111", "110", "110"), 2, [][]fraction{{never, never, ever}, {half, half, never}, {half, half, never}}, []int{2, 0, 0}, []int{0}},
		{tableOf("0110", "1111", "0110", "0001"), 2, [][]fraction{{never, half, half, never}, {ever, never, never, never}, {never, half, half, never}, {never, never, never, ever}}, []int{1, 0, 1, 3}, []int{1, 3}},
		{
			tableOf("11111", "01111", "01111", "11111", "11111"), 72,
			[][]fraction{{third, {1, 6}, {1, 6}, {1, 6}, {1, 6}}, {never, {1, 4}, {1, 4}, {1, 4}, {1, 4}}, {never, {1, 4}, {1, 4}, {1, 4}, {1, 4}}, {third, {1, 6}, {1, 6}, {1, 6}, {1, 6}}, {third, {1, 6}, {1, 6}, {1, 6}, {1, 6}}},
			[]int{0, 1, 1, 0, 0}, nil,
		},
		{
			tableOf("01111", "10111", "11011", "11101", "11110"), 44,
			[][]fraction{{never, {1, 4}, {1, 4}, {1, 4}, {1, 4}}, {{1, 4}, never, {1, 4}, {1, 4}, {1, 4}}, {{1, 4}, {1, 4}, never, {1, 4}, {1, 4}}, {{1, 4}, {1, 4}, {1, 4}, never, {1, 4}}, {{1, 4}, {1, 4}, {1, 4}, {1, 4}, never}},
			[]int{1, 0, 0, 0, 0}, nil,
		},
		{
			tableOf("11000", "11100", "01110", "00111", "00011"), 8,
			[][]fraction{{{5, 8}, {3, 8}, never, never, never}, {{3, 8}, {3, 8}, {1, 4}, never, never}, {never, {1, 4}, half, {1, 4}, never}, {never, never, {1, 4}, {3, 8}, {3, 8}}, {never, never, never, {3, 8}, {5, 8}}},
			[]int{0, 0, 2, 3, 4}, nil,
		},
	}
}

func TestAssignValues(t *testing.T) {
	for _, w := range writtenTables() {
		checkTableValid(t, w.table, true)
		checkCount(t, w.table, w.count)
		checkCertain(t, w.table, w.certain...)
		for sender, chances := range w.chances {
			checkBest(t, w.table, sender, w.best[sender])
			for receiver, want := range chances {
				checkChance(t, w.table, sender, receiver, want)
			}
		}
	}
}

func TestAssignOfAllTablesOfUpToThreeSenders(t *testing.T) {
	for size := 1; size <= 3; size++ {
		for _, table := range allTables(size) {
			checkTable(t, table)
		}
	}
}

func TestAssignCountOfAllTablesOfFourSenders(t *testing.T) {
	for i, table := range allTables(4) {
		checkCount(t, table, len(assignmentsOf(table)))
		if i%61 == 0 {
			checkTable(t, table)
		}
	}
}

func TestAssignOfSpecialTables(t *testing.T) {
	for size := 1; size <= impl.MaxPlayers; size++ {
		for _, table := range specialTables(size) {
			checkTable(t, table)
		}
	}
}

func TestAssignOfManyTables(t *testing.T) {
	next := chosen()
	for round := range 2000 {
		checkTable(t, chosenTable(next, 4+round%2, round/2%4))
	}
}

// An empty slice and a missing one are the same row of no columns, so that neither is one of a valid table.
func TestAssignOfNoSenders(t *testing.T) {
	for _, table := range [][][]bool{nil, {}, {nil}, {{}}, make([][]bool, impl.MaxPlayers), make([][]bool, impl.MaxPlayers+1)} {
		checkNoTable(t, table)
	}
}

func TestAssignOfOneAndOfTooManySenders(t *testing.T) {
	for size := range 4 * impl.MaxPlayers {
		for _, may := range []func(int, int) bool{anything, nothing, itsOwn} {
			if size >= 1 && size <= impl.MaxPlayers {
				checkTable(t, tableWhere(size, may))
			} else {
				checkNoTable(t, tableWhere(size, may))
			}
		}
	}
}

func TestAssignOfInvalidTables(t *testing.T) {
	for _, table := range wrongTables() {
		checkNoTable(t, table)
		checkNoPlayer(t, table, len(table))
	}
}

func TestAssignOfPlayersThatDoNotExist(t *testing.T) {
	for _, table := range fewTables() {
		for _, wrong := range wrongPlayers(len(table)) {
			checkNoPlayer(t, table, wrong)
		}
		for player := -20; player < 40; player++ {
			if player < 0 || player >= len(table) {
				checkNoPlayer(t, table, player)
			}
		}
	}
}

// Where a sender may write to nobody, or nobody to a receiver, there is no assignment; the other chances do not exist
// either.
func TestAssignOfEmptyRowsAndColumns(t *testing.T) {
	for size := 1; size <= impl.MaxPlayers; size++ {
		for empty := range size {
			row := tableWhere(size, func(sender, _ int) bool { return sender != empty })
			for _, table := range [][][]bool{row, exchangedTable(row)} {
				checkCount(t, table, 0)
				checkCertain(t, table)
				for sender := range size {
					checkBest(t, table, sender, -1)
					for receiver := range size {
						checkChance(t, table, sender, receiver, fraction{0, 0})
					}
				}
			}
		}
	}
}

func TestAssignOfTwoSendersOfOneReceiver(t *testing.T) {
	for size := 2; size <= impl.MaxPlayers; size++ {
		for _, table := range tablesOfOneReceiver(size) {
			checkCount(t, table, 0)
			checkCount(t, exchangedTable(table), 0)
			checkCertain(t, table)
			checkBest(t, table, size-1, -1)
			checkChance(t, table, 0, 0, fraction{0, 0})
		}
	}
}

func TestPromise126AssignCountIsTheFactorial(t *testing.T) {
	for i, want := range []int{1, 2, 6, 24, 120} {
		checkCount(t, tableWhere(i+1, anything), want)
	}
}

func TestPromise127AssignCountOfOwnReceivers(t *testing.T) {
	for size := 1; size <= impl.MaxPlayers; size++ {
		checkCount(t, tableWhere(size, itsOwn), 1)
		checkCount(t, tableWhere(size, nothing), 0)
		for place := range size {
			checkCount(t, withPermission(tableWhere(size, itsOwn), place, place, false), 0)
			checkCount(t, withPermission(tableWhere(size, nothing), place, place, true), map[bool]int{true: 1}[size == 1])
		}
	}
}

func TestPromise127AssignCountOfAllOrders(t *testing.T) {
	for size := 1; size <= impl.MaxPlayers; size++ {
		for _, receivers := range permutations(listOf(size, 0, 1)) {
			checkCount(t, tableWhere(size, func(sender, receiver int) bool { return receivers[sender] == receiver }), 1)
		}
	}
}

func TestPromise128AssignCountOfExchangedTables(t *testing.T) {
	for _, table := range someTables() {
		checkCount(t, exchangedTable(table), impl.AssignCount(table))
	}
}

// Also the chances are the same, of the receiver and the sender.
func TestPromise128AssignChanceOfExchangedTables(t *testing.T) {
	for _, table := range fewTables() {
		for one := range table {
			for two := range table {
				checkChance(t, exchangedTable(table), two, one, chance(table, one, two))
			}
		}
	}
}

// The count is less by that of the assignments in which the sender writes to the receiver.
func TestPromise129AssignCountWithoutOnePermission(t *testing.T) {
	for _, table := range someTables() {
		count := impl.AssignCount(table)
		for sender := range table {
			for receiver := range table {
				without := impl.AssignCount(withPermission(table, sender, receiver, false))
				if without > count || without < 0 {
					t.Fatalf("AssignCount of the %s without %d to %d is %d, and %d with it", textOf(table), sender, receiver, without, count)
				}
				with := usesOf(assignmentsOf(table), sender, receiver)
				if without != count-with {
					t.Fatalf("AssignCount of the %s without %d to %d is %d, want %d", textOf(table), sender, receiver, without, count-with)
				}
			}
		}
	}
}

func TestPromise130AssignCountOverTheReceivers(t *testing.T) {
	for _, table := range someTables() {
		for sender, row := range table {
			sum := 0
			for receiver, may := range row {
				if may {
					sum += impl.AssignCount(onlyTo(table, sender, receiver))
				}
			}
			checkCount(t, table, sum)
		}
	}
}

func TestPromise131AssignChanceInLowestTerms(t *testing.T) {
	for _, table := range someTables() {
		for sender, row := range table {
			for receiver, may := range row {
				c := chance(table, sender, receiver)
				if c == (fraction{0, 0}) {
					continue
				}
				if c.num < 0 || c.num > c.den || c.den < 1 || c != lowest(c) || !may && c != (fraction{0, 1}) {
					t.Fatalf("AssignChance of the %s, %d to %d, is %v", textOf(table), sender, receiver, c)
				}
			}
		}
	}
}

// The permission may also be there, but in no assignment.
func TestPromise131AssignChanceInNoAssignment(t *testing.T) {
	for size := 2; size <= impl.MaxPlayers; size++ {
		for sender := range size {
			for receiver := range size {
				if sender != receiver {
					own := tableWhere(size, itsOwn)
					checkChance(t, own, sender, receiver, fraction{0, 1})
					checkChance(t, withPermission(own, sender, receiver, true), sender, receiver, fraction{0, 1})
				}
				without := withPermission(tableWhere(size, anything), sender, receiver, false)
				checkChance(t, without, sender, receiver, fraction{0, 1})
			}
		}
	}
}

func TestPromise132AssignChancesAddUpToOne(t *testing.T) {
	for _, table := range someTables() {
		for sender := range table {
			sum := fraction{0, 1}
			for receiver := range table {
				c := chance(table, sender, receiver)
				sum = fraction{sum.num*c.den + c.num*sum.den, sum.den * c.den}
			}
			if count := impl.AssignCount(table); count > 0 && (sum.den < 1 || sum.num != sum.den) || count == 0 && sum.den != 0 {
				t.Fatalf("the chances of the %s, sender %d, add up to %v", textOf(table), sender, sum)
			}
		}
	}
}

func TestPromise133AssignChanceOfFullTables(t *testing.T) {
	for size := 1; size <= impl.MaxPlayers; size++ {
		for sender := range size {
			for receiver := range size {
				checkChance(t, tableWhere(size, anything), sender, receiver, fraction{1, size})
			}
		}
	}
}

func TestPromise134AssignChanceWithoutAssignments(t *testing.T) {
	for _, table := range someTables() {
		without := impl.AssignCount(table) == 0
		for sender := range table {
			for receiver := range table {
				if c := chance(table, sender, receiver); (c == fraction{0, 0}) != without || (c.den == 0) != without {
					t.Fatalf("AssignChance of the %s, %d to %d, is %v", textOf(table), sender, receiver, c)
				}
			}
		}
	}
}

func TestPromise135AssignBestIsTheSmallest(t *testing.T) {
	for _, table := range someTables() {
		for sender := range table {
			best := impl.AssignBest(table, sender)
			if impl.AssignCount(table) == 0 {
				checkBest(t, table, sender, -1)
				continue
			}
			most := chance(table, sender, best)
			for receiver := range table {
				c := chance(table, sender, receiver)
				if less := c.num*most.den - most.num*c.den; less > 0 || less == 0 && receiver < best {
					t.Fatalf("AssignBest of the %s, sender %d, is %d with %v, but %d has %v", textOf(table), sender, best, most, receiver, c)
				}
			}
		}
	}
}

// Some receivers have the same greatest chance, the others have none.
func TestPromise135AssignBestOfEqualReceivers(t *testing.T) {
	for size := 2; size <= impl.MaxPlayers; size++ {
		for first := range size - 1 {
			for last := first + 1; last < size; last++ {
				table := tableWhere(size, func(sender, receiver int) bool {
					inside := receiver >= first && receiver <= last
					return inside == (sender >= first && sender <= last) && (inside || sender == receiver)
				})
				for sender := range size {
					checkBest(t, table, sender, map[bool]int{true: first, false: sender}[sender >= first && sender <= last])
				}
			}
		}
	}
}

func TestPromise136AssignBestHasItsPart(t *testing.T) {
	for _, table := range someTables() {
		if impl.AssignCount(table) == 0 {
			continue
		}
		for sender := range table {
			c := chance(table, sender, impl.AssignBest(table, sender))
			if c.den < 1 || c.num*len(table) < c.den {
				t.Fatalf("AssignChance of AssignBest of the %s, sender %d, is %v", textOf(table), sender, c)
			}
		}
	}
}

func TestPromise137AssignCertainHasTheChanceOne(t *testing.T) {
	for _, table := range someTables() {
		var want []int
		for sender := range table {
			for receiver := range table {
				if chance(table, sender, receiver) == (fraction{1, 1}) {
					want = append(want, sender)
				}
			}
		}
		checkCertain(t, table, want...)
	}
}

// The certain senders are any of them but all but one, which would leave the last one nothing to choose.
func TestPromise137AssignCertainOfAllChoices(t *testing.T) {
	for size := 1; size <= impl.MaxPlayers; size++ {
		for bits := range 1 << size {
			var certain, others []int
			for sender := range size {
				if bits>>sender&1 == 1 {
					certain = append(certain, sender)
				} else {
					others = append(others, sender)
				}
			}
			if len(others) == 1 {
				certain = listOf(size, 0, 1)
			}
			table := tableWhere(size, func(sender, receiver int) bool {
				return sender == receiver || slices.Contains(others, sender) && slices.Contains(others, receiver)
			})
			checkCertain(t, table, certain...)
			slices.Reverse(table)
			for i := range certain {
				certain[i] = size - 1 - certain[i]
			}
			slices.Sort(certain)
			checkCertain(t, table, certain...)
		}
	}
}

func TestPromise138AssignCertainOfOneOrNoAssignment(t *testing.T) {
	for _, table := range someTables() {
		switch impl.AssignCount(table) {
		case 0:
			checkCertain(t, table)
		case 1:
			checkCertain(t, table, listOf(len(table), 0, 1)...)
		}
	}
}

// In each table of these, one assignment is left, although the senders may write to several receivers.
func TestPromise138AssignCertainOfTheOnlyAssignment(t *testing.T) {
	for size := 1; size <= impl.MaxPlayers; size++ {
		for _, receivers := range permutations(listOf(size, 0, 1)) {
			table := tableWhere(size, func(sender, receiver int) bool { return receivers[sender] <= receiver })
			checkCount(t, table, 1)
			checkCertain(t, table, listOf(size, 0, 1)...)
			for sender, receiver := range receivers {
				checkBest(t, table, sender, receiver)
				checkChance(t, table, sender, receiver, fraction{1, 1})
			}
		}
	}
}

func TestPromise139AssignOfOneSender(t *testing.T) {
	may, mayNot := tableOf("1"), tableOf("0")
	checkCertain(t, may, 0)
	checkChance(t, may, 0, 0, fraction{1, 1})
	checkCount(t, may, 1)
	checkBest(t, may, 0, 0)
	checkCertain(t, mayNot)
	checkChance(t, mayNot, 0, 0, fraction{0, 0})
	checkCount(t, mayNot, 0)
	checkBest(t, mayNot, 0, -1)
}

// answersOf has what all functions return for a table.
func answersOf(table [][]bool) []int {
	answers := append([]int{impl.AssignCount(table)}, impl.AssignCertain(table)...)
	for sender := range table {
		answers = append(answers, impl.AssignBest(table, sender))
		for receiver := range table {
			c := chance(table, sender, receiver)
			answers = append(answers, c.num, c.den)
		}
	}
	return answers
}

func TestAssignAnswersTheSameAgain(t *testing.T) {
	for _, table := range fewTables() {
		want := answersOf(table)
		for range 20 {
			checkNumbers(t, "again what is returned for the "+textOf(table), answersOf(table), want)
		}
	}
}

// With one processor goroutines run in another order than with several.
func TestAssignAnswersTheSameOnOneProcessor(t *testing.T) {
	before := runtime.GOMAXPROCS(0)
	defer runtime.GOMAXPROCS(before)
	for _, table := range fewTables() {
		want := answersOf(table)
		for _, processors := range []int{1, 2, 16} {
			runtime.GOMAXPROCS(processors)
			checkNumbers(t, "what is returned for the "+textOf(table), answersOf(table), want)
			checkTable(t, table)
		}
		runtime.GOMAXPROCS(before)
	}
}

// Several callers have the same table; the race detector would tell of one that changes it, if only for a while.
func TestAssignOfOneTableByManyCallers(t *testing.T) {
	for _, table := range append(fewTables(), wrongTables()[:20]...) {
		want := answersOf(table)
		answers := make([][]int, 8)
		var callers sync.WaitGroup
		for i := range answers {
			callers.Add(1)
			go func() {
				defer callers.Done()
				answers[i] = answersOf(table)
			}()
		}
		callers.Wait()
		for _, got := range answers {
			checkNumbers(t, "for one of many callers what is returned for the "+textOf(table), got, want)
		}
	}
}

// The race detector would tell of a goroutine that reads the table when the call has returned.
func TestAssignTableMayChangeAfterwards(t *testing.T) {
	for _, table := range fewTables() {
		calls := []func(){
			func() { impl.AssignCount(table) },
			func() { impl.AssignChance(table, 0, len(table)-1) },
			func() { impl.AssignBest(table, len(table)-1) },
			func() { impl.AssignCertain(table) },
		}
		for _, call := range calls {
			call()
			for _, row := range table {
				slices.Reverse(row)
			}
			slices.Reverse(table)
			checkTable(t, table)
		}
	}
}

func TestAssignLeavesNoGoroutines(t *testing.T) {
	before := runtime.NumGoroutine()
	for _, table := range slices.Concat(fewTables(), wrongTables()) {
		answersOf(table)
		impl.AssignBest(table, len(table))
		impl.AssignChance(table, len(table), -1)
	}
	// A goroutine that is joined may still have to end.
	for range 1000000 {
		if runtime.NumGoroutine() <= before {
			return
		}
		runtime.Gosched()
	}
	t.Errorf("%d goroutines are left, and were %d before", runtime.NumGoroutine(), before)
}

// layOutTable has the rows of a table in one memory, each with the others behind it, and further rows behind the last
// one.
func layOutTable(table [][]bool) (laidOut [][]bool, memory []bool) {
	further := [][]bool{{true, false, true}, {}, {true, true, true, true, true}}
	memory = slices.Concat(slices.Concat(table...), slices.Concat(further...))
	at := 0
	for _, row := range append(copyOfTable(table), further...) {
		laidOut = append(laidOut, memory[at:at+len(row)])
		at += len(row)
	}
	return laidOut, memory
}

// checkTableApart fails if a function changes a table, what is behind its rows or behind the table, or if what
// AssignCertain returns shares memory with another result.
func checkTableApart(t *testing.T, table [][]bool) {
	t.Helper()
	laidOut, memory := layOutTable(table)
	rows, cells := slices.Clone(laidOut), slices.Clone(memory)
	argument := laidOut[:len(table)]
	want := answersOf(copyOfTable(table))
	first, second := impl.AssignCertain(argument), impl.AssignCertain(argument)
	kept := slices.Clone(second)
	for i := range first[:cap(first)] {
		first[:cap(first)][i] = -7
	}
	checkNumbers(t, "another result of AssignCertain of the "+textOf(table), second, kept)
	checkNumbers(t, "what is returned for the laid out "+textOf(table), answersOf(argument), want)
	impl.AssignValid(argument)
	for i, row := range laidOut {
		if len(row) != len(rows[i]) || cap(row) != cap(rows[i]) || len(row) > 0 && &row[0] != &rows[i][0] {
			t.Fatalf("row %d of the %s is another one", i, textOf(table))
		}
	}
	if !slices.Equal(memory, cells) {
		t.Fatalf("the memory of the %s was changed", textOf(table))
	}
}

func TestAssignSharesNoMemory(t *testing.T) {
	for _, table := range slices.Concat(fewTables(), specialTables(3), specialTables(impl.MaxPlayers), wrongTables()) {
		checkTableApart(t, table)
	}
}

// All rows of these tables are the same memory.
func TestAssignOfTablesWithTheSameRow(t *testing.T) {
	for size := 1; size <= impl.MaxPlayers; size++ {
		for bits := range 1 << size {
			row := make([]bool, size)
			for receiver := range row {
				row[receiver] = bits>>receiver&1 == 1
			}
			table := slices.Repeat([][]bool{row}, size)
			before := copyOfTable(table)
			checkTable(t, table)
			if !sameTable(table, before) {
				t.Fatalf("the %s was changed to the %s", textOf(before), textOf(table))
			}
		}
	}
}

// Earlier results stay as they are when later ones are changed.
func TestAssignCertainResultsStay(t *testing.T) {
	own := tableWhere(impl.MaxPlayers, itsOwn)
	first := impl.AssignCertain(own)
	second := append(impl.AssignCertain(own), 7)
	overwrite(second)
	checkNumbers(t, "the first result", first, []int{0, 1, 2, 3, 4})
	overwrite(first)
	checkCertain(t, own, 0, 1, 2, 3, 4)
}
