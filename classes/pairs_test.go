package classes_test

import (
	"regexp"
	"strconv"
	"strings"
	"testing"

	"surety/api"
)

// slip is a place in a text of classes where something right or something wrong may stand.
type slip struct {
	step         int // of P12.2
	code         api.Errno
	slot         int // which of the text's places it is put into
	right, wrong string
}

// around has {n} where the slot n is filled in, @n; where the fault of the slip n is told, and $ at the end of each name.
const around = `interface I$ { def i(): int; {16} }
interface J$ { def j(): {17}; }
class {2} { }
class @0;@3;@4;@5;@6;@7;@8;@19;@20;T$ extends {3} implements {4}, {5} {
	{0}
	var a: int; var @9;{7}: int; var b: {8};
	@1;new(k: int, @11;{9}: int, q: {10} {1}) { }
	{11}
	def other(): T$ { }
	{12}
	def i(): int { }
	def @2;big({6}): int { }
	def @17;@18;m(k: int, @14;{13}: int, q: {14}): {15} { }
}
class P$ {18} { var p: int; def m(a: int, b: int, c: int): int { } def j(): int { } }
`

// slips: all faults of the chapter but that of 65 classes, in its order as they stand in that text.
func slips() []slip {
	return []slip{
		{1, api.ErrMany, 0, "", lines(65, "invariant #; ")},
		{1, api.ErrMany, 1, "", lines(65, ", #: int")},
		{1, api.ErrMany, 6, "", listed(65, "#: int")},
		{2, api.ErrTwice, 2, "T0$", "T$"},
		{3, api.ErrNoType, 3, "P$", "Nobody"},
		{3, api.ErrKind, 3, "P$", "I$"},
		{3, api.ErrNoType, 4, "I$", "Nobody"},
		{3, api.ErrKind, 5, "J$", "P$"},
		{4, api.ErrCycle, 18, "", "extends T$"},
		{5, api.ErrTwice, 7, "c", "p"},
		{5, api.ErrNoType, 8, "int", "@10;Nobody"},
		{5, api.ErrTwice, 9, "l", "k"},
		{5, api.ErrNoType, 10, "int", "@12;Nobody"},
		{5, api.ErrTwice, 11, "", "@13;new() { }"},
		{5, api.ErrTwice, 13, "l", "k"},
		{5, api.ErrNoType, 14, "int", "@15;Nobody"},
		{5, api.ErrNoType, 15, "int", "@16;Nobody"},
		{5, api.ErrTwice, 12, "", "def m(a: int, b: int, c: int): int { }"},
		{5, api.ErrOverride, 15, "int", "bool"},
		{6, api.ErrImplements, 16, "", "def missing(): int;"},
		{6, api.ErrOverride, 17, "int", "bool"},
	}
}

// filled: the text with these wrong ones in, the first ones where several have one slot, and the others right; names end so.
func filled(list []slip, end string, wrong ...int) string {
	texts := map[int]string{}
	for _, s := range list {
		texts[s.slot] = s.right
	}
	for i := len(wrong) - 1; i >= 0; i-- {
		texts[list[wrong[i]].slot] = list[wrong[i]].wrong
	}
	text := around
	for slot, piece := range texts {
		text = strings.ReplaceAll(text, "{"+strconv.Itoa(slot)+"}", piece)
	}
	return strings.ReplaceAll(text, "$", end)
}

var placeMark = regexp.MustCompile(`@\d+;`)

// only: the mark ^ at the place of this slip's fault, and no others.
func only(text string, told int) string {
	return placeMark.ReplaceAllString(strings.Replace(text, "@"+strconv.Itoa(told)+";", "^", 1), "")
}

// noSlip is told nowhere.
const noSlip = -1

// P12.2: each fault alone.
func TestFaultsAlone(t *testing.T) {
	list := slips()
	fine(t, only(filled(list, "1"), noSlip))
	for i, s := range list {
		wantMarked(t, s.code, only(filled(list, "1", i), i))
	}
}

// P12.2: each two faults of one class, and each with all that the chapter names later: the first is told.
func TestFaultsOfOneClass(t *testing.T) {
	list := slips()
	for i, s := range list {
		later := []int{i}
		for j := i + 1; j < len(list); j++ {
			later = append(later, j)
			wantMarked(t, s.code, only(filled(list, "1", i, j), i))
		}
		wantMarked(t, s.code, only(filled(list, "1", later...), i))
	}
}

// P12.2: each two faults of two classes: that of the earlier step is told, of one step that of the class ahead.
func TestFaultsOfTwoClasses(t *testing.T) {
	list := slips()
	for i, first := range list {
		for j, second := range list {
			ahead, behind := filled(list, "1", i), filled(list, "2", j)
			if first.step <= second.step {
				wantMarked(t, first.code, only(ahead, i)+only(behind, noSlip))
			} else {
				wantMarked(t, second.code, only(ahead, noSlip)+only(behind, j))
			}
		}
	}
}

// P12.2: 65 classes together with each other fault: of the first step the class ahead is told, else the 65th.
func TestFaultsAmongMany(t *testing.T) {
	list := slips()
	const around = 5 // so many classes each fault has
	for i, s := range list {
		fault := filled(list, "1", i)
		wantMarked(t, api.ErrMany, lines(64, "class # { } ")+"class ^X { } "+only(fault, noSlip))
		rest := lines(64-around, "class # { } ")
		if s.step == 1 {
			wantMarked(t, api.ErrMany, only(fault, i)+rest+"class X { }")
		} else {
			wantMarked(t, api.ErrMany, only(fault, noSlip)+rest+"class ^X { }")
		}
		wantMarked(t, s.code, only(fault, i)+rest)
	}
}
