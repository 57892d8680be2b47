package typing_test

import (
	"regexp"
	"slices"
	"strings"
	"testing"

	"surety/api"
)

// around is a program with places {name|right}, where something wrong may stand instead, and @name; where a fault may be told. What is looked at last stands first, where the members' order is free.
const around = `interface I { }
interface J { }
interface K { def k(x: int{v | {k.param|v == 1}}): bool{v | {k.result|v}}; }
class @t;T extends S {
	def body(a: int, p: bool, r: R, bs: bool[], is: int[]): void {
		@let;let {let.name|y0}: {let.type|bool}{v | {let.pred|a > 0}} = {let.part|1} @let.sign;== 2;
		@bare;let {bare.name|y1} = r.@bare.call;{bare.method|one}({bare.part|1});
		let sb = true; let si = 1;
		@set;{set.name|sb} = {set.part|1} @set.sign;== 2;
		@field;{field.object|r}.{field.name|bo} = {field.part|1} @field.sign;== 2;
		@elem;{elem.list|bs}[1 @elem.place;{elem.place|+} {elem.place.part|1}] = {elem.part|1} @elem.sign;== 2;
		if (1 @if.sign;{if.sign|==} {if.part|1}) { print {if.body|1}; } else { print {if.else|1}; }
		while (1 @while.sign;{while.sign|==} {while.part|1})
			invariant 1 @inv1.sign;{inv1.sign|==} {inv1.part|1} invariant 1 @inv2.sign;{inv2.sign|==} {inv2.part|1} { print {while.body|1}; }
		assert 1 @assert.sign;{assert.sign|==} {assert.part|1};
		print 1 @print.sign;{print.sign|+} {print.part|1};
		{do|1};
		print {call.object|r}.@call;{call.name|two}({call.part|1}, null);
		print (@new;new {new.name|R}({new.part|1}{new.more|})).num;
		print len(@list;list {list.type|int}{v | {list.pred|v == v}}({list.count|1}, {list.part|1}));
		bs@index;[{index.part|1}] @index.sign;{index.sign|==} p;
		assert p @imp;{imp.sign|&&} {imp.part|p};
		while (true) invariant {pred.object|r}.@pred;{pred.name|fin} invariant 1 @pred.sign;{pred.sign|-} {pred.part|1} == 0 invariant {pred.call|true} { }
		assert !(r @same;== {same.part|r});
		@void;return {void|};
	}
	def @ends;ends(): int { print {ends.part|1}; if (true) { {ends.return|return 1;} } else { return 1; } }
	def gives(): {gives.result|int} { @gives;return 1 @gives.sign;{gives.sign|+} {gives.part|1}; }
	def types(a: bool{v | {param.elem|v}}[]{v | {param.list|v == null}}, b: int{v | {param.next|len(a) > v}}): bool{v | {result.elem|v}}[]{v | {result.list|v == a}} { print {types.body|1}; return null; }
	@ctor;new(k: int{v | {ctor.param|v == 1}}) {ctor.super|super(1, {super.part|true}{super.more|})} {
		print {ctor.part|1}; this.last = 1; @this;this.{this.name|x} = 1 @this.sign;{this.sign|+} {this.part|1}; {ctor.last|this.all = null;}
	}
	invariant 1 @inv.sign;{inv.sign|==} {inv.part|1};
	invariant {inv.next|true};
	final x: int;
	final all: bool{v | {all.elem|v}}[]{v | {all.list|v == null}};
	final last: int{v | {last|v == 1}};
}
class @w;W extends {w.super|Z} { {w.field|} def f(): void { print {w.part|1}; } }
class Z { }
class S { new(k: int, l: bool) { } }
class R { var num: int; var bo: bool; final fin: bool; new(k: int) { this.num = k; this.bo = true; this.fin = true; }
	def one(k: int): int { return k; } def nothing(k: int): void { } def two(k: int, l: R?): int { return k; } def amb(k: int, l: I?): int { return k; } def amb(k: int, l: J?): int { return k; } }
main { print {main|1}; @main;{main.return|} }`

// slip is something wrong in a place, and where it is told: at a mark of the program, or at its own ^.
type slip struct {
	code  api.Errno
	place string
	wrong string
	mark  string
}

// slips: faults in the chapter's order as they stand in that program.
func slips() []slip {
	return []slip{
		{api.ErrName, "k.param", "^nobody", ""},
		{api.ErrName, "k.result", "x == ^y", ""},
		{api.ErrName, "all.elem", "^nobody", ""},
		{api.ErrThis, "all.elem", "^this == null", ""},
		{api.ErrType, "all.list", "^null", ""},
		{api.ErrPred, "last", "1 ^/ v == 0", ""},
		{api.ErrName, "inv.part", "^nobody", ""},
		{api.ErrType, "inv.sign", "+", "inv.sign"},
		{api.ErrPred, "inv.next", "^read() == 1", ""},
		{api.ErrThis, "ctor.param", "^this == null", ""},
		{api.ErrName, "super.part", "^nobody", ""},
		{api.ErrNoMethod, "super.part", "1", "ctor"},
		{api.ErrNoMethod, "super.more", ", 1", "ctor"},
		{api.ErrNoMethod, "ctor.super", "", "ctor"},
		{api.ErrName, "ctor.part", "^nobody", ""},
		{api.ErrInit, "this.name", "nobody", "this"},
		{api.ErrThis, "this.part", "^this.x", ""},
		{api.ErrType, "this.sign", "==", "this.sign"},
		{api.ErrReturn, "ctor.last", "this.all = null; ^return;", ""},
		{api.ErrInit, "ctor.last", "this.all = null; ^this.all = null;", ""},
		{api.ErrInit, "ctor.last", "", "ctor"},
		{api.ErrTwice, "let.name", "a", "let"},
		{api.ErrNoType, "let.type", "^Nobody", ""},
		{api.ErrName, "let.pred", "^y0 > 0", ""},
		{api.ErrType, "let.pred", "^a", ""},
		{api.ErrName, "let.part", "^nobody", ""},
		{api.ErrType, "let.type", "int", "let.sign"},
		{api.ErrTwice, "bare.name", "p", "bare"},
		{api.ErrName, "bare.part", "^nobody", ""},
		{api.ErrType, "bare.method", "nothing", "bare.call"},
		{api.ErrName, "set.name", "nobody", "set"},
		{api.ErrFinal, "set.name", "p", "set"},
		{api.ErrName, "set.part", "^nobody", ""},
		{api.ErrType, "set.name", "si", "set.sign"},
		{api.ErrName, "field.object", "^nobody", ""},
		{api.ErrType, "field.object", "a", "field"},
		{api.ErrName, "field.name", "nobody", "field"},
		{api.ErrFinal, "field.name", "fin", "field"},
		{api.ErrName, "field.part", "^nobody", ""},
		{api.ErrType, "field.name", "num", "field.sign"},
		{api.ErrName, "elem.list", "^nobody", ""},
		{api.ErrType, "elem.list", "a", "elem"},
		{api.ErrName, "elem.place.part", "^nobody", ""},
		{api.ErrType, "elem.place", "==", "elem.place"},
		{api.ErrName, "elem.part", "^nobody", ""},
		{api.ErrType, "elem.list", "is", "elem.sign"},
		{api.ErrName, "if.part", "^nobody", ""},
		{api.ErrType, "if.sign", "+", "if.sign"},
		{api.ErrName, "if.body", "^nobody", ""},
		{api.ErrName, "if.else", "^nobody", ""},
		{api.ErrName, "while.part", "^nobody", ""},
		{api.ErrType, "while.sign", "+", "while.sign"},
		{api.ErrName, "inv1.part", "^nobody", ""},
		{api.ErrType, "inv1.sign", "+", "inv1.sign"},
		{api.ErrPred, "inv2.part", "^read()", ""},
		{api.ErrType, "inv2.sign", "+", "inv2.sign"},
		{api.ErrName, "while.body", "^nobody", ""},
		{api.ErrName, "assert.part", "^nobody", ""},
		{api.ErrType, "assert.sign", "+", "assert.sign"},
		{api.ErrName, "print.part", "^nobody", ""},
		{api.ErrType, "print.sign", "==", "print.sign"},
		{api.ErrName, "do", "^nobody", ""},
		{api.ErrName, "call.object", "^nobody", ""},
		{api.ErrType, "call.object", "a", "call"},
		{api.ErrName, "call.part", "^nobody", ""},
		{api.ErrNoMethod, "call.name", "three", "call"},
		{api.ErrAmbiguous, "call.name", "amb", "call"},
		{api.ErrNoType, "new.name", "Nobody", "new"},
		{api.ErrAbstract, "new.name", "I", "new"},
		{api.ErrName, "new.part", "^nobody", ""},
		{api.ErrNoMethod, "new.more", ", 1", "new"},
		{api.ErrNoType, "list.type", "^Nobody", ""},
		{api.ErrName, "list.pred", "^a == 1", ""},
		{api.ErrThis, "list.pred", "^this == null", ""},
		{api.ErrName, "list.count", "^nobody", ""},
		{api.ErrName, "list.part", "^nobody", ""},
		{api.ErrType, "list.count", "true", "list"},
		{api.ErrName, "index.part", "^nobody", ""},
		{api.ErrType, "index.part", "p", "index"},
		{api.ErrType, "index.sign", "+", "index.sign"},
		{api.ErrPred, "imp.sign", "=>", "imp"},
		{api.ErrName, "imp.part", "^nobody", ""},
		{api.ErrName, "pred.object", "^nobody", ""},
		{api.ErrType, "pred.object", "a", "pred"},
		{api.ErrName, "pred.name", "nobody", "pred"},
		{api.ErrPred, "pred.name", "bo", "pred"},
		{api.ErrPred, "pred.sign", "/", "pred.sign"},
		{api.ErrName, "pred.part", "^nobody", ""},
		{api.ErrPred, "pred.call", "^new Nobody(nobody) == 1", ""},
		{api.ErrName, "same.part", "^nobody", ""},
		{api.ErrType, "same.part", "1", "same"},
		{api.ErrType, "void", "nobody", "void"},
		{api.ErrName, "ends.part", "^nobody", ""},
		{api.ErrReturn, "ends.return", "", "ends"},
		{api.ErrType, "gives.result", "void", "gives"},
		{api.ErrName, "gives.part", "^nobody", ""},
		{api.ErrType, "gives.sign", "==", "gives.sign"},
		{api.ErrName, "param.elem", "^a == v", ""},
		{api.ErrName, "param.list", "v == ^a", ""},
		{api.ErrName, "param.next", "v > ^b", ""},
		{api.ErrName, "result.elem", "^a == null", ""},
		{api.ErrType, "result.list", "v ^== b", ""},
		{api.ErrName, "types.body", "^nobody", ""},
		{api.ErrInit, "w.field", "var n: int;", "w"},
		{api.ErrNoMethod, "w.super", "S", "w"},
		{api.ErrName, "w.part", "^nobody", ""},
		{api.ErrName, "main", "^nobody", ""},
		{api.ErrReturn, "main.return", "return nobody;", "main"},
	}
}

var (
	placeOf = regexp.MustCompile(`\{([a-z0-9.]+)\|([^{}|]*)\}`)
	markOf  = regexp.MustCompile(`@[a-z0-9.]+;`)
)

// filled: the program with these wrong ones in, the first ones where several have one place, and the others right; the mark ^ at the place of the first one's fault, and no others.
func filled(wrong ...slip) string {
	text := around
	if len(wrong) > 1 && strings.HasPrefix(wrong[0].place, "super.") { // what is wrong first stands in that place
		wrong = slices.DeleteFunc(slices.Clone(wrong), func(s slip) bool { return s.place == "ctor.super" })
	}
	for round := 0; round < 2; round++ { // a place may stand in another one
		text = placeOf.ReplaceAllStringFunc(text, func(place string) string {
			parts := placeOf.FindStringSubmatch(place)
			i := slices.IndexFunc(wrong, func(s slip) bool { return s.place == parts[1] })
			switch {
			case i < 0:
				return parts[2]
			case i > 0 || wrong[i].mark != "":
				return strings.ReplaceAll(wrong[i].wrong, "^", "")
			}
			return wrong[i].wrong
		})
	}
	if len(wrong) > 0 && wrong[0].mark != "" {
		text = strings.Replace(text, "@"+wrong[0].mark+";", "^", 1)
	}
	return markOf.ReplaceAllString(text, "")
}

// P13.2 to P13.6: each fault alone.
func TestFaultsAlone(t *testing.T) {
	fine(t, filled())
	for _, s := range slips() {
		wantMarked(t, s.code, filled(s))
	}
}

// P13.2 to P13.6: each two faults, and each with all that the chapter names later: the first is told.
func TestFaultsTogether(t *testing.T) {
	list := slips()
	for i, s := range list {
		for _, later := range list[i+1:] {
			wantMarked(t, s.code, filled(s, later))
		}
		wantMarked(t, s.code, filled(list[i:]...))
	}
}

// P13.2: class by class and then main, but classes.New's faults ahead of all.
func TestFaultsOfClassesInOrder(t *testing.T) {
	for _, s := range slips() {
		text := filled(s)
		plain, _ := marked(t, text)
		wantMarked(t, api.ErrInit, "class ^Front { var n: int; } "+plain)
		wantMarked(t, api.ErrType, "class Front { def f(): void { print ^true; } } "+plain)
		wantMarked(t, api.ErrTwice, "class Front { } "+strings.Replace(plain, "\nmain {", "\nclass ^Front { } main {", 1))
		if strings.HasPrefix(s.place, "main") {
			wantMarked(t, api.ErrInit, strings.Replace(plain, "\nmain {", "\nclass ^Back { var n: int; } main {", 1))
		} else {
			wantMarked(t, s.code, strings.Replace(text, "\nmain {", "\nclass Back { var n: int; } main {", 1))
		}
	}
}
