package ssa_test

import (
	"math/rand"
	"strconv"
	"strings"
)

// drawer draws texts of programs without faults, whose bodies are rich in ways: types are as texts.
type drawer struct {
	*rand.Rand
	result string // of the method; "none" where nothing may be returned
	params []known
}

// promising: a type of lists whose elements' type has a predicate, which names what no body has.
const promising = "int{v | v > 0}[]"

// known is a name that is there.
type known struct {
	name, typ string
	let       bool
}

func (d *drawer) once(times int) bool { return d.Intn(times) == 0 }

func oneOf[T any](d *drawer, list ...T) T { return list[d.Intn(len(list))] }

// drawn: a program of several bodies.
func drawn(r *rand.Rand) string {
	d := &drawer{Rand: r}
	text := "class A { final n: int; var m: int; var next: A?; var l: int[];\n"
	text += "new(k: int, b: bool) { this.n = k; this.m = k; this.next = null; this.l = list int(k, 1); " + d.body("none", known{"k", "int", false}, known{"b", "bool", false}) + "}\n"
	text += "def f(i: int, p: bool, v: int, o: A, s: int[]): int { " + d.body("int", known{"i", "int", false}, known{"p", "bool", false}, known{"v", "int", false}, known{"o", "A", false}, known{"s", "int[]", false}) + "return i; }\n"
	text += "def g(j: int): bool { " + d.body("bool", known{"j", "int", false}) + "return true; }\n"
	text += "def h(): void { " + d.body("void") + "}\n"
	return text + "}\nmain { " + d.body("none") + "}"
}

func (d *drawer) body(result string, params ...known) string {
	d.result, d.params = result, params
	text, _ := d.block(append([]known{}, params...), 3, 6)
	return text
}

// block: a text of statements, and whether any of them is a return; names of let are there up to its end.
func (d *drawer) block(there []known, deep, most int) (string, bool) {
	text, ended := "", false
	there = append([]known{}, there...)
	for range d.Intn(most + 1) {
		var one string
		if one = d.stmt(&there, deep); strings.HasPrefix(one, "return") {
			ended = true
		}
		text += one + " "
		if ended && !d.once(3) {
			break
		}
	}
	return text, ended
}

func (d *drawer) stmt(there *[]known, deep int) string {
	switch d.Intn(14) {
	case 0, 1, 2:
		if text := d.let(there); text != "" {
			return text
		}
	case 3, 4, 5, 6:
		if text := d.set(*there); text != "" {
			return text
		}
	case 7, 8:
		if deep > 0 {
			return d.choice(*there, deep)
		}
	case 9, 10:
		if deep > 0 {
			body, _ := d.block(*there, deep-1, 4)
			head := "while (" + d.expr("bool", 2, *there) + ")"
			for range d.Intn(3) {
				head += " invariant " + d.pred(2, *there)
			}
			return head + " { " + body + "}"
		}
	case 11, 12:
		if d.result != "none" && deep < oneOf(d, 2, 3, 4) {
			return d.end(*there)
		}
	case 13:
		return oneOf(d,
			"assert "+d.expr("bool", 2, *there)+";",
			d.expr("A", 1, *there)+".m = "+d.expr("int", 2, *there)+";",
			d.expr("int[]", 1, *there)+"["+d.expr("int", 1, *there)+"] = "+d.expr("int", 1, *there)+";",
			d.expr("A", 1, *there)+".h();")
	}
	return "print " + d.expr("int", 2, *there) + ";"
}

func (d *drawer) end(there []known) string {
	if d.result == "void" {
		return "return;"
	}
	return "return " + d.expr(d.result, 2, there) + ";"
}

func (d *drawer) choice(there []known, deep int) string {
	body, _ := d.block(there, deep-1, 3)
	if d.result != "none" && d.once(4) {
		body += d.set(there) + " " + d.end(there) + " "
	}
	text := "if (" + d.expr("bool", 2, there) + ") { " + body + "}"
	switch d.Intn(4) {
	case 0:
		return text
	case 1:
		return text + " else " + d.choice(there, deep-1)
	}
	other, _ := d.block(there, deep-1, 4)
	return text + " else { " + other + "}"
}

func (d *drawer) let(there *[]known) string {
	name := oneOf(d, "x", "y", "z", "w", "v", "xx", "X", "x1", "u")
	for _, k := range *there {
		if k.name == name {
			return ""
		}
	}
	typ := oneOf(d, "int", "int", "int", "bool", "A", "int[]", promising)
	written := ""
	if d.once(3) {
		written = ": " + typ
		if d.once(2) && typ == "int" {
			written += "{v | " + d.pred(1, append(d.params, known{"v", "int", false})) + " && v > 0}"
		}
	}
	text := "let " + name + written + " = " + d.expr(typ, 2, *there) + ";"
	*there = append(*there, known{name, typ, true})
	return text
}

func (d *drawer) set(there []known) string {
	var lets []known
	for _, k := range there {
		if k.let {
			lets = append(lets, k)
		}
	}
	if len(lets) == 0 {
		return ""
	}
	k := oneOf(d, lets...)
	return k.name + " = " + d.expr(k.typ, 2, there) + ";"
}

// names: of those there that have a type; of two alike ones the last one.
func names(there []known, typ string) []string {
	last := map[string]string{}
	for _, k := range there {
		last[k.name] = k.typ
	}
	var list []string
	for _, k := range there {
		if last[k.name] == typ && k.typ == typ {
			list = append(list, k.name)
		}
	}
	return list
}

// expr: a text in brackets, if it has parts.
func (d *drawer) expr(typ string, deep int, there []known) string {
	all := names(there, typ)
	if len(all) > 0 && (deep == 0 || d.once(2)) {
		return oneOf(d, all...)
	}
	part := func(typ string) string { return d.expr(typ, deep-1, there) }
	switch {
	case typ == "A" && (deep == 0 || d.once(2)):
		return "new A(1, true)"
	case typ == "A":
		return "new A(" + part("int") + ", " + part("bool") + ")"
	case typ == promising && (deep == 0 || d.once(2)):
		return "list int{v | v > 0}(2, 3)"
	case typ == promising:
		return "list int{v | v > 0}(" + part("int") + ", " + part("int") + ")"
	case typ == "int[]" && (deep == 0 || d.once(2)):
		return "list int(2, 3)"
	case typ == "int[]":
		return oneOf(d, part("A")+".l", "list int("+part("int")+", "+part("int")+")")
	case deep == 0 && typ == "bool":
		return oneOf(d, "true", "false")
	case deep == 0:
		return strconv.Itoa(d.Intn(9))
	case typ == "bool":
		return oneOf(d, "("+part("int")+" < "+part("int")+")", "("+part("bool")+" && "+part("bool")+")", "!"+part("bool"), part("A")+".g("+part("int")+")", "("+part("A")+" == "+part("A")+")")
	}
	return oneOf(d, "("+part("int")+" + "+part("int")+")", "("+part("int")+" - "+part("int")+")", "-"+part("int"), "read()",
		"len("+part("int[]")+")", part("int[]")+"["+part("int")+"]", "len("+part(promising)+")", part(promising)+"["+part("int")+"]", part("A")+".m", "("+part("int")+" / "+part("int")+")",
		part("A")+".f("+part("int")+", "+part("bool")+", "+part("int")+", "+part("A")+", "+part("int[]")+")")
}

// pred: a predicate in brackets.
func (d *drawer) pred(deep int, there []known) string {
	number := func() string {
		list := append(names(there, "int"), "1", "7")
		for _, name := range names(there, "int[]") {
			list = append(list, "len("+name+")")
		}
		for _, name := range names(there, "A") {
			list = append(list, name+".n")
		}
		return oneOf(d, list...)
	}
	if deep > 0 && d.once(2) {
		return "(" + d.pred(deep-1, there) + oneOf(d, " => ", " && ", " || ") + d.pred(deep-1, there) + ")"
	}
	return "(" + number() + oneOf(d, " < ", " == ", " >= ") + number() + " + " + number() + ")"
}
