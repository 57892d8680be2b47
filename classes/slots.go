package classes

import "strings"

// noClass stands in a table of methods where a class has no method.
const noClass = -1

// Slots: the signatures of all methods, in their order, each once.
func (t *Table) Slots() []string {
	var out []string
	for _, sig := range t.allSlots() {
		out = append(out, strings.Clone(sig))
	}
	return out
}

// Vtable: for each slot the place of the class whose method it is; -1: there is none.
func (t *Table) Vtable(class string) []int {
	var out []int
	c := t.find(class)
	for _, sig := range t.allSlots() {
		giver, there := t.giver(c, sig)
		if !there {
			giver = noClass
		}
		out = append(out, giver)
	}
	return out
}

// allSlots: reckoned when they are first asked for.
func (t *Table) allSlots() []string {
	t.once.Do(func() {
		var all []int
		for place := range t.list {
			all = append(all, place)
		}
		t.slots = t.signatures(all)
	})
	return t.slots
}
