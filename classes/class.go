package classes

import "surety/api"

// class is a class or an interface of a table, and what is reckoned of it once.
type class struct {
	decl    api.Class
	sigs    []string         // of its methods, in their order
	fields  map[string]int   // the place of the first field of a name
	methods map[string][]int // the places of the methods of a signature
	above   []int            // the places of all that are above it, rising
	chain   []int            // its own place, that of the class that it extends, and so on up
	asked   []int            // whose methods Dispatch looks at, in that order
}

// newClass: without those that stand to others.
func newClass(decl api.Class) class {
	c := class{decl: decl, fields: map[string]int{}, methods: map[string][]int{}}
	for i, f := range decl.Fields {
		if _, there := c.fields[f.Name]; !there {
			c.fields[f.Name] = i
		}
	}
	for i, m := range decl.Meths {
		sig := Signature(m.Name, m.Params)
		c.sigs = append(c.sigs, sig)
		c.methods[sig] = append(c.methods[sig], i)
	}
	return c
}

// otherResult: has it a method of that signature with a result of another base? Where its faults aren't looked for yet, it may have several.
func (c class) otherResult(sig, base string) bool {
	for _, i := range c.methods[sig] {
		if Base(c.decl.Meths[i].Result) != base {
			return true
		}
	}
	return false
}
