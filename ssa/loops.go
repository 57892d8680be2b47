package ssa

import "surety/api"

// names are a while's: those that its body sets.
type names map[string]int

// finder goes through a body ahead of the converter, since a while's Phis stand ahead of what its body sets.
type finder struct {
	loops []names        // of the whiles, as they begin one behind another
	open  []int          // the places of those that are under way, the outermost first
	home  map[string]int // in how many whiles a name's let stands: it isn't there ahead of these
}

// setInLoops: for each while the names that its body sets and that aren't first made within it.
func setInLoops(body []api.Stmt) []names {
	f := finder{home: map[string]int{}}
	f.block(body)
	return f.loops
}

func (f *finder) block(list []api.Stmt) {
	for _, s := range list {
		f.stmt(s)
	}
}

func (f *finder) stmt(s api.Stmt) {
	switch s.Kind {
	case "let":
		f.home[s.Name] = len(f.open)
	case "set":
		f.set(s.Name)
	case "while":
		f.open = append(f.open, len(f.loops))
		f.loops = append(f.loops, names{})
		f.block(s.Body)
		f.open = f.open[:len(f.open)-1]
		f.block(s.Else)
		return
	}
	f.block(s.Body)
	f.block(s.Else)
}

// set: from the innermost while outwards, up to one that has the name already: then those around it have it, too.
func (f *finder) set(name string) {
	for i := len(f.open) - 1; i >= f.home[name]; i-- {
		loop := f.loops[f.open[i]]
		if loop[name] > 0 {
			return
		}
		loop[name] = 1
	}
}
