package ssa

import (
	"maps"
	"slices"
	"strings"

	"surety/api"
)

// none: the number of a name's version where it isn't there.
const none = -1

// converter goes through a body in the order in which versions are made.
type converter struct {
	made    map[string]int // how many versions of a name there are
	now     map[string]int // the version that a name has here, by its number; of those that are there
	ahead   map[string]int // of names that the block gave other versions: what they had ahead of it, or none
	loops   []names        // of the whiles to come
	reached bool           // does any way lead here?
}

// end is a block's: whether it is reached, and then the versions there of those names of which the block made any.
type end struct {
	reached  bool
	versions map[string]int
}

// stmt: what a block sets counts behind it only by Phis, or where no other way leads.
func (c *converter) stmt(s api.Stmt) Stmt {
	out := Stmt{Kind: strings.Clone(s.Kind), Name: strings.Clone(s.Name), Type: copies(s.Type, sameType), At: s.At}
	if s.Kind == "while" {
		out.Phis = c.head()
	}
	out.Exprs = copies(s.Exprs, c.expr)
	var first, second end
	out.Body, first = c.block(s.Body)
	out.Else, second = c.block(s.Else)
	switch s.Kind {
	case "let", "set":
		out.Name = c.create(s.Name)
	case "return":
		c.reached = false
	case "if":
		out.Phis = c.join(first, second)
	case "while":
		c.back(out.Phis, first)
	}
	return out
}

// expr: a name that isn't there, as in no typed body, stays what it is.
func (c *converter) expr(e api.Expr) api.Expr {
	return renamed(e, func(name string) string {
		number, there := c.now[name]
		if !there {
			return strings.Clone(name)
		}
		return numbered(name, number)
	})
}

// create: the next version of a name, which it has from here on.
func (c *converter) create(name string) string {
	number := c.made[name]
	c.made[name]++
	c.change(name, number)
	return numbered(name, number)
}

func (c *converter) change(name string, number int) {
	if _, changed := c.ahead[name]; !changed {
		if c.ahead == nil {
			c.ahead = map[string]int{}
		}
		c.ahead[name] = none
		if old, there := c.now[name]; there {
			c.ahead[name] = old
		}
	}
	c.now[name] = number
}

// block: its statements and its end. Behind it all is as it was ahead of it, so that another way can be gone from there.
func (c *converter) block(list []api.Stmt) ([]Stmt, end) {
	ahead, reached := c.ahead, c.reached
	c.ahead = nil
	out := copies(list, c.stmt)
	last := end{reached: c.reached, versions: c.leave()}
	c.ahead, c.reached = ahead, reached
	return out, last
}

// leave: takes back what a block changed, and answers what it came to: nothing of names of its own, and nothing where no way comes out of it.
func (c *converter) leave() map[string]int {
	versions := map[string]int{}
	for name, old := range c.ahead {
		if old == none {
			delete(c.now, name)
			continue
		}
		if c.reached {
			versions[name] = c.now[name]
		}
		c.now[name] = old
	}
	return versions
}

// head: a while's Phis as they are when it is come to from ahead of it.
func (c *converter) head() []Phi {
	var phis []Phi
	set := c.loops[0]
	c.loops = c.loops[1:]
	for _, name := range slices.Sorted(maps.Keys(set)) {
		if number, there := c.now[name]; there {
			phis = append(phis, Phi{Name: strings.Clone(name), Left: numbered(name, number), Out: c.create(name)})
		}
	}
	return phis
}

// back: what a while's Phis are when it is come to from its body's end.
func (c *converter) back(phis []Phi, body end) {
	for i, phi := range phis {
		if body.reached {
			phis[i].Right = numbered(phi.Name, c.at(body, phi.Name))
		}
	}
}

// at: the version that a name has at a block's end; that from ahead of it, if the block made none.
func (c *converter) at(block end, name string) int {
	number, changed := block.versions[name]
	if !changed {
		return c.now[name]
	}
	return number
}

// join: behind an if. What either block made differs from what the other one has, since each version is made once.
func (c *converter) join(left, right end) []Phi {
	c.reached = left.reached || right.reached
	if !left.reached || !right.reached {
		c.take(left)
		c.take(right)
		return nil
	}
	var phis []Phi
	for _, name := range either(left.versions, right.versions) {
		phi := Phi{Name: strings.Clone(name), Left: numbered(name, c.at(left, name)), Right: numbered(name, c.at(right, name))}
		phi.Out = c.create(name)
		phis = append(phis, phi)
	}
	return phis
}

// either: the names that one of two has, rising.
func either(a, b map[string]int) []string {
	list := slices.Collect(maps.Keys(a))
	for name := range b {
		if _, both := a[name]; !both {
			list = append(list, name)
		}
	}
	slices.Sort(list)
	return list
}

// take: what the only end that is reached has counts from here on.
func (c *converter) take(only end) {
	for name, number := range only.versions {
		c.change(name, number)
	}
}
