package syntax_test

import (
	"strings"
	"unicode"

	"surety/api"
	"surety/lex"
)

// The chapter's grammar once more, for a recogniser that makes no choices: it goes all ways at once (Earley's), and so tells the first token with which no program goes on. Parts are written with capitals, tokens as they stand, ~ is between choices. Name and Number are the tokens of that sort; pred{ is a { behind which v and | stand, { is any other one.
const grammar = `
Program: Items main Block
Items: ~ Items class Name Super Above { Members } ~ Items interface Name Wider { Heads }
Super: ~ extends Name
Above: ~ implements Names
Wider: ~ extends Names
Names: Name ~ Names , Name
Members: ~ Members Member
Member: final Name : Type ; ~ var Name : Type ; ~ invariant Expr ; ~ new Params Up Block ~ Head Block
Up: ~ super ( Args )
Heads: ~ Heads Head ;
Head: def Name Params : void ~ def Name Params : Type
Params: ( ) ~ ( Several )
Several: Param ~ Several , Param
Param: Name : Type
Type: Plain Pred ~ Type [ ] Null Pred
Plain: int ~ bool ~ Name Null
Null: ~ ?
Pred: ~ pred{ v | Expr }
Block: { Stmts } ~ pred{ Stmts }
Stmts: ~ Stmts Stmt
Stmt: let Name = Expr ; ~ let Name : Type = Expr ; ~ If ~ while ( Expr ) Invs Block ~ return ; ~ return Expr ; ~ assert Expr ; ~ print Expr ; ~ Expr ; ~ Target = Expr ;
If: if ( Expr ) Block ~ if ( Expr ) Block else If ~ if ( Expr ) Block else Block
Invs: ~ Invs invariant Expr
Target: Name ~ Behind . Name ~ Behind [ Expr ] ~ ( Target )
Expr: Or ~ Or => Expr
Or: And ~ Or || And
And: Compared ~ And && Compared
Compared: Sum ~ Sum == Sum ~ Sum != Sum ~ Sum < Sum ~ Sum <= Sum ~ Sum > Sum ~ Sum >= Sum
Sum: Product ~ Sum + Product ~ Sum - Product
Product: Operand ~ Product * Operand ~ Product / Operand ~ Product % Operand
Operand: - Operand ~ ! Operand ~ Behind
Behind: Primary ~ Behind . Name ~ Behind . Name ( Args ) ~ Behind [ Expr ]
Primary: Number ~ true ~ false ~ null ~ this ~ Name ~ new Name ( Args ) ~ list Type ( Expr , Expr ) ~ len ( Expr ) ~ read ( ) ~ ( Expr )
Args: ~ Exprs
Exprs: Expr ~ Exprs , Expr
`

// rule is one way to make a part.
type rule struct {
	part string
	made []string
}

type recogniser struct {
	rules  []rule
	byPart map[string][]int
	empty  map[string]bool // parts that may be nothing
}

func newRecogniser() *recogniser {
	g := &recogniser{byPart: map[string][]int{}, empty: map[string]bool{}}
	for line := range strings.Lines(strings.TrimSpace(grammar)) {
		part, ways, _ := strings.Cut(line, ":")
		for _, way := range strings.Split(ways, "~") {
			made := strings.Fields(way)
			g.byPart[part] = append(g.byPart[part], len(g.rules))
			g.rules = append(g.rules, rule{part: part, made: made})
			g.empty[part] = g.empty[part] || len(made) == 0
		}
	}
	return g
}

// item: so many parts of a rule are there, from that token on.
type item struct {
	rule, dot, from int
}

// itemSet: all ways in which the tokens up to one place may be the beginning of a program.
type itemSet struct {
	list []item
	seen map[item]bool
}

func (s *itemSet) add(i item) {
	if !s.seen[i] {
		s.seen[i] = true
		s.list = append(s.list, i)
	}
}

// chart: the sets at the places from the first on.
type chart struct {
	g    *recogniser
	sets []*itemSet
}

func (g *recogniser) begin() *chart {
	c := &chart{g: g, sets: []*itemSet{{seen: map[item]bool{}}}}
	for _, at := range g.byPart["Program"] {
		c.sets[0].add(item{rule: at})
	}
	c.close()
	return c
}

// upTo: the chart of so many tokens; it shares its sets with c, which are never changed again.
func (c *chart) upTo(tokens int) *chart {
	return &chart{g: c.g, sets: c.sets[: tokens+1 : tokens+1]}
}

// close: the last set gets all that follows from what it has.
func (c *chart) close() {
	here := len(c.sets) - 1
	set := c.sets[here]
	for at := 0; at < len(set.list); at++ {
		i := set.list[at]
		made := c.g.rules[i.rule].made
		if i.dot == len(made) {
			c.complete(set, i)
			continue
		}
		for _, way := range c.g.byPart[made[i.dot]] {
			set.add(item{rule: way, from: here})
		}
		if c.g.empty[made[i.dot]] {
			set.add(item{rule: i.rule, dot: i.dot + 1, from: i.from})
		}
	}
}

func (c *chart) complete(set *itemSet, done item) {
	part := c.g.rules[done.rule].part
	for _, i := range c.sets[done.from].list {
		if made := c.g.rules[i.rule].made; i.dot < len(made) && made[i.dot] == part {
			set.add(item{rule: i.rule, dot: i.dot + 1, from: i.from})
		}
	}
}

// goOn: with one token more; false, if no program goes on so.
func (c *chart) goOn(tokens []api.Token, at int) bool {
	next := &itemSet{seen: map[item]bool{}}
	for _, i := range c.sets[len(c.sets)-1].list {
		if made := c.g.rules[i.rule].made; i.dot < len(made) && stands(made[i.dot], tokens[at:]) {
			next.add(item{rule: i.rule, dot: i.dot + 1, from: i.from})
		}
	}
	if len(next.list) == 0 {
		return false
	}
	c.sets = append(c.sets, next)
	c.close()
	return true
}

// whole: are the tokens up to here a program?
func (c *chart) whole() bool {
	set := c.sets[len(c.sets)-1]
	for _, at := range c.g.byPart["Program"] {
		if set.seen[item{rule: at, dot: len(c.g.rules[at].made)}] {
			return true
		}
	}
	return false
}

// stands: is the first of these tokens the one that the grammar names?
func stands(named string, tokens []api.Token) bool {
	text := tokens[0].Text
	pred := text == "{" && len(tokens) > 2 && tokens[1].Text == "v" && tokens[2].Text == "|"
	switch {
	case named == "Name":
		return lex.IsName(text)
	case named == "Number":
		return tokens[0].Kind == api.Number
	case unicode.IsUpper(rune(named[0])):
		return false
	case named == "pred{":
		return pred
	case named == "{":
		return text == "{" && !pred
	}
	return named == text
}

// reckon: the fault that tokens behind those that the chart has lead to; none, if they are a program. Faults of parts that lie too deep aren't known to it.
func (c *chart) reckon(tokens []api.Token, size int) api.Fault {
	for at := len(c.sets) - 1; at < len(tokens); at++ {
		if !c.goOn(tokens, at) {
			return api.Fault{Code: api.ErrSyntax, At: tokens[at].At}
		}
	}
	if !c.whole() {
		return api.Fault{Code: api.ErrSyntax, At: size}
	}
	return api.Fault{}
}
