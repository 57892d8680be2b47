package syntax_test

import (
	"math/rand"
	"reflect"
	"testing"

	"surety/api"
	"surety/syntax"
)

// drawn: a drawn program's tree with its places in the text, the text, and the first token's place of a part that lies too deep (-1: there is none).
func drawn(d *drawer) (p api.Program, text string, tooDeep int) {
	p = d.program()
	text, places := d.strewn()
	everyPlace(reflect.ValueOf(&p).Elem(), func(at reflect.Value) { at.SetInt(int64(places[at.Int()])) })
	if d.tooDeep < 0 {
		return p, text, -1
	}
	return p, text, places[d.tooDeep]
}

// P11.1 to P11.4: drawn programs are read as what was drawn, with all places. P11.5, P11.6: they are printed as the chapter says, and read again.
func TestDrawnPrograms(t *testing.T) {
	r := rand.New(rand.NewSource(1))
	for i := range 2000 {
		d := newDrawer(r, 10+i%300)
		p, text, tooDeep := drawn(d)
		if tooDeep >= 0 {
			wantFault(t, text, api.ErrNest, tooDeep)
			continue
		}
		wantTree(t, text, p)
		wantPrinted(t, text)
		if i%10 == 0 {
			wantNoBracketsMore(t, bare(t, text), syntax.Print(p))
		}
	}
}

// P11.4: drawn blocks in so many others that some of their parts lie too deep.
func TestDrawnDeep(t *testing.T) {
	r := rand.New(rand.NewSource(2))
	fine, deep := 0, 0
	for i := range 1500 {
		d := newDrawer(r, 10+i%100)
		d.ahead = 80 + i%20
		p, text, tooDeep := drawn(d)
		if tooDeep >= 0 {
			deep++
			wantFault(t, text, api.ErrNest, tooDeep)
			continue
		}
		fine++
		wantTree(t, text, p)
		wantPrinted(t, text)
	}
	if fine < 300 || deep < 300 {
		t.Errorf("%d drawn fine, %d too deep", fine, deep)
	}
}
