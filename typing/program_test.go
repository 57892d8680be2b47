package typing_test

import (
	"testing"
)

// ordinary: a program with each sort of statement, expression and type, and no fault.
const ordinary = `interface I extends K { def f(a: int{v | v > 0}, b: bool[]?{v | len(v) > a}): A?; def g(): void; }
interface K { }
class A { final n: int{v | v > 0 && !(v == 7)}; var next: A?{v | v != this}; final all: A?{v | v != null}[]{v | len(v) > this.n}; invariant this.n > 0 => len(this.all) != -1;
	new(k: int, w: A?{v | v == null || v.n > k}) { let z: int{v | v > k} = k + 1; this.all = list A?{v | v != null}(k, w); if (k > 0) { print z; } this.next = w; this.n = k; } }
class B extends A implements I, K {
	final m: A?;
	new(a: int, c: A?{v | v != null}[]?{v | len(v) > a}) super(a, null) { this.m = c[a]; print len(list int{v | v > 2}[](3, null)); }
	invariant this.m != null || this.n < 3;
	invariant true;
	def g(): void { return; }
	def f(a: int, b: bool[]?): A? {
		let x: int{v | v > 2}[][]?{v | len(v) > a && this.n > a} = list int{v | v > 2}[](3, null);
		let y = a * (2 + a) % 5 - a / 2;
		if (y < 3 || b == null) { y = 4; let u = 3; print u; } else if (y >= 9) { this.next = new A(y, null); let u = true; assert u && !u; } else { x[y][0] = -y; }
		while (y <= 10) invariant y >= 0 invariant this.n > y => a == 3 { y = y + 1; this.g(); }
		assert !(this.m == this.all[1]); print len(x);
		let v = this.f(a, b); v = this.m; print x[0][read()];
		return this.f(this.n, b).all[x[1][2]].next;
	}
	def f(a: A, b: bool[]): bool { if (this == null) { return b[0]; } else { if (b[1] != (null == null)) { return false; } else { return true; } } }
	def h(x: I, a: A?, k: K): int { let b: K = new B(1, null); b = this; let z = x; z = x; return this.h(this, null, x) + 1; }
}
main { let b = new B(2, list A?{v | v != null}(3, new A(1, null))); let i: I? = b; while (true) { let c = i.f(1, null); if (b.f(c, list bool(2, c == null))) { b.next = c; } } }`

// P13.1 to P13.7.
func TestOrdinary(t *testing.T) {
	fine(t, ordinary)
}
