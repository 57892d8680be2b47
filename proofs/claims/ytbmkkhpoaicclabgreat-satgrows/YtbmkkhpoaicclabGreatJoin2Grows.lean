/- Joined: SatU, SatQ, SatO, SatP: words and contracts; no statement of the seat is proved here. -/
import Derived.Test.YtbmkkhpoaicclabGreatJoin1Grows
import Derived.BigQuiet
import Derived.Deep.QuietTactic
import Derived.Deep.LoopGhost
namespace Go.Proofs.YtbmkkhpoaicclabGreat
open Go.RowKit
set_option linter.unusedVariables false
namespace Sat
open Euf (OL App)
theorem rows_V (d:Dt) (a:Key→Value) (x:Nat→Int):∀j,dom d j→j≠kVal→rows { d with V:=x } a j=rows d a j
  | (0,i),hd,hne=>absurd (show ((0,i):Key)=kVal by obtain⟨-,h0⟩:_∧i=0:=hd;rw[h0]) hne
  | (1,_),_,_=>rfl
  | (2,_),_,_=>rfl
  | (3,_),_,_=>rfl
  | (4,_),_,_=>rfl
  | (5,_),_,_=>rfl
  | (6,_),_,_=>rfl
  | (7,_),_,_=>rfl
  | (8,_),_,_=>rfl
  | (9,_),_,_=>rfl
  | (10,_),_,_=>rfl
  | (11,_),_,_=>rfl
  | (12,_),_,_=>rfl
  | (13,_),_,_=>rfl
  | (14,_),_,_=>rfl
  | (n+15,_),hd,_=>by obtain⟨h0,-⟩:n+15<12∧_:=hd;omega
theorem rows_F (d:Dt) (a:Key→Value) (x:Nat→Fc):∀j,dom d j→j≠kFac→rows { d with F:=x } a j=rows d a j
  | (0,_),_,_=>rfl
  | (1,_),_,_=>rfl
  | (2,i),hd,hne=>absurd (show ((2,i):Key)=kFac by obtain⟨-,h0⟩:_∧i=0:=hd;rw[h0]) hne
  | (3,_),_,_=>rfl
  | (4,_),_,_=>rfl
  | (5,_),_,_=>rfl
  | (6,_),_,_=>rfl
  | (7,_),_,_=>rfl
  | (8,_),_,_=>rfl
  | (9,_),_,_=>rfl
  | (10,_),_,_=>rfl
  | (11,_),_,_=>rfl
  | (12,_),_,_=>rfl
  | (13,_),_,_=>rfl
  | (14,_),_,_=>rfl
  | (n+15,_),hd,_=>by obtain⟨h0,-⟩:n+15<12∧_:=hd;omega
theorem rows_at (d:Dt) (a:Key→Value) (x:Nat→Nat):∀j,dom d j→j≠kAtv→rows { d with at_:=x } a j=rows d a j
  | (0,_),_,_=>rfl
  | (1,_),_,_=>rfl
  | (2,_),_,_=>rfl
  | (3,_),_,_=>rfl
  | (4,_),_,_=>rfl
  | (5,_),_,_=>rfl
  | (6,i),hd,hne=>absurd (show ((6,i):Key)=kAtv by obtain⟨-,h0⟩:_∧i=0:=hd;rw[h0]) hne
  | (7,_),_,_=>rfl
  | (8,_),_,_=>rfl
  | (9,_),_,_=>rfl
  | (10,_),_,_=>rfl
  | (11,_),_,_=>rfl
  | (12,_),_,_=>rfl
  | (13,_),_,_=>rfl
  | (14,_),_,_=>rfl
  | (n+15,_),hd,_=>by obtain⟨h0,-⟩:n+15<12∧_:=hd;omega
theorem rows_bz (d:Dt) (a:Key→Value) (x:Nat→Int):∀j,dom d j→j≠kBus→rows { d with bz:=x } a j=rows d a j
  | (0,_),_,_=>rfl
  | (1,_),_,_=>rfl
  | (2,_),_,_=>rfl
  | (3,_),_,_=>rfl
  | (4,_),_,_=>rfl
  | (5,_),_,_=>rfl
  | (6,_),_,_=>rfl
  | (7,i),hd,hne=>absurd (show ((7,i):Key)=kBus by obtain⟨-,h0⟩:_∧i=0:=hd;rw[h0]) hne
  | (8,_),_,_=>rfl
  | (9,_),_,_=>rfl
  | (10,_),_,_=>rfl
  | (11,_),_,_=>rfl
  | (12,_),_,_=>rfl
  | (13,_),_,_=>rfl
  | (14,_),_,_=>rfl
  | (n+15,_),hd,_=>by obtain⟨h0,-⟩:n+15<12∧_:=hd;omega
theorem rows_T (d:Dt) (a:Key→Value) (x:List Nat) (v:Value):∀j,dom d j→j≠kTra→rows { d with T:=x } (updK a kTra v) j=rows d a j
  | (0,_),_,_=>rfl
  | (1,_),_,_=>rfl
  | (2,_),_,_=>rfl
  | (3,i),hd,hne=>absurd (show ((3,i):Key)=kTra by obtain⟨-,h0⟩:_∧i=0:=hd;rw[h0]) hne
  | (4,_),_,_=>rfl
  | (5,_),_,_=>rfl
  | (6,_),_,_=>rfl
  | (7,_),_,_=>rfl
  | (8,_),_,_=>rfl
  | (9,_),_,_=>rfl
  | (10,_),_,_=>rfl
  | (11,_),_,_=>rfl
  | (12,_),_,_=>rfl
  | (13,_),_,_=>rfl
  | (14,_),_,_=>rfl
  | (n+15,_),hd,_=>by obtain⟨h0,-⟩:n+15<12∧_:=hd;omega
theorem rows_S (d:Dt) (a:Key→Value) (x:List Nat) (v:Value):∀j,dom d j→j≠kSta→rows { d with S:=x } (updK a kSta v) j=rows d a j
  | (0,_),_,_=>rfl
  | (1,_),_,_=>rfl
  | (2,_),_,_=>rfl
  | (3,_),_,_=>rfl
  | (4,i),hd,hne=>absurd (show ((4,i):Key)=kSta by obtain⟨-,h0⟩:_∧i=0:=hd;rw[h0]) hne
  | (5,_),_,_=>rfl
  | (6,_),_,_=>rfl
  | (7,_),_,_=>rfl
  | (8,_),_,_=>rfl
  | (9,_),_,_=>rfl
  | (10,_),_,_=>rfl
  | (11,_),_,_=>rfl
  | (12,_),_,_=>rfl
  | (13,_),_,_=>rfl
  | (14,_),_,_=>rfl
  | (n+15,_),hd,_=>by obtain⟨h0,-⟩:n+15<12∧_:=hd;omega
theorem rows_hp (d:Dt) (a:Key→Value) (x:List Nat) (v:Value):∀j,dom d j→j≠kHea→rows { d with hp:=x } (updK a kHea v) j=rows d a j
  | (0,_),_,_=>rfl
  | (1,_),_,_=>rfl
  | (2,_),_,_=>rfl
  | (3,_),_,_=>rfl
  | (4,_),_,_=>rfl
  | (5,i),hd,hne=>absurd (show ((5,i):Key)=kHea by obtain⟨-,h0⟩:_∧i=0:=hd;rw[h0]) hne
  | (6,_),_,_=>rfl
  | (7,_),_,_=>rfl
  | (8,_),_,_=>rfl
  | (9,_),_,_=>rfl
  | (10,_),_,_=>rfl
  | (11,_),_,_=>rfl
  | (12,_),_,_=>rfl
  | (13,_),_,_=>rfl
  | (14,_),_,_=>rfl
  | (n+15,_),hd,_=>by obtain⟨h0,-⟩:n+15<12∧_:=hd;omega
theorem rows_mks (d:Dt) (a:Key→Value) (x:List Nat) (v:Value):∀j,dom d j→j≠kMar→rows { d with mks:=x } (updK a kMar v) j=rows d a j
  | (0,_),_,_=>rfl
  | (1,_),_,_=>rfl
  | (2,_),_,_=>rfl
  | (3,_),_,_=>rfl
  | (4,_),_,_=>rfl
  | (5,_),_,_=>rfl
  | (6,_),_,_=>rfl
  | (7,_),_,_=>rfl
  | (8,i),hd,hne=>absurd (show ((8,i):Key)=kMar by obtain⟨-,h0⟩:_∧i=0:=hd;rw[h0]) hne
  | (9,_),_,_=>rfl
  | (10,_),_,_=>rfl
  | (11,_),_,_=>rfl
  | (12,_),_,_=>rfl
  | (13,_),_,_=>rfl
  | (14,_),_,_=>rfl
  | (n+15,_),hd,_=>by obtain⟨h0,-⟩:n+15<12∧_:=hd;omega
theorem rows_Q (d:Dt) (a:Key→Value) (x:List Nat) (v:Value):∀j,dom d j→j≠kWai→rows { d with Q:=x } (updK a kWai v) j=rows d a j
  | (0,_),_,_=>rfl
  | (1,_),_,_=>rfl
  | (2,_),_,_=>rfl
  | (3,_),_,_=>rfl
  | (4,_),_,_=>rfl
  | (5,_),_,_=>rfl
  | (6,_),_,_=>rfl
  | (7,_),_,_=>rfl
  | (8,_),_,_=>rfl
  | (9,i),hd,hne=>absurd (show ((9,i):Key)=kWai by obtain⟨-,h0⟩:_∧i=0:=hd;rw[h0]) hne
  | (10,_),_,_=>rfl
  | (11,_),_,_=>rfl
  | (12,_),_,_=>rfl
  | (13,_),_,_=>rfl
  | (14,_),_,_=>rfl
  | (n+15,_),hd,_=>by obtain⟨h0,-⟩:n+15<12∧_:=hd;omega
theorem rows_mo (d:Dt) (a:Key→Value) (x:List Bool) (v:Value):∀j,dom d j→j≠kMod→rows { d with mo:=x } (updK a kMod v) j=rows d a j
  | (0,_),_,_=>rfl
  | (1,_),_,_=>rfl
  | (2,_),_,_=>rfl
  | (3,_),_,_=>rfl
  | (4,_),_,_=>rfl
  | (5,_),_,_=>rfl
  | (6,_),_,_=>rfl
  | (7,_),_,_=>rfl
  | (8,_),_,_=>rfl
  | (9,_),_,_=>rfl
  | (10,i),hd,hne=>absurd (show ((10,i):Key)=kMod by obtain⟨-,h0⟩:_∧i=0:=hd;rw[h0]) hne
  | (11,_),_,_=>rfl
  | (12,_),_,_=>rfl
  | (13,_),_,_=>rfl
  | (14,_),_,_=>rfl
  | (n+15,_),hd,_=>by obtain⟨h0,-⟩:n+15<12∧_:=hd;omega
theorem rows_hp0 (d:Dt) (a:Key→Value) (x:List Nat):∀j,dom d j→j≠kHea→rows { d with hp:=x } a j=rows d a j
  | (0,_),_,_=>rfl
  | (1,_),_,_=>rfl
  | (2,_),_,_=>rfl
  | (3,_),_,_=>rfl
  | (4,_),_,_=>rfl
  | (5,i),hd,hne=>absurd (show ((5,i):Key)=kHea by obtain⟨-,h0⟩:_∧i=0:=hd;rw[h0]) hne
  | (6,_),_,_=>rfl
  | (7,_),_,_=>rfl
  | (8,_),_,_=>rfl
  | (9,_),_,_=>rfl
  | (10,_),_,_=>rfl
  | (11,_),_,_=>rfl
  | (12,_),_,_=>rfl
  | (13,_),_,_=>rfl
  | (14,_),_,_=>rfl
  | (n+15,_),hd,_=>by obtain⟨h0,-⟩:n+15<12∧_:=hd;omega
section
variable {w w' w1:World} {g:Nat} {d:Dt} {a:Key→Value}
theorem SW.at_ (h:SW w g d a) {k:Key} (hk:dom d k) {i:Nat} (hi:i<(rows d a k).n):∃b cap,a k=.slice (some ⟨b,0,none⟩) (rows d a k).n cap∧b<w.heap.size∧(rows d a k).n≤cap∧cap≤maxLen∧(∀j,j<(rows d a k).sz→w.cell? ⟨b,i*(rows d a k).sz+j,none⟩=((rows d a k).f i)[j]?)∧∀o,w.frozen? ⟨b,o,none⟩=false:=by
 have h0:=h.ol hk;obtain⟨b,cap,hv,h1,h2⟩:=h0.open i hi;rw[hv]at h0;exact⟨b,cap,hv,h0.lt rfl,h1,h2,fun j hj=>h0.cell hi hj,fun o=>h0.frozen o⟩
theorem SW.len (h:SW w g d a) {k:Key} (hk:dom d k):∃q cap,a k=.slice q (rows d a k).n cap∧(rows d a k).n≤cap∧cap≤maxLen∧(∀p,q=some p→p.off=0∧p.spot=none):=by
 obtain⟨q,cap,h1,h2,h3,-,h5⟩:=(h.ol hk).shape;exact⟨q,cap,h1,h2,h3,h5⟩
theorem SW.added_ (h:SW w g d a) (x:Nat):SW (w.setCell ⟨g,1,none⟩ (.int .i64 (x:Nat))) g { d with added:=x } a∧Mo g d a w { d with added:=x } a (w.setCell ⟨g,1,none⟩ (.int .i64 (x:Nat))) :=
  ⟨h.num 1 _ rfl (fun _ _=>rfl) rfl,Mo.num h 1 _ rfl⟩
theorem SW.clash_ (h:SW w g d a) (x:Int):SW (w.setCell ⟨g,4,none⟩ (.int .i64 x)) g { d with clash:=x } a∧Mo g d a w { d with clash:=x } a (w.setCell ⟨g,4,none⟩ (.int .i64 x)) :=
  ⟨h.num 4 _ rfl (fun _ _=>rfl) rfl,Mo.num h 4 _ rfl⟩
theorem SW.refuted_ (h:SW w g d a) (x:Bool):SW (w.setCell ⟨g,5,none⟩ (.bool x)) g { d with refuted:=x } a∧Mo g d a w { d with refuted:=x } a (w.setCell ⟨g,5,none⟩ (.bool x)) :=
  ⟨h.num 5 _ rfl (fun _ _=>rfl) rfl,Mo.num h 5 _ rfl⟩
theorem SW.head_ (h:SW w g d a) (x:Nat):SW (w.setCell ⟨g,11,none⟩ (.int .i64 (x:Nat))) g { d with head:=x } a∧Mo g d a w { d with head:=x } a (w.setCell ⟨g,11,none⟩ (.int .i64 (x:Nat))) :=
  ⟨h.num 11 _ rfl (fun _ _=>rfl) rfl,Mo.num h 11 _ rfl⟩
theorem SW.wt_ (h:SW w g d a) (x:Int):SW (w.setCell ⟨g,15,none⟩ (.int .i64 x)) g { d with wt:=x } a∧Mo g d a w { d with wt:=x } a (w.setCell ⟨g,15,none⟩ (.int .i64 x)) :=
  ⟨h.num 15 _ rfl (fun _ _=>rfl) rfl,Mo.num h 15 _ rfl⟩
theorem SW.steps_ (h:SW w g d a) (x:Int):SW (w.setCell ⟨g,17,none⟩ (.int .i64 x)) g { d with steps:=x } a∧Mo g d a w { d with steps:=x } a (w.setCell ⟨g,17,none⟩ (.int .i64 x)) :=
  ⟨h.num 17 _ rfl (fun _ _=>rfl) rfl,Mo.num h 17 _ rfl⟩
theorem SW.setV (h:SW w g d a) {b cap l:Nat} (hv:a kVal=.slice (some ⟨b,0,none⟩) (2*(d.nv+1)) cap) (hl:l<2*(d.nv+1)) (x:Int):SW (w.setCell ⟨b,l,none⟩ (.int .i8 x)) g { d with V:=upd d.V l x } a∧Mo g d a w { d with V:=upd d.V l x } a (w.setCell ⟨b,l,none⟩ (.int .i8 x)):=by
 have h1:=h.set (d':={ d with V:=upd d.V l x }) kVal (by exact⟨by decide,rfl⟩) (b:=b) (cap:=cap) hv (i:=l) (j:=0) hl Nat.one_pos (.int .i8 x) rfl (rows_V d a _) rfl (by show [Value.int .i8 (upd d.V l x l)]=_;rw[upd_same];rfl) (fun m _ hm=>by show [Value.int .i8 (upd d.V l x m)]=[Value.int .i8 (d.V m)];rw[upd_other _ _ hm]) rfl
 have e1:l*(rows d a kVal).sz+0=l:=by show l*1+0=l;omega
 rw[e1]at h1;exact⟨h1,Mo.set h (k:=kVal) (by exact⟨by decide,rfl⟩) (by rw[hv];rfl) l _ rfl⟩
theorem SW.setF (h:SW w g d a) {b cap v:Nat} (hv:a kFac=.slice (some ⟨b,0,none⟩) (d.nv+1) cap) (hl:v<d.nv+1) (j:Nat) (hj:j<6) (z:Value) (f:Fc) (hf:facC (upd d.F v f) v=(facC d.F v).set j z):SW (w.setCell ⟨b,v*6+j,none⟩ z) g { d with F:=upd d.F v f } a∧Mo g d a w { d with F:=upd d.F v f } a (w.setCell ⟨b,v*6+j,none⟩ z):=by
 have h1:=h.set (d':={ d with F:=upd d.F v f }) kFac (by exact⟨by decide,rfl⟩) (b:=b) (cap:=cap) hv (i:=v) (j:=j) hl hj z rfl (rows_F d a _) rfl hf (fun m _ hm=>by show facC (upd d.F v f) m=facC d.F m;unfold facC;rw[upd_other _ _ hm]) rfl
 exact⟨h1,Mo.set h (k:=kFac) (by exact⟨by decide,rfl⟩) (by rw[hv];rfl) _ _ rfl⟩
theorem SW.setAt (h:SW w g d a) {b cap v:Nat} (hv:a kAtv=.slice (some ⟨b,0,none⟩) (d.nv+1) cap) (hl:v<d.nv+1) (x:Nat):SW (w.setCell ⟨b,v,none⟩ (.int .i64 (x:Nat))) g { d with at_:=upd d.at_ v x } a∧Mo g d a w { d with at_:=upd d.at_ v x } a (w.setCell ⟨b,v,none⟩ (.int .i64 (x:Nat))):=by
 have h1:=h.set (d':={ d with at_:=upd d.at_ v x }) kAtv (by exact⟨by decide,rfl⟩) (b:=b) (cap:=cap) hv (i:=v) (j:=0) hl Nat.one_pos (.int .i64 (x:Nat)) rfl (rows_at d a _) rfl (by show [Value.int .i64 ((upd d.at_ v x v:Nat):Int)]=_;rw[upd_same];rfl) (fun m _ hm=>by show [Value.int .i64 ((upd d.at_ v x m:Nat):Int)]=[Value.int .i64 ((d.at_ m:Nat):Int)];rw[upd_other _ _ hm]) rfl
 have e1:v*(rows d a kAtv).sz+0=v:=by show v*1+0=v;omega
 rw[e1]at h1;exact⟨h1,Mo.set h (k:=kAtv) (by exact⟨by decide,rfl⟩) (by rw[hv];rfl) v _ rfl⟩
theorem SW.setBz (h:SW w g d a) {b cap v:Nat} (hv:a kBus=.slice (some ⟨b,0,none⟩) (d.nv+1) cap) (hl:v<d.nv+1) (x:Int):SW (w.setCell ⟨b,v,none⟩ (.int .i64 x)) g { d with bz:=upd d.bz v x } a∧Mo g d a w { d with bz:=upd d.bz v x } a (w.setCell ⟨b,v,none⟩ (.int .i64 x)):=by
 have h1:=h.set (d':={ d with bz:=upd d.bz v x }) kBus (by exact⟨by decide,rfl⟩) (b:=b) (cap:=cap) hv (i:=v) (j:=0) hl Nat.one_pos (.int .i64 x) rfl (rows_bz d a _) rfl (by show [Value.int .i64 (upd d.bz v x v)]=_;rw[upd_same];rfl) (fun m _ hm=>by show [Value.int .i64 (upd d.bz v x m)]=[Value.int .i64 (d.bz m)];rw[upd_other _ _ hm]) rfl
 have e1:v*(rows d a kBus).sz+0=v:=by show v*1+0=v;omega
 rw[e1]at h1;exact⟨h1,Mo.set h (k:=kBus) (by exact⟨by decide,rfl⟩) (by rw[hv];rfl) v _ rfl⟩
theorem i64C_set (l:List Nat) (i x:Nat) (hi:i<l.length):i64C (l.set i x) i=[.int .i64 (x:Nat)]:=by simp[i64C,hi]
theorem i64C_other (l:List Nat) (i x m:Nat) (hm:m≠i):i64C (l.set i x) m=i64C l m:=by simp[i64C,List.getElem?_set_ne (Ne.symm hm)]
theorem i32C_set (l:List Nat) (i x:Nat) (hi:i<l.length):i32C (l.set i x) i=[.int .i32 (x:Nat)]:=by simp[i32C,hi]
theorem i32C_other (l:List Nat) (i x m:Nat) (hm:m≠i):i32C (l.set i x) m=i32C l m:=by simp[i32C,List.getElem?_set_ne (Ne.symm hm)]
theorem SW.setHp (h:SW w g d a) {b cap i:Nat} (hv:a kHea=.slice (some ⟨b,0,none⟩) d.hp.length cap) (hl:i<d.hp.length) (x:Nat):SW (w.setCell ⟨b,i,none⟩ (.int .i64 (x:Nat))) g { d with hp:=d.hp.set i x } a∧Mo g d a w { d with hp:=d.hp.set i x } a (w.setCell ⟨b,i,none⟩ (.int .i64 (x:Nat))):=by
 have h1:=h.set (d':={ d with hp:=d.hp.set i x }) kHea (by exact⟨by decide,rfl⟩) (b:=b) (cap:=cap) hv (i:=i) (j:=0) hl Nat.one_pos (.int .i64 (x:Nat)) rfl (rows_hp0 d a _) (by show Rw.mk _ _ _ _ _=Rw.mk _ _ _ _ _;simp[rows]) (i64C_set _ _ _ hl) (fun m _ hm=>i64C_other _ _ _ _ hm) rfl
 have e1:i*(rows d a kHea).sz+0=i:=by show i*1+0=i;omega
 rw[e1]at h1;exact⟨h1,Mo.set h (k:=kHea) (by exact⟨by decide,rfl⟩) (by rw[hv];rfl) i _ rfl⟩
theorem SW.push_T (h:SW w g d a) {v':Value} {x:Nat} (hap:App (a kTra) v' w w1) (hol:OL 1 106 w1 v' (d.T.length+1) (i32C (d.T++[x]))):SW (w1.setCell ⟨g,9,none⟩ v') g { d with T:=d.T++[x] } (updK a kTra v')∧Mo g d a w { d with T:=d.T++[x] } (updK a kTra v') (w1.setCell ⟨g,9,none⟩ v'):=by
 have hown:∀b,v'.ownBlock=some b→(a kTra).ownBlock=some b∨w.heap.size≤b:=fun b hb=>by
  rcases hap.at_ with e|⟨b',e3,e4⟩
  · exact Or.inl (e ▸ hb)
  · rw[e3]at hb;injection hb with hb;exact Or.inr (by omega)
 refine⟨h.put kTra (by exact⟨by decide,rfl⟩) 9 v' hap.size hown (fun b hb hn=>hap.other b hb hn) rfl (rows_T d a _ v') ?_ rfl,Mo.put h kTra (by exact⟨by decide,rfl⟩) (fun h0=>h0) 9 v' ((Mv.refl _ w).app hap (fun b hb=>Or.inl hb)) hown rfl⟩
 show OL 1 106 w1 (updK a kTra v' kTra) (d.T++[x]).length (i32C (d.T++[x]))
 rw[updK_same,List.length_append];exact hol
theorem SW.pushX_T (h:SW w g d a) {v':Value} {x:Nat} (hap:App (a kTra) v' w w1) (hol:OL 1 106 w1 v' (d.T.length+1) (i32C (d.T++[x]))):(w1.cell? ⟨g,9,none⟩=some (a kTra)∧w1.frozen? ⟨g,9,none⟩=false∧g<w1.heap.size)∧(SW (w1.setCell ⟨g,9,none⟩ v') g { d with T:=d.T++[x] } (updK a kTra v')∧Mo g d a w { d with T:=d.T++[x] } (updK a kTra v') (w1.setCell ⟨g,9,none⟩ v'))∧(w1.setCell ⟨g,9,none⟩ v').cell? ⟨g,9,none⟩=some v':=by
 have hN:(a kTra).ownBlock≠some g:=h.ne (k:=kTra) (by exact⟨by decide,rfl⟩)
 have hb:=hap.other g h.lt hN;obtain⟨s1,m1⟩:=h.push_T hap hol;exact⟨⟨(World.cell?_of_block (a:=⟨g,9,none⟩) hb).trans (h.cell 9),frozen_of_row w1 g 9 _ 78 (hb.trans h.blk),Nat.lt_of_lt_of_le h.lt hap.size⟩,⟨s1,m1⟩,(s1.cell 9).trans (congrArg some (updK_same a kTra v'))⟩
theorem SW.cut_T (h:SW w g d a) {b cap:Nat} (hv:a kTra=.slice (some ⟨b,0,none⟩) d.T.length cap) (n:Nat) (hn:n≤d.T.length):SW (w.setCell ⟨g,9,none⟩ (.slice (some ⟨b,0,none⟩) n cap)) g { d with T:=d.T.take n } (updK a kTra (.slice (some ⟨b,0,none⟩) n cap))∧Mo g d a w { d with T:=d.T.take n } (updK a kTra (.slice (some ⟨b,0,none⟩) n cap)) (w.setCell ⟨g,9,none⟩ (.slice (some ⟨b,0,none⟩) n cap)):=by
 have hown:∀b',(Value.slice (some ⟨b,0,none⟩) n cap).ownBlock=some b'→(a kTra).ownBlock=some b'∨w.heap.size≤b':=fun b' hb=>Or.inl (by rw[hv];exact hb)
 refine⟨h.put kTra (by exact⟨by decide,rfl⟩) 9 _ (Nat.le_refl _) hown (fun b hb hn=>rfl) rfl (rows_T d a _ _) ?_ rfl,Mo.put h kTra (by exact⟨by decide,rfl⟩) (fun h0=>h0) 9 _ (Mv.refl _ w) hown rfl⟩
 show OL 1 106 w (updK a kTra _ kTra) (d.T.take n).length (i32C (d.T.take n))
 rw[updK_same,List.length_take,Nat.min_eq_left hn];have h0:=h.ol (k:=kTra) (by exact⟨by decide,rfl⟩)
 rw[hv]at h0;exact (Euf.OL.take h0 n hn).congr (fun i hi=>by show i32C (d.T.take n) i=i32C d.T i;simp[i32C,hi])
theorem SW.push_S (h:SW w g d a) {v':Value} {x:Nat} (hap:App (a kSta) v' w w1) (hol:OL 1 3 w1 v' (d.S.length+1) (i64C (d.S++[x]))):SW (w1.setCell ⟨g,10,none⟩ v') g { d with S:=d.S++[x] } (updK a kSta v')∧Mo g d a w { d with S:=d.S++[x] } (updK a kSta v') (w1.setCell ⟨g,10,none⟩ v'):=by
 have hown:∀b,v'.ownBlock=some b→(a kSta).ownBlock=some b∨w.heap.size≤b:=fun b hb=>by
  rcases hap.at_ with e|⟨b',e3,e4⟩
  · exact Or.inl (e ▸ hb)
  · rw[e3]at hb;injection hb with hb;exact Or.inr (by omega)
 refine⟨h.put kSta (by exact⟨by decide,rfl⟩) 10 v' hap.size hown (fun b hb hn=>hap.other b hb hn) rfl (rows_S d a _ v') ?_ rfl,Mo.put h kSta (by exact⟨by decide,rfl⟩) (fun h0=>h0) 10 v' ((Mv.refl _ w).app hap (fun b hb=>Or.inl hb)) hown rfl⟩
 show OL 1 3 w1 (updK a kSta v' kSta) (d.S++[x]).length (i64C (d.S++[x]))
 rw[updK_same,List.length_append];exact hol
theorem SW.pushX_S (h:SW w g d a) {v':Value} {x:Nat} (hap:App (a kSta) v' w w1) (hol:OL 1 3 w1 v' (d.S.length+1) (i64C (d.S++[x]))):(w1.cell? ⟨g,10,none⟩=some (a kSta)∧w1.frozen? ⟨g,10,none⟩=false∧g<w1.heap.size)∧(SW (w1.setCell ⟨g,10,none⟩ v') g { d with S:=d.S++[x] } (updK a kSta v')∧Mo g d a w { d with S:=d.S++[x] } (updK a kSta v') (w1.setCell ⟨g,10,none⟩ v'))∧(w1.setCell ⟨g,10,none⟩ v').cell? ⟨g,10,none⟩=some v':=by
 have hN:(a kSta).ownBlock≠some g:=h.ne (k:=kSta) (by exact⟨by decide,rfl⟩)
 have hb:=hap.other g h.lt hN;obtain⟨s1,m1⟩:=h.push_S hap hol;exact⟨⟨(World.cell?_of_block (a:=⟨g,10,none⟩) hb).trans (h.cell 10),frozen_of_row w1 g 10 _ 78 (hb.trans h.blk),Nat.lt_of_lt_of_le h.lt hap.size⟩,⟨s1,m1⟩,(s1.cell 10).trans (congrArg some (updK_same a kSta v'))⟩
theorem SW.cut_S (h:SW w g d a) {b cap:Nat} (hv:a kSta=.slice (some ⟨b,0,none⟩) d.S.length cap) (n:Nat) (hn:n≤d.S.length):SW (w.setCell ⟨g,10,none⟩ (.slice (some ⟨b,0,none⟩) n cap)) g { d with S:=d.S.take n } (updK a kSta (.slice (some ⟨b,0,none⟩) n cap))∧Mo g d a w { d with S:=d.S.take n } (updK a kSta (.slice (some ⟨b,0,none⟩) n cap)) (w.setCell ⟨g,10,none⟩ (.slice (some ⟨b,0,none⟩) n cap)):=by
 have hown:∀b',(Value.slice (some ⟨b,0,none⟩) n cap).ownBlock=some b'→(a kSta).ownBlock=some b'∨w.heap.size≤b':=fun b' hb=>Or.inl (by rw[hv];exact hb)
 refine⟨h.put kSta (by exact⟨by decide,rfl⟩) 10 _ (Nat.le_refl _) hown (fun b hb hn=>rfl) rfl (rows_S d a _ _) ?_ rfl,Mo.put h kSta (by exact⟨by decide,rfl⟩) (fun h0=>h0) 10 _ (Mv.refl _ w) hown rfl⟩
 show OL 1 3 w (updK a kSta _ kSta) (d.S.take n).length (i64C (d.S.take n))
 rw[updK_same,List.length_take,Nat.min_eq_left hn];have h0:=h.ol (k:=kSta) (by exact⟨by decide,rfl⟩)
 rw[hv]at h0;exact (Euf.OL.take h0 n hn).congr (fun i hi=>by show i64C (d.S.take n) i=i64C d.S i;simp[i64C,hi])
theorem SW.push_hp (h:SW w g d a) {v':Value} {x:Nat} (hap:App (a kHea) v' w w1) (hol:OL 1 3 w1 v' (d.hp.length+1) (i64C (d.hp++[x]))):SW (w1.setCell ⟨g,12,none⟩ v') g { d with hp:=d.hp++[x] } (updK a kHea v')∧Mo g d a w { d with hp:=d.hp++[x] } (updK a kHea v') (w1.setCell ⟨g,12,none⟩ v'):=by
 have hown:∀b,v'.ownBlock=some b→(a kHea).ownBlock=some b∨w.heap.size≤b:=fun b hb=>by
  rcases hap.at_ with e|⟨b',e3,e4⟩
  · exact Or.inl (e ▸ hb)
  · rw[e3]at hb;injection hb with hb;exact Or.inr (by omega)
 refine⟨h.put kHea (by exact⟨by decide,rfl⟩) 12 v' hap.size hown (fun b hb hn=>hap.other b hb hn) rfl (rows_hp d a _ v') ?_ rfl,Mo.put h kHea (by exact⟨by decide,rfl⟩) (fun h0=>h0) 12 v' ((Mv.refl _ w).app hap (fun b hb=>Or.inl hb)) hown rfl⟩
 show OL 1 3 w1 (updK a kHea v' kHea) (d.hp++[x]).length (i64C (d.hp++[x]))
 rw[updK_same,List.length_append];exact hol
theorem SW.pushX_hp (h:SW w g d a) {v':Value} {x:Nat} (hap:App (a kHea) v' w w1) (hol:OL 1 3 w1 v' (d.hp.length+1) (i64C (d.hp++[x]))):(w1.cell? ⟨g,12,none⟩=some (a kHea)∧w1.frozen? ⟨g,12,none⟩=false∧g<w1.heap.size)∧(SW (w1.setCell ⟨g,12,none⟩ v') g { d with hp:=d.hp++[x] } (updK a kHea v')∧Mo g d a w { d with hp:=d.hp++[x] } (updK a kHea v') (w1.setCell ⟨g,12,none⟩ v'))∧(w1.setCell ⟨g,12,none⟩ v').cell? ⟨g,12,none⟩=some v':=by
 have hN:(a kHea).ownBlock≠some g:=h.ne (k:=kHea) (by exact⟨by decide,rfl⟩)
 have hb:=hap.other g h.lt hN;obtain⟨s1,m1⟩:=h.push_hp hap hol;exact⟨⟨(World.cell?_of_block (a:=⟨g,12,none⟩) hb).trans (h.cell 12),frozen_of_row w1 g 12 _ 78 (hb.trans h.blk),Nat.lt_of_lt_of_le h.lt hap.size⟩,⟨s1,m1⟩,(s1.cell 12).trans (congrArg some (updK_same a kHea v'))⟩
theorem SW.cut_hp (h:SW w g d a) {b cap:Nat} (hv:a kHea=.slice (some ⟨b,0,none⟩) d.hp.length cap) (n:Nat) (hn:n≤d.hp.length):SW (w.setCell ⟨g,12,none⟩ (.slice (some ⟨b,0,none⟩) n cap)) g { d with hp:=d.hp.take n } (updK a kHea (.slice (some ⟨b,0,none⟩) n cap))∧Mo g d a w { d with hp:=d.hp.take n } (updK a kHea (.slice (some ⟨b,0,none⟩) n cap)) (w.setCell ⟨g,12,none⟩ (.slice (some ⟨b,0,none⟩) n cap)):=by
 have hown:∀b',(Value.slice (some ⟨b,0,none⟩) n cap).ownBlock=some b'→(a kHea).ownBlock=some b'∨w.heap.size≤b':=fun b' hb=>Or.inl (by rw[hv];exact hb)
 refine⟨h.put kHea (by exact⟨by decide,rfl⟩) 12 _ (Nat.le_refl _) hown (fun b hb hn=>rfl) rfl (rows_hp d a _ _) ?_ rfl,Mo.put h kHea (by exact⟨by decide,rfl⟩) (fun h0=>h0) 12 _ (Mv.refl _ w) hown rfl⟩
 show OL 1 3 w (updK a kHea _ kHea) (d.hp.take n).length (i64C (d.hp.take n))
 rw[updK_same,List.length_take,Nat.min_eq_left hn];have h0:=h.ol (k:=kHea) (by exact⟨by decide,rfl⟩)
 rw[hv]at h0;exact (Euf.OL.take h0 n hn).congr (fun i hi=>by show i64C (d.hp.take n) i=i64C d.hp i;simp[i64C,hi])
theorem SW.push_mks (h:SW w g d a) {v':Value} {x:Nat} (hap:App (a kMar) v' w w1) (hol:OL 1 3 w1 v' (d.mks.length+1) (i64C (d.mks++[x]))):SW (w1.setCell ⟨g,16,none⟩ v') g { d with mks:=d.mks++[x] } (updK a kMar v')∧Mo g d a w { d with mks:=d.mks++[x] } (updK a kMar v') (w1.setCell ⟨g,16,none⟩ v'):=by
 have hown:∀b,v'.ownBlock=some b→(a kMar).ownBlock=some b∨w.heap.size≤b:=fun b hb=>by
  rcases hap.at_ with e|⟨b',e3,e4⟩
  · exact Or.inl (e ▸ hb)
  · rw[e3]at hb;injection hb with hb;exact Or.inr (by omega)
 refine⟨h.put kMar (by exact⟨by decide,rfl⟩) 16 v' hap.size hown (fun b hb hn=>hap.other b hb hn) rfl (rows_mks d a _ v') ?_ rfl,Mo.put h kMar (by exact⟨by decide,rfl⟩) (fun h0=>h0) 16 v' ((Mv.refl _ w).app hap (fun b hb=>Or.inl hb)) hown rfl⟩
 show OL 1 3 w1 (updK a kMar v' kMar) (d.mks++[x]).length (i64C (d.mks++[x]))
 rw[updK_same,List.length_append];exact hol
theorem SW.pushX_mks (h:SW w g d a) {v':Value} {x:Nat} (hap:App (a kMar) v' w w1) (hol:OL 1 3 w1 v' (d.mks.length+1) (i64C (d.mks++[x]))):(w1.cell? ⟨g,16,none⟩=some (a kMar)∧w1.frozen? ⟨g,16,none⟩=false∧g<w1.heap.size)∧(SW (w1.setCell ⟨g,16,none⟩ v') g { d with mks:=d.mks++[x] } (updK a kMar v')∧Mo g d a w { d with mks:=d.mks++[x] } (updK a kMar v') (w1.setCell ⟨g,16,none⟩ v'))∧(w1.setCell ⟨g,16,none⟩ v').cell? ⟨g,16,none⟩=some v':=by
 have hN:(a kMar).ownBlock≠some g:=h.ne (k:=kMar) (by exact⟨by decide,rfl⟩)
 have hb:=hap.other g h.lt hN;obtain⟨s1,m1⟩:=h.push_mks hap hol;exact⟨⟨(World.cell?_of_block (a:=⟨g,16,none⟩) hb).trans (h.cell 16),frozen_of_row w1 g 16 _ 78 (hb.trans h.blk),Nat.lt_of_lt_of_le h.lt hap.size⟩,⟨s1,m1⟩,(s1.cell 16).trans (congrArg some (updK_same a kMar v'))⟩
theorem SW.cut_mks (h:SW w g d a) {b cap:Nat} (hv:a kMar=.slice (some ⟨b,0,none⟩) d.mks.length cap) (n:Nat) (hn:n≤d.mks.length):SW (w.setCell ⟨g,16,none⟩ (.slice (some ⟨b,0,none⟩) n cap)) g { d with mks:=d.mks.take n } (updK a kMar (.slice (some ⟨b,0,none⟩) n cap))∧Mo g d a w { d with mks:=d.mks.take n } (updK a kMar (.slice (some ⟨b,0,none⟩) n cap)) (w.setCell ⟨g,16,none⟩ (.slice (some ⟨b,0,none⟩) n cap)):=by
 have hown:∀b',(Value.slice (some ⟨b,0,none⟩) n cap).ownBlock=some b'→(a kMar).ownBlock=some b'∨w.heap.size≤b':=fun b' hb=>Or.inl (by rw[hv];exact hb)
 refine⟨h.put kMar (by exact⟨by decide,rfl⟩) 16 _ (Nat.le_refl _) hown (fun b hb hn=>rfl) rfl (rows_mks d a _ _) ?_ rfl,Mo.put h kMar (by exact⟨by decide,rfl⟩) (fun h0=>h0) 16 _ (Mv.refl _ w) hown rfl⟩
 show OL 1 3 w (updK a kMar _ kMar) (d.mks.take n).length (i64C (d.mks.take n))
 rw[updK_same,List.length_take,Nat.min_eq_left hn];have h0:=h.ol (k:=kMar) (by exact⟨by decide,rfl⟩)
 rw[hv]at h0;exact (Euf.OL.take h0 n hn).congr (fun i hi=>by show i64C (d.mks.take n) i=i64C d.mks i;simp[i64C,hi])
theorem SW.push_Q (h:SW w g d a) {v':Value} {x:Nat} (hap:App (a kWai) v' w w1) (hol:OL 1 3 w1 v' (d.Q.length+1) (i64C (d.Q++[x]))):SW (w1.setCell ⟨g,3,none⟩ v') g { d with Q:=d.Q++[x] } (updK a kWai v')∧Mq g d a w { d with Q:=d.Q++[x] } (updK a kWai v') (w1.setCell ⟨g,3,none⟩ v'):=by
 have hown:∀b,v'.ownBlock=some b→(a kWai).ownBlock=some b∨w.heap.size≤b:=fun b hb=>by
  rcases hap.at_ with e|⟨b',e3,e4⟩
  · exact Or.inl (e ▸ hb)
  · rw[e3]at hb;injection hb with hb;exact Or.inr (by omega)
 refine⟨h.put kWai (by exact⟨by decide,rfl⟩) 3 v' hap.size hown (fun b hb hn=>hap.other b hb hn) rfl (rows_Q d a _ v') ?_ rfl,Mq.put h kWai (by exact⟨by decide,rfl⟩) 3 v' ((Mv.refl _ w).app hap (fun b hb=>Or.inl hb)) hown rfl⟩
 show OL 1 3 w1 (updK a kWai v' kWai) (d.Q++[x]).length (i64C (d.Q++[x]))
 rw[updK_same,List.length_append];exact hol
theorem SW.nil_Q (h:SW w g d a):SW (w.setCell ⟨g,3,none⟩ (.slice none 0 0)) g { d with Q:=[] } (updK a kWai (.slice none 0 0))∧Mq g d a w { d with Q:=[] } (updK a kWai (.slice none 0 0)) (w.setCell ⟨g,3,none⟩ (.slice none 0 0)):=by
 have hown:∀b',(Value.slice none 0 0).ownBlock=some b'→(a kWai).ownBlock=some b'∨w.heap.size≤b':=fun b' hb=>by cases hb
 refine⟨h.put kWai (by exact⟨by decide,rfl⟩) 3 _ (Nat.le_refl _) hown (fun b hb hn=>rfl) rfl (rows_Q d a _ _) ?_ rfl,Mq.put h kWai (by exact⟨by decide,rfl⟩) 3 _ (Mv.refl _ w) hown rfl⟩
 exact OL.nil _ _ _ _
theorem SW.nil_mo (h:SW w g d a):SW (w.setCell ⟨g,18,none⟩ (.slice none 0 0)) g { d with mo:=[] } (updK a kMod (.slice none 0 0))∧Mo g d a w { d with mo:=[] } (updK a kMod (.slice none 0 0)) (w.setCell ⟨g,18,none⟩ (.slice none 0 0)):=by
 have hown:∀b',(Value.slice none 0 0).ownBlock=some b'→(a kMod).ownBlock=some b'∨w.heap.size≤b':=fun b' hb=>by cases hb
 refine⟨h.put kMod (by exact⟨by decide,rfl⟩) 18 _ (Nat.le_refl _) hown (fun b hb hn=>rfl) rfl (rows_mo d a _ _) ?_ rfl,Mo.put h kMod (by exact⟨by decide,rfl⟩) (fun h0=>h0) 18 _ (Mv.refl _ w) hown rfl⟩
 exact OL.nil _ _ _ _
theorem SW.nil_mks (h:SW w g d a):SW (w.setCell ⟨g,16,none⟩ (.slice none 0 0)) g { d with mks:=[] } (updK a kMar (.slice none 0 0))∧Mo g d a w { d with mks:=[] } (updK a kMar (.slice none 0 0)) (w.setCell ⟨g,16,none⟩ (.slice none 0 0)):=by
 have hown:∀b',(Value.slice none 0 0).ownBlock=some b'→(a kMar).ownBlock=some b'∨w.heap.size≤b':=fun b' hb=>by cases hb
 refine⟨h.put kMar (by exact⟨by decide,rfl⟩) 16 _ (Nat.le_refl _) hown (fun b hb hn=>rfl) rfl (rows_mks d a _ _) ?_ rfl,Mo.put h kMar (by exact⟨by decide,rfl⟩) (fun h0=>h0) 16 _ (Mv.refl _ w) hown rfl⟩
 exact OL.nil _ _ _ _
end
end Sat
namespace Sat
open Euf (OL App)
section
variable {w w' w1:World} {g:Nat} {d:Dt} {a:Key→Value}
theorem SW.one (h:SW w g d a) (k:Key) (hk:dom d k) (hs:(rows d a k).sz=1) (hn:0<(rows d a k).n):∃b cap,a k=.slice (some ⟨b,0,none⟩) (rows d a k).n cap∧b<w.heap.size∧(rows d a k).n≤cap∧cap≤maxLen∧(∀i,i<(rows d a k).n→w.cell? ⟨b,i,none⟩=((rows d a k).f i)[0]?)∧∀o,w.frozen? ⟨b,o,none⟩=false:=by
 have h0:=h.ol hk;obtain⟨b,cap,hv,h1,h2⟩:=h0.open 0 hn;rw[hv]at h0;refine⟨b,cap,hv,h0.lt rfl,h1,h2,fun i hi=>?_,fun o=>h0.frozen o⟩
 have:=h0.cell hi (j:=0) (by omega)
 rw[hs]at this;simpa using this
theorem SW.valR (h:SW w g d a):∃b cap,a kVal=.slice (some ⟨b,0,none⟩) (2*(d.nv+1)) cap∧b<w.heap.size∧(∀i,i<2*(d.nv+1)→w.cell? ⟨b,i,none⟩=some (.int .i8 (d.V i)))∧∀o,w.frozen? ⟨b,o,none⟩=false:=by
 obtain⟨b,cap,h1,h2,-,-,h3,h4⟩:=h.one kVal (by exact⟨by decide,rfl⟩) rfl (by show 0<2*(d.nv+1);omega)
 exact⟨b,cap,h1,h2,h3,h4⟩
theorem SW.watR (h:SW w g d a):∃b cap,a kWat=.slice (some ⟨b,0,none⟩) (2*(d.nv+1)) cap∧b<w.heap.size∧(∀i,i<2*(d.nv+1)→w.cell? ⟨b,i,none⟩=some (a (kWl i)))∧∀o,w.frozen? ⟨b,o,none⟩=false:=by
 obtain⟨b,cap,h1,h2,-,-,h3,h4⟩:=h.one kWat (by exact⟨by decide,rfl⟩) rfl (by show 0<2*(d.nv+1);omega)
 exact⟨b,cap,h1,h2,h3,h4⟩
theorem SW.atR (h:SW w g d a):∃b cap,a kAtv=.slice (some ⟨b,0,none⟩) (d.nv+1) cap∧b<w.heap.size∧(∀i,i<d.nv+1→w.cell? ⟨b,i,none⟩=some (.int .i64 (d.at_ i:Nat)))∧∀o,w.frozen? ⟨b,o,none⟩=false:=by
 obtain⟨b,cap,h1,h2,-,-,h3,h4⟩:=h.one kAtv (by exact⟨by decide,rfl⟩) rfl (by show 0<d.nv+1;omega)
 exact⟨b,cap,h1,h2,h3,h4⟩
theorem SW.bzR (h:SW w g d a):∃b cap,a kBus=.slice (some ⟨b,0,none⟩) (d.nv+1) cap∧b<w.heap.size∧(∀i,i<d.nv+1→w.cell? ⟨b,i,none⟩=some (.int .i64 (d.bz i)))∧∀o,w.frozen? ⟨b,o,none⟩=false:=by
 obtain⟨b,cap,h1,h2,-,-,h3,h4⟩:=h.one kBus (by exact⟨by decide,rfl⟩) rfl (by show 0<d.nv+1;omega)
 exact⟨b,cap,h1,h2,h3,h4⟩
theorem getD_get {l:List Nat} {i:Nat} (hi:i<l.length):l.getD i 0=l[i]:=by simp[hi]
theorem SW.hpR (h:SW w g d a) (hn:0<d.hp.length):∃b cap,a kHea=.slice (some ⟨b,0,none⟩) d.hp.length cap∧b<w.heap.size∧d.hp.length≤cap∧cap≤maxLen∧(∀i (hi:i<d.hp.length),w.cell? ⟨b,i,none⟩=some (.int .i64 (d.hp[i]:Nat)))∧∀o,w.frozen? ⟨b,o,none⟩=false:=by
 obtain⟨b,cap,h1,h2,h5,h6,h3,h4⟩:=h.one kHea (by exact⟨by decide,rfl⟩) rfl hn
 exact⟨b,cap,h1,h2,h5,h6,fun i hi=>by rw[h3 i hi,← getD_get hi];rfl,h4⟩
theorem SW.traR (h:SW w g d a) (hn:0<d.T.length):∃b cap,a kTra=.slice (some ⟨b,0,none⟩) d.T.length cap∧b<w.heap.size∧d.T.length≤cap∧cap≤maxLen∧(∀i (hi:i<d.T.length),w.cell? ⟨b,i,none⟩=some (.int .i32 (d.T[i]:Nat)))∧∀o,w.frozen? ⟨b,o,none⟩=false:=by
 obtain⟨b,cap,h1,h2,h5,h6,h3,h4⟩:=h.one kTra (by exact⟨by decide,rfl⟩) rfl hn
 exact⟨b,cap,h1,h2,h5,h6,fun i hi=>by rw[h3 i hi,← getD_get hi];rfl,h4⟩
theorem SW.staR (h:SW w g d a) (hn:0<d.S.length):∃b cap,a kSta=.slice (some ⟨b,0,none⟩) d.S.length cap∧b<w.heap.size∧d.S.length≤cap∧cap≤maxLen∧(∀i (hi:i<d.S.length),w.cell? ⟨b,i,none⟩=some (.int .i64 (d.S[i]:Nat)))∧∀o,w.frozen? ⟨b,o,none⟩=false:=by
 obtain⟨b,cap,h1,h2,h5,h6,h3,h4⟩:=h.one kSta (by exact⟨by decide,rfl⟩) rfl hn
 exact⟨b,cap,h1,h2,h5,h6,fun i hi=>by rw[h3 i hi,← getD_get hi];rfl,h4⟩
theorem SW.marR (h:SW w g d a) (hn:0<d.mks.length):∃b cap,a kMar=.slice (some ⟨b,0,none⟩) d.mks.length cap∧b<w.heap.size∧d.mks.length≤cap∧cap≤maxLen∧(∀i (hi:i<d.mks.length),w.cell? ⟨b,i,none⟩=some (.int .i64 (d.mks[i]:Nat)))∧∀o,w.frozen? ⟨b,o,none⟩=false:=by
 obtain⟨b,cap,h1,h2,h5,h6,h3,h4⟩:=h.one kMar (by exact⟨by decide,rfl⟩) rfl hn
 exact⟨b,cap,h1,h2,h5,h6,fun i hi=>by rw[h3 i hi,← getD_get hi];rfl,h4⟩
theorem SW.litR (h:SW w g d a) {c:Nat} (hc:c<d.nc) (hn:0<(d.C c).lits.length):∃b cap,a (kLit c)=.slice (some ⟨b,0,none⟩) (d.C c).lits.length cap∧b<w.heap.size∧(d.C c).lits.length≤cap∧cap≤maxLen∧(∀i (hi:i<(d.C c).lits.length),w.cell? ⟨b,i,none⟩=some (.int .i32 ((d.C c).lits[i]:Nat)))∧∀o,w.frozen? ⟨b,o,none⟩=false:=by
 obtain⟨b,cap,h1,h2,h5,h6,h3,h4⟩:=h.one (kLit c) hc rfl hn;exact⟨b,cap,h1,h2,h5,h6,fun i hi=>by rw[h3 i hi,← getD_get hi];rfl,h4⟩
theorem SW.facR (h:SW w g d a):∃b cap,a kFac=.slice (some ⟨b,0,none⟩) (d.nv+1) cap∧b<w.heap.size∧(∀v,v<d.nv+1→w.cell? ⟨b,v*6,none⟩=some (.int .i64 (d.F v).level)∧w.cell? ⟨b,v*6+1,none⟩=some (.int .i64 (d.F v).place)∧w.cell? ⟨b,v*6+2,none⟩=some (.int .i64 (d.F v).reason)∧w.cell? ⟨b,v*6+3,none⟩=some (.int .i64 (d.F v).unit)∧w.cell? ⟨b,v*6+4,none⟩=some (.bool (d.F v).last)∧w.cell? ⟨b,v*6+5,none⟩=some (.int .i8 (d.F v).mark))∧∀o,w.frozen? ⟨b,o,none⟩=false:=by
 have h0:OL 6 116 w (a kFac) (d.nv+1) (facC d.F):=h.ol (k:=kFac) (by exact⟨by decide,rfl⟩)
 obtain⟨b,cap,hv,h1,h2⟩:=h0.open 0 (by show 0<d.nv+1;omega)
 rw[hv]at h0;refine⟨b,cap,hv,h0.lt rfl,fun v hv'=>?_,fun o=>h0.frozen o⟩
 exact⟨h0.cell (i:=v) hv' (j:=0) (by decide),h0.cell (i:=v) hv' (j:=1) (by decide),h0.cell (i:=v) hv' (j:=2) (by decide),h0.cell (i:=v) hv' (j:=3) (by decide),h0.cell (i:=v) hv' (j:=4) (by decide),h0.cell (i:=v) hv' (j:=5) (by decide)⟩
theorem SW.clzR (h:SW w g d a) (hn:0<d.nc):∃b cap,a kClz=.slice (some ⟨b,0,none⟩) d.nc cap∧b<w.heap.size∧(∀c,c<d.nc→w.cell? ⟨b,c*4,none⟩=some (a (kLit c))∧w.cell? ⟨b,c*4+1,none⟩=some (.int .i64 (d.C c).num)∧w.cell? ⟨b,c*4+2,none⟩=some (.int .i64 (d.C c).first)∧w.cell? ⟨b,c*4+3,none⟩=some (a (kLnk c)))∧∀o,w.frozen? ⟨b,o,none⟩=false:=by
 have h0:OL 4 86 w (a kClz) d.nc (clC d.C a):=h.ol (k:=kClz) (by exact⟨by decide,rfl⟩)
 obtain⟨b,cap,hv,h1,h2⟩:=h0.open 0 hn;rw[hv]at h0;refine⟨b,cap,hv,h0.lt rfl,fun v hv'=>?_,fun o=>h0.frozen o⟩
 exact⟨h0.cell (i:=v) hv' (j:=0) (by decide),h0.cell (i:=v) hv' (j:=1) (by decide),h0.cell (i:=v) hv' (j:=2) (by decide),h0.cell (i:=v) hv' (j:=3) (by decide)⟩
theorem SW.wlR (h:SW w g d a) {l:Nat} (hl:l<2*(d.nv+1)) (hn:0<(d.W l).length):∃b cap,a (kWl l)=.slice (some ⟨b,0,none⟩) (d.W l).length cap∧b<w.heap.size∧(d.W l).length≤cap∧cap≤maxLen∧(∀i (hi:i<(d.W l).length),w.cell? ⟨b,i*2,none⟩=some (.int .i32 ((d.W l)[i].1:Nat))∧w.cell? ⟨b,i*2+1,none⟩=some (.int .i32 ((d.W l)[i].2:Nat)))∧∀o,w.frozen? ⟨b,o,none⟩=false:=by
 have h0:OL 2 133 w (a (kWl l)) (d.W l).length (prC (d.W l)):=h.ol (k:=kWl l) hl;obtain⟨b,cap,hv,h1,h2⟩:=h0.open 0 hn;rw[hv]at h0;refine⟨b,cap,hv,h0.lt rfl,h1,h2,fun i hi=>?_,fun o=>h0.frozen o⟩
 have e:(d.W l).getD i (0,0)=(d.W l)[i]:=by simp[hi]
 rw[← e];exact⟨h0.cell (i:=i) hi (j:=0) (by decide),h0.cell (i:=i) hi (j:=1) (by decide)⟩
end
end Sat
namespace Sat
structure OI (nv:Nat) (hp:List Nat) (at_:Nat→Nat):Prop where
  a:∀i (h:i<hp.length),at_ hp[i]=i+1
  b:∀v,v≤nv→at_ v≠0→v∈hp
  c:∀v∈hp,v≤nv
structure OH (nv:Nat) (hp:List Nat) (at_:Nat→Nat) (p v:Nat):Prop where
  pl:p<hp.length
  vl:v≤nv
  a:∀i (h:i<hp.length),i≠p→at_ hp[i]=i+1∧hp[i]≠v∧hp[i]≤nv
  b:∀u,u≤nv→u≠v→at_ u≠0→∃i,∃h:i<hp.length,i≠p∧hp[i]=u
section
variable {nv:Nat} {hp:List Nat} {at_:Nat→Nat}
theorem OI.inj (o:OI nv hp at_) {i j:Nat} (hi:i<hp.length) (hj:j<hp.length) (e:hp[i]=hp[j]):i=j:=by
 have h1:=o.a i hi;have h2:=o.a j hj;rw[e]at h1;omega
theorem OI.mem (o:OI nv hp at_) {v:Nat} (hv:v≤nv):v∈hp↔at_ v≠0:=by
 refine⟨fun h=>?_,o.b v hv⟩
 obtain⟨i,hi,rfl⟩:=List.mem_iff_getElem.1 h;rw[o.a i hi];omega
theorem OI.pos (o:OI nv hp at_) {v:Nat} (hv:v≤nv) (h:at_ v≠0):∃hl:at_ v - 1<hp.length,hp[at_ v - 1]=v:=by
 obtain⟨i,hi,rfl⟩:=List.mem_iff_getElem.1 (o.b v hv h);have:=o.a i hi;refine⟨by omega,?_⟩
 congr 1;omega
theorem OH.move {p v q:Nat} (o:OH nv hp at_ p v) (hq:q<hp.length) (hne:q≠p):OH nv (hp.set p hp[q]) (upd at_ hp[q] (p+1)) q v∧((hp.set p hp[q]).set q v).Perm (hp.set p v):=by
 obtain⟨q1,q2,q3⟩:=o.a q hq hne;refine⟨{ pl:=by simpa using hq,vl:=o.vl,a:=?_,b:=?_ },?_⟩
 ·
  intro i hi hiq;rw[List.length_set]at hi;rw[List.getElem_set];by_cases e:p=i
  · subst e;rw[if_pos rfl];exact⟨by rw[upd_same],q2,q3⟩
  ·
   rw[if_neg e];obtain⟨h1,h2,h3⟩:=o.a i hi (Ne.symm e);refine⟨?_,h2,h3⟩;rw[upd_other _ _ (fun e9=>hiq ?_)]
   · exact h1
   · rw[e9]at h1;omega
 ·
  intro u hu hne' hat;by_cases e:u=hp[q]
  · exact⟨p,by rw[List.length_set];exact o.pl,Ne.symm hne,by rw[List.getElem_set,if_pos rfl,e]⟩
  ·
   rw[upd_other _ _ e]at hat;obtain⟨i,hi,h1,h2⟩:=o.b u hu hne' hat;refine⟨i,by rw[List.length_set];exact hi,fun e9=>e ?_,?_⟩
   · subst e9;exact h2.symm
   · rw[List.getElem_set,if_neg (Ne.symm h1)];exact h2
 ·
  -- the two lists differ by an exchange
  have hlp:=o.pl;apply List.perm_iff_count.2
  intro x;have key:∀(l:List Nat) (k y:Nat) (hk:k<l.length),(l.set k y).count x+(if l[k]=x then 1 else 0)=l.count x+(if y=x then 1 else 0):=by
   intro l;induction l with
   | nil=>intro k y hk;simp at hk
   | cons z l ih =>
    intro k y hk;cases k with
    | zero =>
     simp only[List.set_cons_zero,List.getElem_cons_zero,List.count_cons,beq_iff_eq];omega
    | succ k =>
     simp only[List.set_cons_succ,List.getElem_cons_succ,List.count_cons,beq_iff_eq];have:=ih k y (by simpa using hk)
     omega
  have k1:=key hp p hp[q] hlp;have k2:=key (hp.set p hp[q]) q v (by simpa using hq)
  have k3:=key hp p v hlp;have e1:(hp.set p hp[q])[q]'(by simpa using hq)=hp[q]:=by rw[List.getElem_set];split<;>rfl
  rw[e1]at k2;omega
theorem OH.fill {p v:Nat} (o:OH nv hp at_ p v):OI nv (hp.set p v) (upd at_ v (p+1)):=by
 refine { a:=?_,b:=?_,c:=?_ }
 ·
  intro i hi;rw[List.length_set]at hi;rw[List.getElem_set];by_cases e:p=i
  · subst e;rw[if_pos rfl,upd_same]
  · rw[if_neg e];obtain⟨h1,h2,h3⟩:=o.a i hi (Ne.symm e);rw[upd_other _ _ h2];exact h1
 ·
  intro u hu hat;by_cases e:u=v
  · subst e;exact List.mem_iff_getElem.2 ⟨p,by rw[List.length_set];exact o.pl,by rw[List.getElem_set,if_pos rfl]⟩
  · rw[upd_other _ _ e]at hat;obtain⟨i,hi,h1,h2⟩:=o.b u hu e hat;exact List.mem_iff_getElem.2 ⟨i,by rw[List.length_set];exact hi,by rw[List.getElem_set,if_neg (Ne.symm h1)];exact h2⟩
 ·
  intro u hu;obtain⟨i,hi,e⟩:=List.mem_iff_getElem.1 hu;rw[List.length_set]at hi;rw[List.getElem_set]at e;by_cases e2:p=i
  · rw[if_pos e2]at e;subst e;exact o.vl
  · rw[if_neg e2]at e;subst e;exact (o.a i hi (Ne.symm e2)).2.2
theorem OI.push (o:OI nv hp at_) {v:Nat} (hv:v≤nv) (h0:at_ v=0):OH nv (hp++[v]) at_ hp.length v:=by
 have nv_:∀i (hi:i<hp.length),hp[i]≠v:=fun i hi e=>by have:=o.a i hi;rw[e]at this;omega
 refine { pl:=by simp,vl:=hv,a:=?_,b:=?_ }
 ·
  intro i hi hne;have hi':i<hp.length:=by simp at hi;omega
  rw[List.getElem_append_left hi'];exact⟨o.a i hi',nv_ i hi',o.c _ (List.getElem_mem hi')⟩
 · intro u hu hne hat;obtain⟨i,hi,e⟩:=List.mem_iff_getElem.1 (o.b u hu hat);exact⟨i,by simp;omega,by omega,by rw[List.getElem_append_left hi];exact e⟩
theorem OI.hole (o:OI nv hp at_) {v:Nat} (hv:v≤nv) (h0:at_ v≠0):OH nv hp at_ (at_ v - 1) v∧hp.set (at_ v - 1) v=hp:=by
 obtain⟨hl,he⟩:=o.pos hv h0;refine⟨{ pl:=hl,vl:=hv,a:=?_,b:=?_ },?_⟩
 ·
  intro i hi hne;refine⟨o.a i hi,fun e=>hne ?_,o.c _ (List.getElem_mem hi)⟩
  have:=o.a i hi;rw[e]at this;omega
 ·
  intro u hu hne hat;obtain⟨hl',he'⟩:=o.pos hu hat;refine⟨_,hl',fun e=>hne ?_,he'⟩
  have e9:hp[at_ u - 1]=hp[at_ v - 1]:=by congr 1
  rw[he',he]at e9;exact e9
 ·
  apply List.ext_getElem (by simp)
  intro i h1 h2;rw[List.getElem_set];split
  · rename_i e;subst e;exact he.symm
  · rfl
theorem OI.pop (o:OI nv hp at_) (h0:0<hp.length):(hp.length=1→OI nv (hp.take (hp.length - 1)) (upd at_ hp[0] 0))∧(1<hp.length→OH nv (hp.take (hp.length - 1)) (upd at_ hp[0] 0) 0 (hp[hp.length - 1]'(by omega))):=by
 have ne:∀i (hi:i<hp.length),i≠0→hp[i]≠hp[0]:=fun i hi h9 e=>h9 (o.inj hi h0 e)
 refine⟨fun h1=>{ a:=?_,b:=?_,c:=?_ },fun h1=>{ pl:=?_,vl:=o.c _ (List.getElem_mem _),a:=?_,b:=?_ }⟩
 · intro i hi;rw[List.length_take]at hi;omega
 ·
  intro u hu hat;by_cases e:u=hp[0]
  · subst e;rw[upd_same]at hat;exact absurd rfl hat
  ·
   rw[upd_other _ _ e]at hat;obtain⟨i,hi,e2⟩:=List.mem_iff_getElem.1 (o.b u hu hat);obtain rfl:i=0:=by omega
   exact absurd e2.symm e
 · intro u hu;exact o.c u (List.mem_of_mem_take hu)
 · rw[List.length_take];omega
 ·
  intro i hi hne;rw[List.length_take]at hi;rw[List.getElem_take];refine⟨by rw[upd_other _ _ (ne i (by omega) hne)];exact o.a i (by omega),fun e=>?_,o.c _ (List.getElem_mem _)⟩
  have:=o.inj (by omega) (by omega) e
  omega
 ·
  intro u hu hne hat;by_cases e:u=hp[0]
  · subst e;rw[upd_same]at hat;exact absurd rfl hat
  ·
   rw[upd_other _ _ e]at hat;obtain⟨i,hi,e2⟩:=List.mem_iff_getElem.1 (o.b u hu hat);have hin:i≠hp.length - 1:=fun e9=>by subst e9;exact hne e2.symm
   refine⟨i,by rw[List.length_take];omega,fun e9=>?_,by rw[List.getElem_take];exact e2⟩
   subst e9;exact e e2.symm
theorem OI.len (o:OI nv hp at_):hp.length≤nv+1:=by
 have nd:hp.Nodup:=by
  rw[List.nodup_iff_pairwise_ne,List.pairwise_iff_getElem];intro i j hi hj hij e;have:=o.inj hi hj e;omega
 have key:∀(N:Nat) (l:List Nat),l.Nodup→(∀x∈l,x<N)→l.length≤N:=by
  intro N;induction N with
  | zero=>intro l _ h;cases l with
   | nil=>simp
   | cons x _=>exact absurd (h x (List.mem_cons_self ..)) (by omega)
  | succ N ih =>
   intro l hn h;have h1:=ih (l.erase N) (hn.erase _) (fun x hx=>by
    have:=h x (List.mem_of_mem_erase hx);have:x≠N:=fun e=>by subst e;exact hn.not_mem_erase hx
    omega)
   have h2:l.length≤(l.erase N).length+1:=by
    by_cases e:N∈l
    · rw[List.length_erase_of_mem e];omega
    · rw[List.erase_of_not_mem e];omega
   omega
 exact key _ _ nd (fun x hx=>by have:=o.c x hx;omega)
end
end Sat
namespace Sat
theorem xor1 (x:Nat):x ^^^ 1=ng x:=by
 have h1:(x ^^^ 1) / 2=x / 2:=by
  have:=Nat.xor_div_two_pow (a:=x) (b:=1) (n:=1);simpa using this
 have h2:(x ^^^ 1) % 2=(x+1) % 2:=by
  have h3:=Nat.xor_mod_two_pow (a:=x) (b:=1) (n:=1);rw[Nat.pow_one]at h3;rw[h3];rcases Nat.mod_two_eq_zero_or_one x with e|e
  · rw[e];simp;omega
  · rw[e];simp;omega
 unfold ng;split<;>omega
theorem ofInt32 (x:Nat) (h:x<4294967296):(BitVec.ofInt 32 (x:Int)).toNat=x:=by
 rw[BitVec.ofInt_natCast,BitVec.toNat_ofNat];exact Nat.mod_eq_of_lt (by omega)
theorem wrap32 (n:Nat) (h:n<2147483648):IntKind.i32.wrap (n:Int)=(n:Int):=by
 have e:(n:Int) % 2 ^ 32=n:=Int.emod_eq_of_lt (by omega) (by omega)
 simp only[IntKind.wrap,IntKind.bits,IntKind.signed,e];rw[if_neg];simp;omega
theorem and1_i32 (x:Nat) (h:x<20000):bits .and .i32 (x:Int) 1=((x % 2:Nat):Int):=by
 show IntKind.i32.wrap ((BitVec.ofInt 32 (x:Int) &&& BitVec.ofInt 32 ((1:Nat):Int)).toNat:Int)=_
 rw[BitVec.toNat_and,ofInt32 x (by omega),ofInt32 1 (by omega),Nat.and_one_is_mod]
 exact wrap32 _ (by omega)
theorem ng_small {x:Nat} (h:x<20000):ng x<20001:=by unfold ng;split<;>omega
theorem xor1_i32 (x:Nat) (h:x<20000):bits .xor .i32 (x:Int) 1=((ng x:Nat):Int):=by
 show IntKind.i32.wrap ((BitVec.ofInt 32 (x:Int) ^^^ BitVec.ofInt 32 ((1:Nat):Int)).toNat:Int)=_
 rw[BitVec.toNat_xor,ofInt32 x (by omega),ofInt32 1 (by omega),xor1]
 exact wrap32 _ (by have:=ng_small h;omega)
def num (l:Nat):Int:=if l % 2=0 then ((l / 2:Nat):Int) else - ((l / 2:Nat):Int)
def lit (z:Int):Nat:=if z<0 then 2*z.natAbs+1 else 2*z.natAbs
theorem num_lit (z:Int):num (lit z)=z:=by
 unfold num lit;split
 · rw[if_neg (by omega)];omega
 · rw[if_pos (by omega)];omega
theorem lit_num {l:Nat} (h:2≤l):lit (num l)=l:=by
 unfold num lit;by_cases e:l % 2=0
 · rw[if_pos e,if_neg (by omega)];omega
 · rw[if_neg e,if_pos (by omega)];omega
set_option maxRecDepth 20000 in
set_option maxHeartbeats 4000000 in
theorem variable_any (l:Nat) (w:World) (hl:l<20000):Calls Tryz.prog 62 #[.int .i32 (l:Nat)] w fun e w'=>e=.returned (.int .i64 ((l / 2:Nat):Int))∧w'=w:=by
 go_enter Tryz.func62,Tryz.ntmps62;go_wp2;go_ret
 exact⟨by simp,rfl⟩
set_option maxRecDepth 20000 in
set_option maxHeartbeats 4000000 in
theorem opposite_any (l:Nat) (w:World) (hl:l<20000):Calls Tryz.prog 72 #[.int .i32 (l:Nat)] w fun e w'=>e=.returned (.int .i32 ((ng l:Nat):Int))∧w'=w:=by
 have hx:=xor1_i32 l hl;go_enter Tryz.func72,Tryz.ntmps72;go_wp2;go_ret
 exact⟨by simp,rfl⟩
set_option maxRecDepth 20000 in
set_option maxHeartbeats 4000000 in
theorem number_any (l:Nat) (w:World) (hl:l<20000):Calls Tryz.prog 73 #[.int .i32 (l:Nat)] w fun e w'=>e=.returned (.int .i64 (num l))∧w'=w:=by
 have hx:=and1_i32 l hl;by_cases hp:l % 2=0
 ·
  have hN:Hid (num l=((l / 2:Nat):Int)):=by show _=_;unfold num;rw[if_pos hp]
  rw[hp]at hx;clear hp;go_enter Tryz.func73,Tryz.ntmps73;go_wp2_with fail
  refine (variable_any l w hl).mono ?_;rintro e w' ⟨rfl,rfl⟩;go_wp2;go_ret
  exact⟨by rw[hN.out];simp,rfl⟩
 ·
  have hp1:l % 2=1:=by omega
  have hN:Hid (num l=- ((l / 2:Nat):Int)):=by show _=_;unfold num;rw[if_neg hp]
  rw[hp1]at hx;have hl2:l / 2<20000:=by omega
  clear hp hp1;go_enter Tryz.func73,Tryz.ntmps73;go_wp2_with fail
  refine (variable_any l w hl).mono ?_;rintro e w' ⟨rfl,rfl⟩;generalize l / 2=v at hl2 hN ⊢;go_wp2;go_ret
  exact⟨by rw[hN.out];simp,rfl⟩
set_option maxRecDepth 20000 in
set_option maxHeartbeats 4000000 in
theorem litOf_any (z:Int) (w:World) (h1:-9000≤z) (h2:z≤9000):Calls Tryz.prog 59 #[.int .i64 z] w fun e w'=>e=.returned (.int .i32 ((lit z:Nat):Int))∧w'=w:=by
 by_cases hz:z<0
 ·
  have hL:Hid (((lit z:Nat):Int)=-2*z+1):=by show _=_;unfold lit;rw[if_pos hz];omega
  go_enter Tryz.func59,Tryz.ntmps59;go_wp2;go_ret
  exact⟨by rw[hL.out];simp,rfl⟩
 ·
  have hL:Hid (((lit z:Nat):Int)=2*z):=by show _=_;unfold lit;rw[if_neg hz];omega
  go_enter Tryz.func59,Tryz.ntmps59;go_wp2;go_ret
  exact⟨by rw[hL.out];simp,rfl⟩
end Sat
end Go.Proofs.YtbmkkhpoaicclabGreat
