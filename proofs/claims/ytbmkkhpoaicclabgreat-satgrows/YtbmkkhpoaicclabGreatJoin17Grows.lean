/- Joined: SatRv, SatRz, SatTt, SatTa: words and contracts; no statement of the seat is proved here. -/
import Derived.Test.YtbmkkhpoaicclabGreatJoin16Grows
import Derived.Test.YtbmkkhpoaicclabGreatJoin13Grows
namespace Go.Proofs.YtbmkkhpoaicclabGreat
open Go Go.RowKit
set_option linter.unusedVariables false
namespace Sat
open Euf (OL App)
def Rsv (a b:List Int) (v l:Int):Prop:=1≤v∧((l=v∧v∈a∧-v∈b)∨(l=-v∧¬ (v∈a∧-v∈b)∧-v∈a∧v∈b))
def RvEnd (a b:List Int) (v:Int) (v0:Value) (w:World) (e:Ending) (w':World):Prop :=
  (∃l vr s,Rsv a b v l∧e=.returned (.tuple #[vr,.bool true])∧Srt s∧(∀x,x∈s↔RI a b l x)∧OL 1 3 w' vr s.length (izC s)∧Mv (fun b=>v0.ownBlock=some b) w w'∧(vr.ownBlock=v0.ownBlock∨∃b,vr.ownBlock=some b∧w.heap.size≤b)) ∨
  ((¬ ∃l,Rsv a b v l)∧e=.returned (.tuple #[.slice none 0 0,.bool false])∧Mv (fun b=>v0.ownBlock=some b) w w')
structure RvH (v0 va vb:Value) (a b:List Int) (w:World):Prop where
  o0:OL 1 3 w v0 0 (izC [])
  oa:OL 1 3 w va a.length (izC a)
  ob:OL 1 3 w vb b.length (izC b)
  sa:Srt a
  sb:Srt b
  ka:∀z∈a,InI z
  kb:∀z∈b,InI z
  da:∀c,v0.ownBlock=some c→va.ownBlock≠some c
  db:∀c,v0.ownBlock=some c→vb.ownBlock≠some c
  ln:a.length+b.length≤20000
theorem RvH.below {v0 va vb:Value} {a b:List Int} {w w':World} (h:RvH v0 va vb a b w) (hb:Below w.heap.size w w'):RvH v0 va vb a b w' :=
  { h with o0:=h.o0.stay (fun c hc=>hb.block c (h.o0.lt hc)),oa:=h.oa.stay (fun c hc=>hb.block c (h.oa.lt hc)),ob:=h.ob.stay (fun c hc=>hb.block c (h.ob.lt hc)) }
theorem MgEnd.rv {a b:List Int} {v l:Int} {v0:Value} {w w1 w':World} (bl:Below w.heap.size w w1) (hr:Rsv a b v l) {vr:Value} (h:MgEnd a b l v0 w1 (.returned vr) w'):RvEnd a b v v0 w (.returned (.tuple #[vr,.bool true])) w':=by
 obtain⟨vr',s,he,h1,h2,h3,h4,h5⟩:=h;injection he with he;subst he;refine Or.inl ⟨l,vr,s,hr,rfl,h1,h2,h3,(Mv.below bl).trans h4 (fun c hc=>Or.inl hc),?_⟩
 rcases h5 with h5|⟨c,h5,h6⟩
 · exact Or.inl h5
 · exact Or.inr ⟨c,h5,Nat.le_trans bl.size h6⟩
theorem RvH.merged {v0 va vb:Value} {a b:List Int} {w:World} (h:RvH v0 va vb a b w) {l:Int} (hl:l≠0) (hl1:-9223372036854775808<l) (hl2:l<9223372036854775808) {qa qb:Option Addr} {na ca nb cb:Nat} (ea:va=.slice qa na ca) (eb:vb=.slice qb nb cb) :
  Calls Tryz.prog 117 #[v0,.slice qa na ca,.slice qb nb cb,.int .i64 l] w fun e w'=>MgEnd a b l v0 w e w':=by
 obtain⟨qa',ca',ea',ila⟩:=OL.il h.oa h.ka;obtain⟨qb',cb',eb',ilb⟩:=OL.il h.ob h.kb;rw[ea]at ea';rw[eb]at eb';cases ea'
 cases eb'
 refine merged_any04 v0 qa _ ca a qb _ cb b l w h.o0 ila ilb h.sa h.sb (fun _ c off e9 e8=>?_) (fun _ c off e9 e8=>?_) hl hl1 hl2 h.ln
 ·
  refine h.da c e8 ?_;rw[ea,e9];rcases h.oa with⟨e1,-⟩|⟨g,cap,cur,e1,-⟩
  · rw[ea,e9]at e1;cases e1
  · rw[ea,e9]at e1;cases e1;rfl
 ·
  refine h.db c e8 ?_;rw[eb,e9];rcases h.ob with⟨e1,-⟩|⟨g,cap,cur,e1,-⟩
  · rw[eb,e9]at e1;cases e1
  · rw[eb,e9]at e1;cases e1;rfl
set_option maxRecDepth 20000 in
set_option maxHeartbeats 8000000 in
theorem resolved_any (v0 va vb:Value) (a b:List Int) (v:Int) (w:World) (h:RvH v0 va vb a b w) (hv:InI v) :
  Calls Tryz.prog 88 #[v0,va,vb,.int .i64 v] w fun e w'=>RvEnd a b v v0 w e w':=by
 obtain⟨qa,ca,ea,-⟩:=h.oa.shape;obtain⟨qb,cb,eb,-⟩:=h.ob.shape;obtain⟨q0,c0,e0,-⟩:=h.o0.shape;obtain⟨v1,v2⟩:=hv;have H:=hide h;obtain⟨na,hna⟩:∃na,a.length=na:=⟨_,rfl⟩;obtain⟨nb,hnb⟩:∃nb,b.length=nb:=⟨_,rfl⟩;rw[hna]at ea;rw[hnb]at eb;have HEQ:=hide (And.intro ea eb);have hla:a.length≤1000000:=by have:=h.ln;omega
 have hlb:b.length≤1000000:=by have:=h.ln;omega
 subst ea eb e0;clear h hna hnb;by_cases hp:v<1
 ·
  have HE:Hid (RvEnd a b v (.slice q0 0 c0) w (.returned (.tuple #[.slice none 0 0,.bool false])) w):=Or.inr ⟨fun⟨l,h9,_⟩=>by omega,rfl,Mv.refl _ _⟩
  go_enter Tryz.func88,Tryz.ntmps88;go_wp2;go_ret2
  exact HE.out
 ·
  have hwn:IntKind.i64.wrap (-v)=-v:=by rw[IntWalk.i64_left,IntWalk.wrap64_in _ (by omega)]
  have HA:Hid (∀W l,Below w.heap.size w W→InI l→Calls Tryz.prog 116 #[.slice qa na ca,.int .i64 l] W fun e w'=>BoolE e (l∈a)∧Below W.heap.size W w'):=fun W l hb hl=>has_any _ a l W (H.out.below hb).oa H.out.sa H.out.ka hl hla
  have HB:Hid (∀W l,Below w.heap.size w W→InI l→Calls Tryz.prog 116 #[.slice qb nb cb,.int .i64 l] W fun e w'=>BoolE e (l∈b)∧Below W.heap.size W w'):=fun W l hb hl=>has_any _ b l W (H.out.below hb).ob H.out.sb H.out.kb hl hlb
  have HV:Hid (InI v∧InI (-v)):=⟨⟨v1,v2⟩,⟨by omega,by omega⟩⟩
  have HM:Hid (∀W l,Below w.heap.size w W→l≠0→-9223372036854775808<l→l<9223372036854775808→Calls Tryz.prog 117 #[.slice q0 0 c0,.slice qa na ca,.slice qb nb cb,.int .i64 l] W fun e w'=>MgEnd a b l (.slice q0 0 c0) W e w'):=fun W l hb k1 k2 k3=>(H.out.below hb).merged k1 k2 k3 rfl rfl
  have hno:Hid (∀W,Below w.heap.size w W→(¬ ∃l,Rsv a b v l)→RvEnd a b v (.slice q0 0 c0) w (.returned (.tuple #[.slice none 0 0,.bool false])) W):=fun W hb hn=>Or.inr ⟨hn,rfl,Mv.below hb⟩
  clear H;go_enter Tryz.func88,Tryz.ntmps88;go_wp2_with fail
  refine (HA.out w v (Below.refl _ _) HV.out.1).mono ?_;rintro e w1 ⟨⟨b1,rfl,hb1⟩,bl1⟩;have HB1:=hide bl1;have HQ1:=hide hb1;clear bl1 hb1;cases b1 with
  | true =>
   go_wp2_with fail
   refine (HB.out w1 (-v) HB1.out HV.out.2).mono ?_;rintro e w2 ⟨⟨b2,rfl,hb2⟩,bl2⟩;have HB2:Hid (Below w.heap.size w w2):=HB1.out.trans (bl2.mono HB1.out.size);have HQ2:=hide hb2;clear bl2 hb2;cases b2 with
   | true =>
    go_wp2_with fail
    refine (HM.out w2 (v) HB2.out (by omega) (by omega) (by omega)).mono ?_
    rintro e w9 hm;obtain⟨vr,s,rfl,hm1⟩:=hm;have HE:Hid (RvEnd a b v (.slice q0 0 c0) w (.returned (.tuple #[vr,.bool true])) w9):=MgEnd.rv HB2.out (⟨by omega,Or.inl ⟨rfl,HQ1.out.1 (by first|rfl|trivial),HQ2.out.1 (by first|rfl|trivial)⟩⟩) ⟨vr,s,rfl,hm1⟩
    obtain⟨qv,cv,hvv,-⟩:=hm1.2.2.1.shape;subst hvv;generalize s.length=sl at *;clear hm1 HM;go_wp2;go_ret2
    exact HE.out
   | false =>
    have HNO:=hide (show ¬ (v∈a∧-v∈b) from fun h9=>by have:=HQ2.out.2 h9.2;cases this)
    go_wp2_with fail
    refine (HA.out w2 (-v) HB2.out HV.out.2).mono ?_;rintro e w3 ⟨⟨b3,rfl,hb3⟩,bl3⟩;have HB3:Hid (Below w.heap.size w w3):=HB2.out.trans (bl3.mono HB2.out.size);have HQ3:=hide hb3;clear bl3 hb3;cases b3 with
    | true =>
     go_wp2_with fail
     refine (HB.out w3 (v) HB3.out HV.out.1).mono ?_;rintro e w4 ⟨⟨b4,rfl,hb4⟩,bl4⟩;have HB4:Hid (Below w.heap.size w w4):=HB3.out.trans (bl4.mono HB3.out.size);have HQ4:=hide hb4;clear bl4 hb4;cases b4 with
     | true =>
      go_wp2_with fail
      refine (HM.out w4 (-v) HB4.out (by omega) (by omega) (by omega)).mono ?_
      rintro e w9 hm;obtain⟨vr,s,rfl,hm1⟩:=hm;have HE:Hid (RvEnd a b v (.slice q0 0 c0) w (.returned (.tuple #[vr,.bool true])) w9):=MgEnd.rv HB4.out (⟨by omega,Or.inr ⟨rfl,HNO.out,HQ3.out.1 (by first|rfl|trivial),HQ4.out.1 (by first|rfl|trivial)⟩⟩) ⟨vr,s,rfl,hm1⟩
      obtain⟨qv,cv,hvv,-⟩:=hm1.2.2.1.shape;subst hvv;generalize s.length=sl at *;clear hm1 HM;go_wp2;go_ret2
      exact HE.out
     | false =>
      have HE:=hide (hno.out w4 HB4.out (fun⟨l,_,h9⟩=>by rcases h9 with⟨_,h8,h7⟩|⟨_,_,_,h8⟩;exact HNO.out ⟨h8,h7⟩;have:=HQ4.out.2 h8;cases this))
      go_wp2;go_ret2
      exact HE.out
    | false =>
     have HE:=hide (hno.out w3 HB3.out (fun⟨l,_,h9⟩=>by rcases h9 with⟨_,h8,h7⟩|⟨_,_,h8,_⟩;exact HNO.out ⟨h8,h7⟩;have:=HQ3.out.2 h8;cases this))
     go_wp2;go_ret2
     exact HE.out
  | false =>
   have HNO:=hide (show ¬ (v∈a∧-v∈b) from fun h9=>by have:=HQ1.out.2 h9.1;cases this)
   go_wp2_with fail
   refine (HA.out w1 (-v) HB1.out HV.out.2).mono ?_;rintro e w3 ⟨⟨b3,rfl,hb3⟩,bl3⟩;have HB3:Hid (Below w.heap.size w w3):=HB1.out.trans (bl3.mono HB1.out.size);have HQ3:=hide hb3;clear bl3 hb3;cases b3 with
   | true =>
    go_wp2_with fail
    refine (HB.out w3 (v) HB3.out HV.out.1).mono ?_;rintro e w4 ⟨⟨b4,rfl,hb4⟩,bl4⟩;have HB4:Hid (Below w.heap.size w w4):=HB3.out.trans (bl4.mono HB3.out.size);have HQ4:=hide hb4;clear bl4 hb4;cases b4 with
    | true =>
     go_wp2_with fail
     refine (HM.out w4 (-v) HB4.out (by omega) (by omega) (by omega)).mono ?_
     rintro e w9 hm;obtain⟨vr,s,rfl,hm1⟩:=hm;have HE:Hid (RvEnd a b v (.slice q0 0 c0) w (.returned (.tuple #[vr,.bool true])) w9):=MgEnd.rv HB4.out (⟨by omega,Or.inr ⟨rfl,HNO.out,HQ3.out.1 (by first|rfl|trivial),HQ4.out.1 (by first|rfl|trivial)⟩⟩) ⟨vr,s,rfl,hm1⟩
     obtain⟨qv,cv,hvv,-⟩:=hm1.2.2.1.shape;subst hvv;generalize s.length=sl at *;clear hm1 HM;go_wp2;go_ret2
     exact HE.out
    | false =>
     have HE:=hide (hno.out w4 HB4.out (fun⟨l,_,h9⟩=>by rcases h9 with⟨_,h8,h7⟩|⟨_,_,_,h8⟩;exact HNO.out ⟨h8,h7⟩;have:=HQ4.out.2 h8;cases this))
     go_wp2;go_ret2
     exact HE.out
   | false =>
    have HE:=hide (hno.out w3 HB3.out (fun⟨l,_,h9⟩=>by rcases h9 with⟨_,h8,h7⟩|⟨_,_,h8,_⟩;exact HNO.out ⟨h8,h7⟩;have:=HQ3.out.2 h8;cases this))
    go_wp2;go_ret2
    exact HE.out
end Sat
namespace Sat
open Euf (OL App)
theorem nodup_subI:∀(U l:List Int),l.Nodup→(∀x∈l,x∈U)→l.length≤U.length
  | U,[],_,_=>by simp
  | U,x::l,hn,h=>by
    have h1:x∈U:=h x (by simp)
    have h2:=nodup_subI (U.erase x) l (List.nodup_cons.1 hn).2 (fun y hy=>by
      have hne:y≠x:=fun e=>(List.nodup_cons.1 hn).1 (e ▸ hy)
      exact (List.mem_erase_of_ne hne).2 (h y (List.mem_cons_of_mem _ hy)))
    rw[List.length_erase_of_mem h1]at h2
    have h3:0<U.length:=List.length_pos_of_mem h1
    simp;omega
end Sat
open Go Go.RowKit Go.Sort Go.Shelf
namespace Sat
open Euf (OL App)
set_option maxRecDepth 20000 in
set_option maxHeartbeats 16000000 in
theorem later_any (g:Nat) (d:Dt) (a:Key→Value) (bs x y:Nat) (w:World) (h:SW w g d a) (cs:w.cell? ⟨bs,0,none⟩=some (.pointer (some ⟨g,0,none⟩))) (ls:bs<w.heap.size) (hx:x≤d.nv) (hy:y≤d.nv) :
  Calls Tryz.prog 126 #[.int .i64 (x:Nat),.int .i64 (y:Nat),.pointer (some ⟨bs,0,none⟩)] w fun e w'=>e=.returned (.int .i64 (cmpI (d.F y).place (d.F x).place))∧∃q os,w'=grow (w.drewN q) os:=by
 obtain⟨bF,cF,hF,lF,qF,-⟩:=h.facR;have c8:w.cell? ⟨g,8,none⟩=some (.slice (some ⟨bF,0,none⟩) (d.nv+1) cF):=(h.cell 8).trans (congrArg some hF);have qx:=(qF x (by omega)).2.1
 have qy:=(qF y (by omega)).2.1
 have hxl:x<d.nv+1:=by omega
 have hyl:y<d.nv+1:=by omega
 have hxI:(x:Int)<(d.nv:Int)+1:=by omega
 have hyI:(y:Int)<(d.nv:Int)+1:=by omega
 have hlg:=h.lt;have HC:=hide (fun x y w=>compare_any x y w)
 generalize (d.F x).place=px at qx;generalize (d.F y).place=py at qy;clear h hF qF;go_enter Tryz.func126,Tryz.ntmps126;go_wp2_with fail
 go_quiet ((go_at_call 82;refine Calls.quiet_of_same (HC.out _ _ _)))
 go_wp2;go_ret
 exact⟨rfl,nq,#[],(grow_empty _).symm⟩
abbrev Vr (n:Nat):Type:={ v:Nat // v≤n }
def Vr.zero (n:Nat):Vr n:=⟨0,Nat.zero_le _⟩
def Vr.enc {n:Nat} (v:Vr n):Value:=.int .i64 (v.1:Nat)
theorem SWO_later {α:Type} (f:α→Int):SWO (ltOf (fun x y=>cmpI (f y) (f x))):=by
 have key:∀x y:α,ltOf (fun x y=>cmpI (f y) (f x)) x y=decide (f y<f x):=by
  intro x y;unfold ltOf cmpI;by_cases h:f y<f x
  · simp[h]
  · by_cases h2:f x<f y<;>simp[h,h2]
 refine⟨fun x=>?_,fun x y z h1 h2=>?_,fun x y z h1 h2=>?_⟩
 · rw[key];simp
 · rw[key]at *;simp at *;omega
 · rw[key]at *;simp at *;omega
theorem ltOf_later {α:Type} (f:α→Int) (x y:α):ltOf (fun x y=>cmpI (f y) (f x)) x y=decide (f y<f x):=by
 unfold ltOf cmpI;by_cases h:f y<f x
 · simp[h]
 · by_cases h2:f x<f y<;>simp[h,h2]
theorem sortG_any (g:Nat) (dB:Dt) (aB:Key→Value) (w0:World) (d:Dt) (a:Key→Value) (bs bg bx:Nat) (vL vG vX:Value) (L G X:List Nat) (w:World) (t:TW g dB aB w0 d a bs bg bx vL vG vX L G X w) (hG:∀v∈G,v≤d.nv) (hinj:∀u∈G,∀v∈G,(d.F u).place=(d.F v).place→u=v) (hnd:G.Nodup) (hl:G.length≤1000000000) :
  Calls Tryz.prog 48 #[vG,.func (.func 126) #[] #[.pointer (some ⟨bs,0,none⟩)]] w fun e w'=>e=.returned (.tuple #[])∧∃G',G'.Perm G∧G'.Pairwise (fun x y=>(d.F y).place<(d.F x).place)∧TW g dB aB w0 d a bs bg bx vL vG vX L G' X w':=by
 haveI:Inhabited (Vr d.nv):=⟨Vr.zero d.nv⟩
 obtain⟨xs,hxs⟩:∃xs:List (Vr d.nv),xs.map (·.1)=G:=by
  have key:∀G:List Nat,(∀v∈G,v≤d.nv)→∃xs:List (Vr d.nv),xs.map (·.1)=G:=by
   intro G;induction G with
   | nil=>intro _;exact⟨[],rfl⟩
   | cons v G ih =>
    intro h;obtain⟨xs,e⟩:=ih (fun u hu=>h u (by simp[hu]))
    exact⟨⟨v,h v (by simp)⟩::xs,by simp[e]⟩
  exact key G hG
 have hlen:xs.length=G.length:=by rw[← hxs,List.length_map]
 have encE:∀(ys:List (Vr d.nv)) (i:Nat),i<ys.length→enC Vr.enc ys i=i64C (ys.map (·.1)) i:=fun ys i hi=>by
  unfold enC i64C Vr.enc;rw[getElem!_pos ys i hi];simp[hi]
 have hol:OL 1 3 w vG xs.length (enC Vr.enc xs):=by
  rw[hlen];exact t.og.congr (fun i hi=>by rw[encE xs i (by omega),hxs])
 have gT:∀b,vG.ownBlock=some b→TB bs bg bx vL vG vX b:=fun b hb=>Or.inr (Or.inr (Or.inr (Or.inr (Or.inl hb))))
 have stayT:∀W,Mv (fun b=>vG.ownBlock=some b) w W→SW W g d a∧W.cell? ⟨bs,0,none⟩=some (.pointer (some ⟨g,0,none⟩))∧bs<W.heap.size:=fun W hW=>by
  have hsG:vG.ownBlock≠some bs:=fun e=>by
   obtain⟨cur,hc⟩:=t.og.elem e;rw[t.cs]at hc;injection hc with hc;injection hc with _ h2 _;exact absurd h2 (by decide)
  have hb:W.heap[bs]?=some (.cells #[.pointer (some ⟨g,0,none⟩)] 27 (0,0)):=(hW.other bs (t.lt (Or.inl rfl)) hsG).trans t.cs;exact⟨t.sw.keep (fun c hc=>hW.other c (t.sw.foLt hc) (fun e=>(t.nb c (gT c e)).1 hc)),cell_of_row W bs 0 _ _ (0,0) hb,(Array.getElem?_eq_some_iff.1 hb).1⟩
 refine (sortF_any Vr.enc (fun _=>rfl) (fun x y=>cmpI (d.F y.1).place (d.F x.1).place) (SWO_later (fun v:Vr d.nv=>(d.F v.1).place)) 126 #[.pointer (some ⟨bs,0,none⟩)] vG xs w hol (enters_of Tryz.func126 (by kernel_rfl) rfl) (fun W hW x y=>?_) (by omega)).mono ?_
 · obtain⟨s1,s2,s3⟩:=stayT W hW;exact later_any g d a bs x.1 y.1 W s1 s2 s3 x.2 y.2
 ·
  rintro e w' ⟨rfl,ys,pm,pw,ol',mv⟩;have pmG:(ys.map (·.1)).Perm G:=by rw[← hxs];exact pm.map _
  refine⟨rfl,ys.map (·.1),pmG,?_,?_⟩
  ·
   have nd:(ys.map (·.1)).Nodup:=pmG.nodup_iff.2 hnd;rw[List.pairwise_map];have nd':ys.Pairwise (fun a b=>a.1≠b.1):=List.pairwise_map.1 nd
   refine (List.Pairwise.and_mem.1 (pw.and nd')).imp ?_;rintro x y ⟨hx,hy,h1,h2⟩;rw[ltOf_later (fun v:Vr d.nv=>(d.F v.1).place)]at h1
   have h3:¬ ((d.F x.1).place<(d.F y.1).place):=by simpa using h1
   have h4:(d.F x.1).place≠(d.F y.1).place:=fun e=>h2 (hinj _ (pmG.mem_iff.1 (List.mem_map_of_mem hx)) _ (pmG.mem_iff.1 (List.mem_map_of_mem hy)) e)
   omega
  ·
   have hlG:(ys.map (·.1)).length=G.length:=pmG.length_eq;have oth:∀b,TB bs bg bx vL vG vX b→vG.ownBlock≠some b→w'.heap[b]?=w.heap[b]?:=fun b hb hn=>mv.other b (t.lt hb) hn
   have boxG:∀{b:Nat} {cs:Array Value} {e:TypeId},w.heap[b]?=some (.cells cs e (0,0))→e≠3→vG.ownBlock≠some b:=fun {b cs e} hb he e2=>by
    obtain⟨cur,hc⟩:=t.og.elem e2;rw[hb]at hc;injection hc with hc;injection hc with _ h2 _;exact he h2
   refine⟨(stayT w' mv).1,⟨t.mo.mv.trans mv (fun b hb=>Or.inr (t.nb b (gT b hb)).2),t.mo.fo,t.mo.ad,t.mo.nn⟩,t.nb,(oth bs (Or.inl rfl) (boxG t.cs (by decide))).trans t.cs,(oth bg (Or.inr (Or.inl rfl)) (boxG t.cg (by decide))).trans t.cg,(oth bx (Or.inr (Or.inr (Or.inl rfl))) (boxG t.cx (by decide))).trans t.cx,t.ne,t.ol.stay (fun b hb=>oth b (Or.inr (Or.inr (Or.inr (Or.inl hb)))) (fun e=>t.og.ne t.ol (by decide) e hb)),?_,t.ox.stay (fun b hb=>oth b (Or.inr (Or.inr (Or.inr (Or.inr (Or.inr hb))))) (fun e=>t.dis b e hb)),t.dis⟩
   rw[hlG,← hlen];exact ol'.congr (fun i hi=>by rw[encE ys i (by rw[List.length_map]at hlG;omega)])
end Sat
open Go.RowKit
namespace Sat
open Euf (OL App)
structure TL (g:Nat) (dB:Dt) (aB:Key→Value) (w0:World) (d:Dt) (bs:Nat) (vL:Value) (L:List Nat) (j:Nat) (d2:Dt) (a2:Key→Value) (w:World):Prop where
  sl:SL g dB aB w0 d2 a2 vL L w
  cs:w.heap[bs]?=some (.cells #[.pointer (some ⟨g,0,none⟩)] 27 (0,0))
  nb:¬ Fo g d2 a2 bs∧w0.heap.size≤bs
  fm:FM d d2
  mk_:MK d2
  ma:∀v,d2.M v≠0↔v∈(L.take j).map (· / 2)
section
variable {g:Nat} {dB:Dt} {aB:Key→Value} {w0:World} {d:Dt} {bs:Nat} {vL:Value} {L:List Nat} {j:Nat} {d2:Dt} {a2 a3:Key→Value} {w w3:World}
theorem TL.drewN (t:TL g dB aB w0 d bs vL L j d2 a2 w) (n:Nat):TL g dB aB w0 d bs vL L j d2 a2 (w.drewN n):={ t with sl:=t.sl.drewN n,cs:=t.cs }
theorem TL.lt (t:TL g dB aB w0 d bs vL L j d2 a2 w):bs<w.heap.size:=(Array.getElem?_eq_some_iff.1 t.cs).1
theorem TL.mark (t:TL g dB aB w0 d bs vL L j d2 a2 w) (hnd:(L.map (· / 2)).Nodup) (hj:j<L.length) {u:Nat} (hu:L[j] / 2=u) (hv:u≤d.nv) (s3:SW w3 g { d2 with F:=upd d2.F u ((d2.F u).mk_ 1),mks:=d2.mks++[u] } a3) (m3:Mo g d2 a2 w { d2 with F:=upd d2.F u ((d2.F u).mk_ 1),mks:=d2.mks++[u] } a3 w3):TL g dB aB w0 d bs vL L (j+1) { d2 with F:=upd d2.F u ((d2.F u).mk_ 1),mks:=d2.mks++[u] } a3 w3:=by
 have e:(L.take (j+1)).map (· / 2)=(L.take j).map (· / 2)++[u]:=by rw[List.take_succ_eq_append_getElem hj,List.map_append];simp[hu]
 have hnot:u ∉ (L.take j).map (· / 2):=fun h9=>by
  have h8:((L.take (j+1)).map (· / 2)).Nodup:=by rw[List.map_take];exact hnd.sublist (List.take_sublist _ _)
  rw[e,List.nodup_append]at h8;exact h8.2.2 u h9 u (by simp) rfl
 have h0:(d2.F u).mark=0:=by
  apply Classical.byContradiction
  intro h9;exact hnot ((t.ma u).1 h9)
 refine⟨t.sl.call s3 m3,?_,⟨fun hf=>?_,t.nb.2⟩,t.fm.mark_ u 1 _,t.mk_.mark_ h0 (by rw[t.fm.nv];exact hv) (by decide),fun v=>?_⟩
 · exact (m3.mv.other bs t.lt t.nb.1).trans t.cs
 ·
  rcases m3.fo bs hf with h9|h9
  · exact t.nb.1 h9
  · have:=t.lt;omega
 ·
  rw[M_upd,e];by_cases ev:v=u
  · subst ev;rw[upd_same];simp
  · rw[upd_other _ _ ev,t.ma v];simp[ev]
theorem TL.tw (t:TL g dB aB w0 d bs vL L j d2 a2 w):TW g dB aB w0 d2 a2 bs w.heap.size (w.heap.size+1) vL (.slice none 0 0) (.slice none 0 0) L [] [] ((w.alloc (.cells #[.slice none 0 0] 35 (0,0))).alloc (.cells #[.slice none 0 0] 35 (0,0))):=by
 have hb:Below w.heap.size w ((w.alloc (.cells #[.slice none 0 0] 35 (0,0))).alloc (.cells #[.slice none 0 0] 35 (0,0))):=⟨rfl,rfl,rfl,by simp;omega,fun b h=>by
  rw[Below.heap_alloc _ _ b (by simp;omega),Below.heap_alloc _ _ b h]⟩
 have s:=t.sl.below hb;have g1:((w.alloc (.cells #[.slice none 0 0] 35 (0,0))).alloc (.cells #[.slice none 0 0] 35 (0,0))).heap[w.heap.size]?=some (.cells #[.slice none 0 0] 35 (0,0)):=by
  rw[Below.heap_alloc _ _ _ (by simp)];exact heap_alloc_new w _
 have g2:((w.alloc (.cells #[.slice none 0 0] 35 (0,0))).alloc (.cells #[.slice none 0 0] 35 (0,0))).heap[w.heap.size+1]?=some (.cells #[.slice none 0 0] 35 (0,0)):=by
  have h9:=heap_alloc_new (w.alloc (.cells #[.slice none 0 0] 35 (0,0))) (.cells #[.slice none 0 0] 35 (0,0));have e:(w.alloc (.cells #[.slice none 0 0] 35 (0,0))).heap.size=w.heap.size+1:=by simp
  rw[e]at h9;exact h9
 have nf:∀b,w.heap.size≤b→¬ Fo g d2 a2 b∧w0.heap.size≤b:=fun b hb=>⟨fun hf=>by have:=t.sl.sw.foLt hf;omega,Nat.le_trans t.sl.mo.mv.size hb⟩
 refine⟨s.sw,s.mo,fun b hb=>?_,(hb.block bs t.lt).trans t.cs,g1,g2,by omega,s.ol,Euf.OL.nil _ _ _ _,Euf.OL.nil _ _ _ _,fun b h=>by cases h⟩
 rcases hb with h|h|h|h|h|h
 · subst h;exact t.nb
 · subst h;exact nf _ (Nat.le_refl _)
 · subst h;exact nf _ (by omega)
 · exact t.sl.nb b h
 · cases h
 · cases h
end
structure TK (g:Nat) (dB:Dt) (aB:Key→Value) (w0:World) (d:Dt) (a:Key→Value) (bs bg bx:Nat) (vL vG vX:Value) (L G X:List Nat) (vk:Value) (K:List (Nat × Nat)) (w:World):Prop where
  tw:TW g dB aB w0 d a bs bg bx vL vG vX L G X w
  ok:OL 2 127 w vk K.length (prC K)
  nk:∀b,vk.ownBlock=some b→¬ Fo g d a b∧w0.heap.size≤b
section
variable {g:Nat} {dB:Dt} {aB:Key→Value} {w0:World} {d:Dt} {a:Key→Value} {bs bg bx:Nat} {vL vG vX vk v':Value} {L G X:List Nat} {K:List (Nat × Nat)} {w w1:World} {p:Nat × Nat}
theorem TW.notK (t:TW g dB aB w0 d a bs bg bx vL vG vX L G X w) {n:Nat} {f:Nat→List Value} (h:OL 2 127 w vk n f) {b:Nat} (hb:TB bs bg bx vL vG vX b):vk.ownBlock≠some b:=fun e=>by
  obtain⟨cur,hc⟩:=h.elem e
  rcases hb with rfl|rfl|rfl|h9|h9|h9
  · rw[t.cs]at hc;injection hc with hc;injection hc with _ h2 _;exact absurd h2 (by decide)
  · rw[t.cg]at hc;injection hc with hc;injection hc with _ h2 _;exact absurd h2 (by decide)
  · rw[t.cx]at hc;injection hc with hc;injection hc with _ h2 _;exact absurd h2 (by decide)
  · exact h.ne t.ol (by decide) e h9
  · exact h.ne t.og (by decide) e h9
  · exact h.ne t.ox (by decide) e h9
theorem TK.start {vk:Value} (t:TW g dB aB w0 d a bs bg bx vL vG vX L G X w) (hb:Below w.heap.size w w1) (ho:OL 2 127 w1 vk 0 (prC [])) (hn:∀b,vk.ownBlock=some b→w.heap.size≤b):TK g dB aB w0 d a bs bg bx vL vG vX L G X vk [] w1 :=
  ⟨t.below hb,ho,fun b h=>⟨fun hf=>by have:=t.sw.foLt hf;have:=hn b h;omega,Nat.le_trans t.mo.mv.size (hn b h)⟩⟩
theorem TK.push (t:TK g dB aB w0 d a bs bg bx vL vG vX L G X vk K w) (hap:App vk v' w w1) (hol:OL 2 127 w1 v' (K.length+1) (prC (K++[p]))):TK g dB aB w0 d a bs bg bx vL vG vX L G X v' (K++[p]) w1:=by
 refine⟨t.tw.keep (t.tw.sw.keep (fun c hc=>hap.other c (t.tw.sw.foLt hc) (fun e=>(t.nk c e).1 hc))) ⟨t.tw.mo.mv.app hap (fun b hb=>Or.inr (t.nk b hb).2),t.tw.mo.fo,t.tw.mo.ad,t.tw.mo.nn⟩ (fun b hb=>(t.tw.nb b hb).1) (fun b hb=>hap.other b (t.tw.lt hb) (t.tw.notK t.ok hb)),by rw[List.length_append];exact hol,fun b hb=>?_⟩
 rcases hap.at_ with e|⟨b',e1,e2⟩
 · exact t.nk b (by rw[← e];exact hb)
 · rw[e1]at hb;injection hb with hb;subst hb;exact⟨fun hf=>by have:=t.tw.sw.foLt hf;omega,Nat.le_trans t.tw.mo.mv.size e2⟩
end
def TaEnd (g:Nat) (dB:Dt) (aB:Key→Value) (w0:World) (d:Dt) (clash:Nat) (vL:Value) (L:List Nat) (e:Ending) (w':World):Prop :=
  ∃d' a' vk K,e=.returned vk∧FM d d'∧MK d'∧SL g dB aB w0 d' a' vL L w'∧OL 2 127 w' vk K.length (prC K)∧(∀b,vk.ownBlock=some b→¬ Fo g d' a' b∧w0.heap.size≤b)∧Rsl d.C (·∈(d.C clash).lits) K (·∈L)∧(∀p∈K,p.1<d.nc)∧K.length≤30000
theorem TR.why {nv:Nat} {V:Nat→Int} {T S:List Nat} {F:Nat→Fc} {nc:Nat} {C:Nat→Cl} {clash:Nat} {L:List Nat} {Y:Nat→Prop} {M:Nat→Int} {G X Z:List Nat} (t:TR F C clash (L.map (· / 2)) M G X Z) (ti:TI nv V T S F nc C) (k:Cut T S F C clash L Y) {v:Nat} (hv:v∈G):∃r:Nat,(F v).reason=(r:Int)∧r<nc∧v≤nv∧∀m∈(C r).lits,Rc F C clash (L.map (· / 2)) (m / 2)∧0≤(F (m / 2)).level:=by
 obtain⟨h1,h2,h3⟩:=t.gk v hv;have hc:∀m∈(C clash).lits,ng m∈T:=fun m hm=>(k.cl m hm).1
 obtain⟨i,hi,ei⟩:=h1.on ti hc;have hok:=ti.ok _ (List.getElem_mem hi);rcases k.reach h1 with h4|h4
 · omega
 ·
  rcases (k.go v h4).2 with h5|⟨r,h5,h6⟩
  · exact absurd h5 h2
  ·
   have hr:=ti.reason hi (r:=r) (by rw[ei];exact h5)
   refine⟨r,h5,hr.1,by omega,fun m hm=>?_⟩
   have hrc:Rc F C clash (L.map (· / 2)) (m / 2):=.step h1 h2 h3 h5 hm;obtain⟨q,hq,eq⟩:=hrc.on ti hc;have h9:=(ti.pl q hq).2;rw[eq]at h9;exact⟨hrc,by rw[h9];omega⟩
end Sat
end Go.Proofs.YtbmkkhpoaicclabGreat
