/- The document's Resolve. It proves no statement of the seat. -/
import Derived.Test.YtbmkkhpoaicclabGreatSatYsJGrows
namespace Go.Proofs.YtbmkkhpoaicclabGreat
open Go Go.RowKit
set_option linter.unusedVariables false
set_option linter.unusedSimpArgs false
namespace Sat
open Euf (OL App)
theorem YS.push {w0 wr w':World} {v v':Value} {s:List Int} {x:Int} (h:YS w0 wr v s) (ha:App v v' wr w') (hl:OL 1 3 w' v' (s.length+1) (izC (s++[x]))):YS w0 w' v' (s++[x]):=by
 have hs:=h.bel.size;refine⟨⟨ha.os.trans h.bel.os,ha.tape.trans h.bel.tape,ha.output.trans h.bel.output,Nat.le_trans hs ha.size,fun b hb=>(ha.other b (by omega) (fun k=>absurd (h.own _ k) (by omega))).trans (h.bel.block b hb)⟩,by rw[List.length_append,List.length_singleton];exact hl,fun b hb=>?_⟩
 rcases ha.at_ with k|⟨b',k,k2⟩
 · exact h.own b (k ▸ hb)
 · rw[hb]at k;injection k with k;omega
theorem filt_one (x L:Int):[x].filter (· != L)=if (x != L)=true then [x] else []:=by
 cases h:(x != L)<;>simp[List.filter,h]
theorem BoolE.dec {e:Ending} {p:Prop} [Decidable p] (h:BoolE e p):e=.returned (.bool (decide p)):=by
 obtain⟨b,rfl,hb⟩:=h;cases b
 · rw[decide_eq_false (fun k=>by simpa using hb.2 k)]
 · rw[decide_eq_true (hb.1 rfl)]
def RrEnd (a b:List Int) (v:Int) (w:World) (e:Ending) (w':World):Prop :=
  Below w.heap.size w w' ∧
  ((∃l vr s,Rsv a b v l∧e=.returned (.tuple #[vr,.int .i64 0])∧s.Pairwise bw∧(∀x,x∈s↔RI a b l x)∧OL 1 3 w' vr s.length (izC s)∧∀c,vr.ownBlock=some c→w.heap.size≤c) ∨
   ((¬ ∃l,Rsv a b v l)∧e=.returned (.tuple #[.slice none 0 0,.int .i64 41])))
set_option maxRecDepth 20000 in
set_option maxHeartbeats 8000000 in
theorem rresolve_any (qa:Option Addr) (na ca:Nat) (a:List Int) (qb:Option Addr) (nb cb:Nat) (b:List Int) (v:Int) (w:World) (ha:IL w qa na ca a) (hb:IL w qb nb cb b) (hna:na≤20000) (hnb:nb≤20000) (hv:InI v) :
  Calls Tryz.prog 51 #[.slice qa na ca,.slice qb nb cb,.int .i64 v] w fun e w'=>RrEnd a b v w e w':=by
 have HA:=hide ha;have HB:=hide hb;have hla:=ha.len;have hlb:=hb.len;have HHa:Hid (∀l,Calls Tryz.prog 83 #[.slice qa na ca,.int .i64 l] w fun e w'=>e=.returned (.bool (decide (l∈a)))∧w'=w):=fun l=>(rhas_any qa na ca a l w HA.out).mono (by rintro e w' ⟨h9,rfl⟩;exact⟨h9.dec,rfl⟩)
 have HHb:Hid (∀l,Calls Tryz.prog 83 #[.slice qb nb cb,.int .i64 l] w fun e w'=>e=.returned (.bool (decide (l∈b)))∧w'=w):=fun l=>(rhas_any qb nb cb b l w HB.out).mono (by rintro e w' ⟨h9,rfl⟩;exact⟨h9.dec,rfl⟩)
 have HBR:=hide (Below.refl w.heap.size w);obtain⟨hv1,hv2⟩:=hv;clear ha hb;by_cases h1:v<1
 ·
  have HR:Hid (RrEnd a b v w (.returned (.tuple #[.slice none 0 0,.int .i64 41])) w):=⟨Below.refl _ _,Or.inr ⟨fun⟨l,k⟩=>by have:=k.1;omega,rfl⟩⟩
  go_enter Tryz.func51,Tryz.ntmps51;go_wp2;go_ret2
  exact HR.out
 ·
  have hvn:¬ v<1:=h1;by_cases p1:v∈a
  ·
   have d1:=decide_eq_true p1;by_cases p2:-v∈b
   ·
    have d2:=decide_eq_true p2;have RS:Hid (Rsv a b v v):=⟨by omega,Or.inl ⟨rfl,p1,p2⟩⟩
    have H1:Hid (YS w w (.slice none 0 0) ((a.take 0).filter (· != v))):=⟨Below.refl _ _,OL.nil _ _ _ _,fun c h=>by cases h⟩
    clear p1 p2;go_enter Tryz.func51,Tryz.ntmps51;go_wp2_with fail
    refine (HHa.out _).mono ?_;rintro e w9 ⟨rfl,hw9⟩;obtain rfl:=hw9.symm;rw[d1];go_wp2_with fail
    refine (HHb.out _).mono ?_;rintro e w9 ⟨rfl,hw9⟩;obtain rfl:=hw9.symm;rw[d2];go_wp2_with fail
    refine (HHa.out _).mono ?_;rintro e w9 ⟨rfl,hw9⟩;obtain rfl:=hw9.symm;rw[d1];go_wp2_with fail
    refine (HHb.out _).mono ?_;rintro e w9 ⟨rfl,hw9⟩;obtain rfl:=hw9.symm;rw[d2];go_wp2;go_loopw [9,10] (fun v9 vi wr=>∃i:Nat,vi=.int .i64 (i:Int)∧i≤na∧Hid (YS w wr v9 ((a.take i).filter (· != v)))) (fun _ v _=>na - (intOf v).toNat)
    case atStart=>exact⟨0,rfl,Nat.zero_le _,H1⟩
    case round =>
     rename World=>wl
     clear H1;obtain⟨i,rfl,hi,HY⟩:=hrel;obtain⟨n9,hn9⟩:∃n9,((a.take i).filter (· != v)).length=n9:=⟨_,rfl⟩;have hb9:n9≤40000:=by
      rw[← hn9];skip
      have h1:=List.length_filter_le (· != v) (a.take i);rw[List.length_take]at h1;skip
      omega
     obtain⟨a9,c9,hv,-,-,-,-⟩:=HY.out.list.shape;rw[hn9]at hv;subst hv;by_cases hlt:i<na
     ·
      have hltI:(i:Int)<(na:Int):=by omega
      obtain⟨x,hx⟩:∃x,a[i]?=some x:=⟨a[i]'(by omega),List.getElem?_eq_getElem _⟩
      have htk:a.take (i+1)=a.take i++[x]:=by rw[List.take_add_one,hx];rfl
      obtain⟨b0,off,hq,lb,cx⟩:∃b0 off,qa=some ⟨b0,off,none⟩∧b0<wl.heap.size∧wl.cell? ⟨b0,off+i,none⟩=some (.int .i64 x):=by
       have h9:=HA.out.below HY.out.bel;rcases h9.at_ with h0|⟨b0,off,h1,h2,h3⟩
       · rw[h0]at hx;simp at hx
       · refine⟨b0,off,h1,h2,?_⟩;have:=h3 i hlt;rwa [List.getD_eq_getElem?_getD,hx]at this
      subst hq;by_cases hxl:x=v
      ·
       have hxB:(x != v)=false:=by simpa using hxl
       have HN:Hid (YS w wl (.slice a9 n9 c9) ((a.take (i+1)).filter (· != v))):=by
        rw[htk,List.filter_append,filt_one,hxB,if_neg (by decide),List.append_nil];exact HY.out
       clear hx htk hxl;go_wp2;go_roundw
       case rel=>exact⟨i+1,by go_num,by omega,HN⟩
       case measure=>simp[intOf]<;>omega
      ·
       have hxB:(x != v)=true:=by simpa using hxl
       have HE:Hid ((a.take (i+1)).filter (· != v)=((a.take i).filter (· != v))++[x]):=by
        show _=_
        rw[htk,List.filter_append,filt_one,hxB,if_pos rfl]
       have HN9:=hide hn9;clear hx htk hxl;go_wp2_with (at_builtin;refine Euf.Stop.of ?_)
       show wpList _ _ _ _ _ _
       have hol3:OL 1 3 (wl.alloc (.cells #[.int .i64 x] 3 (0,0))) (.slice a9 n9 c9) n9 (izC ((a.take i).filter (· != v))):=by
        have hl:=HY.out.list;rw[HN9.out]at hl;exact hl.stay fun b hb=>Below.heap_alloc wl _ b (hl.lt hb)
       refine Euf.wpList_push rfl (.tmp 51) (.tmp 56) 35 rfl 1 3 _ 8 uInts iInt (by decide) rfl (by decide) (.slice a9 n9 c9) n9 (izC ((a.take i).filter (· != v))) rfl [.int .i64 x] 3 hol3 (fun _ _=>rfl) 1 rfl rfl (by intro u hu;simp at hu;subst hu;rfl) (by omega) (izC (((a.take i).filter (· != v))++[x])) (fun j hj=>by unfold izC;rw[List.getD_eq_getElem?_getD,List.getElem?_append_left (by rw[HN9.out];exact hj),← List.getD_eq_getElem?_getD]) (by unfold izC;rw[List.getD_eq_getElem?_getD,List.getElem?_append_right (by rw[HN9.out];exact Nat.le_refl _),HN9.out];simp) ?_
       intro v4 w4 hol4 hap4 hne4;replace hap4:=hap4.of_alloc (fun b hb=>HY.out.list.lt hb)
       have HN:Hid (YS w w4 v4 ((a.take (i+1)).filter (· != v))):=by
        rw[HE.out];exact HY.out.push hap4 (by rw[HN9.out];exact hol4)
       clear hol3 hol4 hap4 hne4 HY HE HN9;go_wp2;go_roundw
       case rel=>exact⟨i+1,by go_num,by omega,HN⟩
       case measure=>simp[intOf]<;>omega
     ·
      have hltI:¬ (i:Int)<(na:Int):=by omega
      obtain rfl:i=na:=by omega
      have H2:Hid (YS w wl (.slice a9 n9 c9) (a.filter (· != v)++(b.take 0).filter (· != (-v)))):=by
       have h9:=HY.out;rw[List.take_of_length_le (by rw[HA.out.len];exact Nat.le_refl _)]at h9
       rw[List.take_zero,List.filter_nil,List.append_nil];exact h9
      clear HY hn9 hltI hb9;go_wp2;go_loopw [9,11] (fun v9 vi wr=>∃i:Nat,vi=.int .i64 (i:Int)∧i≤nb∧Hid (YS w wr v9 (a.filter (· != v)++(b.take i).filter (· != (-v))))) (fun _ v _=>nb - (intOf v).toNat)
      case atStart=>exact⟨0,rfl,Nat.zero_le _,H2⟩
      case round =>
       rename World=>wl
       clear H2;obtain⟨i,rfl,hi,HY⟩:=hrel;obtain⟨n9,hn9⟩:∃n9,(a.filter (· != v)++(b.take i).filter (· != (-v))).length=n9:=⟨_,rfl⟩;have hb9:n9≤40000:=by
        rw[← hn9];rw[List.length_append];have h1:=List.length_filter_le (· != (-v)) (b.take i);rw[List.length_take]at h1;have h2:=List.length_filter_le (· != v) a;omega
       obtain⟨a9,c9,hv,-,-,-,-⟩:=HY.out.list.shape;rw[hn9]at hv;subst hv;by_cases hlt:i<nb
       ·
        have hltI:(i:Int)<(nb:Int):=by omega
        obtain⟨x,hx⟩:∃x,b[i]?=some x:=⟨b[i]'(by omega),List.getElem?_eq_getElem _⟩
        have htk:b.take (i+1)=b.take i++[x]:=by rw[List.take_add_one,hx];rfl
        obtain⟨b0,off,hq,lb,cx⟩:∃b0 off,qb=some ⟨b0,off,none⟩∧b0<wl.heap.size∧wl.cell? ⟨b0,off+i,none⟩=some (.int .i64 x):=by
         have h9:=HB.out.below HY.out.bel;rcases h9.at_ with h0|⟨b0,off,h1,h2,h3⟩
         · rw[h0]at hx;simp at hx
         · refine⟨b0,off,h1,h2,?_⟩;have:=h3 i hlt;rwa [List.getD_eq_getElem?_getD,hx]at this
        subst hq;by_cases hxl:x=(-v)
        ·
         have hxB:(x != (-v))=false:=by simpa using hxl
         have HN:Hid (YS w wl (.slice a9 n9 c9) (a.filter (· != v)++(b.take (i+1)).filter (· != (-v)))):=by
          rw[htk,List.filter_append,filt_one,hxB,if_neg (by decide),List.append_nil];exact HY.out
         clear hx htk hxl;go_wp2;go_roundw
         case rel=>exact⟨i+1,by go_num,by omega,HN⟩
         case measure=>simp[intOf]<;>omega
        ·
         have hxB:(x != (-v))=true:=by simpa using hxl
         have HE:Hid (a.filter (· != v)++(b.take (i+1)).filter (· != (-v))=(a.filter (· != v)++(b.take i).filter (· != (-v)))++[x]):=by
          show _=_
          rw[htk,List.filter_append,filt_one,hxB,if_pos rfl];rw[List.append_assoc]
         have HN9:=hide hn9;clear hx htk hxl;go_wp2_with (at_builtin;refine Euf.Stop.of ?_)
         show wpList _ _ _ _ _ _
         have hol3:OL 1 3 (wl.alloc (.cells #[.int .i64 x] 3 (0,0))) (.slice a9 n9 c9) n9 (izC (a.filter (· != v)++(b.take i).filter (· != (-v)))):=by
          have hl:=HY.out.list;rw[HN9.out]at hl;exact hl.stay fun b hb=>Below.heap_alloc wl _ b (hl.lt hb)
         refine Euf.wpList_push rfl (.tmp 71) (.tmp 76) 35 rfl 1 3 _ 8 uInts iInt (by decide) rfl (by decide) (.slice a9 n9 c9) n9 (izC (a.filter (· != v)++(b.take i).filter (· != (-v)))) rfl [.int .i64 x] 3 hol3 (fun _ _=>rfl) 1 rfl rfl (by intro u hu;simp at hu;subst hu;rfl) (by omega) (izC ((a.filter (· != v)++(b.take i).filter (· != (-v)))++[x])) (fun j hj=>by unfold izC;rw[List.getD_eq_getElem?_getD,List.getElem?_append_left (by rw[HN9.out];exact hj),← List.getD_eq_getElem?_getD]) (by unfold izC;rw[List.getD_eq_getElem?_getD,List.getElem?_append_right (by rw[HN9.out];exact Nat.le_refl _),HN9.out];simp) ?_
         intro v4 w4 hol4 hap4 hne4;replace hap4:=hap4.of_alloc (fun b hb=>HY.out.list.lt hb)
         have HN:Hid (YS w w4 v4 (a.filter (· != v)++(b.take (i+1)).filter (· != (-v)))):=by
          rw[HE.out];exact HY.out.push hap4 (by rw[HN9.out];exact hol4)
         clear hol3 hol4 hap4 hne4 HY HE HN9;go_wp2;go_roundw
         case rel=>exact⟨i+1,by go_num,by omega,HN⟩
         case measure=>simp[intOf]<;>omega
       ·
        have hltI:¬ (i:Int)<(nb:Int):=by omega
        obtain rfl:i=nb:=by omega
        have HF:Hid (YS w wl (.slice a9 n9 c9) (a.filter (· != v)++b.filter (· != (-v)))):=by
         have h9:=HY.out;rw[List.take_of_length_le (by rw[HB.out.len];exact Nat.le_refl _)]at h9
         exact h9
        have hn10:(a.filter (· != v)++b.filter (· != (-v))).length=n9:=by
         rw[← hn9,List.take_of_length_le (by rw[HB.out.len];exact Nat.le_refl _)]
        have HIN:Hid (∀z∈a.filter (· != v)++b.filter (· != (-v)),InI z):=by
         intro z hz;rcases List.mem_append.1 hz with h9|h9
         · exact HA.out.ok z ((List.mem_filter.1 h9).1)
         · exact HB.out.ok z ((List.mem_filter.1 h9).1)
        have HIL:Hid (IL wl a9 n9 c9 (a.filter (· != v)++b.filter (· != (-v)))):=by
         obtain⟨q9,c10,hv9,h9⟩:=Sat.OL.il HF.out.list HIN.out;rw[hn10]at hv9 h9;simp only[Value.slice.injEq]at hv9;obtain⟨rfl,-,rfl⟩:=hv9;exact h9
        clear HY hn9;go_wp2_with fail
        refine (rset_any _ _ _ _ wl HIL.out (by omega)).mono ?_
        rintro e w8 ⟨vr,s,rfl,hS,hol,how,hb8⟩;have HR:Hid (RrEnd a b v w (.returned (.tuple #[vr,.int .i64 0])) w8):=by
         refine⟨HF.out.bel.step hb8 (Nat.le_refl _),Or.inl ⟨v,vr,s,RS.out,rfl,hS.1,fun x=>?_,hol,fun c hc=>Nat.le_trans HF.out.bel.size (how c hc)⟩⟩
         rw[hS.2 x,List.mem_append,List.mem_filter,List.mem_filter];unfold RI;simp
        obtain⟨q8,c8,hv8,-⟩:=hol.shape;subst hv8;clear hS hol how hb8 HIL HF HIN hn10;go_wp2;go_ret2
        exact HR.out
   ·
    have d2:=decide_eq_false p2;by_cases p3:-v∈a
    ·
     have d3:=decide_eq_true p3;by_cases p4:v∈b
     ·
      have d4:=decide_eq_true p4;have RS:Hid (Rsv a b v (-v)):=⟨by omega,Or.inr ⟨rfl,(fun q=>p2 q.2),p3,p4⟩⟩
      have H1:Hid (YS w w (.slice none 0 0) ((a.take 0).filter (· != (-v)))):=⟨Below.refl _ _,OL.nil _ _ _ _,fun c h=>by cases h⟩
      clear p3 p4;go_enter Tryz.func51,Tryz.ntmps51;go_wp2_with fail
      refine (HHa.out _).mono ?_;rintro e w9 ⟨rfl,hw9⟩;obtain rfl:=hw9.symm;rw[d1];go_wp2_with fail
      refine (HHb.out _).mono ?_;rintro e w9 ⟨rfl,hw9⟩;obtain rfl:=hw9.symm;rw[d2];go_wp2_with fail
      refine (HHa.out _).mono ?_;rintro e w9 ⟨rfl,hw9⟩;obtain rfl:=hw9.symm;rw[d3];go_wp2_with fail
      refine (HHb.out _).mono ?_;rintro e w9 ⟨rfl,hw9⟩;obtain rfl:=hw9.symm;rw[d4];go_wp2;go_loopw [9,10] (fun v9 vi wr=>∃i:Nat,vi=.int .i64 (i:Int)∧i≤na∧Hid (YS w wr v9 ((a.take i).filter (· != (-v))))) (fun _ v _=>na - (intOf v).toNat)
      case atStart=>exact⟨0,rfl,Nat.zero_le _,H1⟩
      case round =>
       rename World=>wl
       clear H1;obtain⟨i,rfl,hi,HY⟩:=hrel;obtain⟨n9,hn9⟩:∃n9,((a.take i).filter (· != (-v))).length=n9:=⟨_,rfl⟩;have hb9:n9≤40000:=by
        rw[← hn9];skip
        have h1:=List.length_filter_le (· != (-v)) (a.take i);rw[List.length_take]at h1;skip
        omega
       obtain⟨a9,c9,hv,-,-,-,-⟩:=HY.out.list.shape;rw[hn9]at hv;subst hv;by_cases hlt:i<na
       ·
        have hltI:(i:Int)<(na:Int):=by omega
        obtain⟨x,hx⟩:∃x,a[i]?=some x:=⟨a[i]'(by omega),List.getElem?_eq_getElem _⟩
        have htk:a.take (i+1)=a.take i++[x]:=by rw[List.take_add_one,hx];rfl
        obtain⟨b0,off,hq,lb,cx⟩:∃b0 off,qa=some ⟨b0,off,none⟩∧b0<wl.heap.size∧wl.cell? ⟨b0,off+i,none⟩=some (.int .i64 x):=by
         have h9:=HA.out.below HY.out.bel;rcases h9.at_ with h0|⟨b0,off,h1,h2,h3⟩
         · rw[h0]at hx;simp at hx
         · refine⟨b0,off,h1,h2,?_⟩;have:=h3 i hlt;rwa [List.getD_eq_getElem?_getD,hx]at this
        subst hq;by_cases hxl:x=(-v)
        ·
         have hxB:(x != (-v))=false:=by simpa using hxl
         have HN:Hid (YS w wl (.slice a9 n9 c9) ((a.take (i+1)).filter (· != (-v)))):=by
          rw[htk,List.filter_append,filt_one,hxB,if_neg (by decide),List.append_nil];exact HY.out
         clear hx htk hxl;go_wp2;go_roundw
         case rel=>exact⟨i+1,by go_num,by omega,HN⟩
         case measure=>simp[intOf]<;>omega
        ·
         have hxB:(x != (-v))=true:=by simpa using hxl
         have HE:Hid ((a.take (i+1)).filter (· != (-v))=((a.take i).filter (· != (-v)))++[x]):=by
          show _=_
          rw[htk,List.filter_append,filt_one,hxB,if_pos rfl]
         have HN9:=hide hn9;clear hx htk hxl;go_wp2_with (at_builtin;refine Euf.Stop.of ?_)
         show wpList _ _ _ _ _ _
         have hol3:OL 1 3 (wl.alloc (.cells #[.int .i64 x] 3 (0,0))) (.slice a9 n9 c9) n9 (izC ((a.take i).filter (· != (-v)))):=by
          have hl:=HY.out.list;rw[HN9.out]at hl;exact hl.stay fun b hb=>Below.heap_alloc wl _ b (hl.lt hb)
         refine Euf.wpList_push rfl (.tmp 51) (.tmp 56) 35 rfl 1 3 _ 8 uInts iInt (by decide) rfl (by decide) (.slice a9 n9 c9) n9 (izC ((a.take i).filter (· != (-v)))) rfl [.int .i64 x] 3 hol3 (fun _ _=>rfl) 1 rfl rfl (by intro u hu;simp at hu;subst hu;rfl) (by omega) (izC (((a.take i).filter (· != (-v)))++[x])) (fun j hj=>by unfold izC;rw[List.getD_eq_getElem?_getD,List.getElem?_append_left (by rw[HN9.out];exact hj),← List.getD_eq_getElem?_getD]) (by unfold izC;rw[List.getD_eq_getElem?_getD,List.getElem?_append_right (by rw[HN9.out];exact Nat.le_refl _),HN9.out];simp) ?_
         intro v4 w4 hol4 hap4 hne4;replace hap4:=hap4.of_alloc (fun b hb=>HY.out.list.lt hb)
         have HN:Hid (YS w w4 v4 ((a.take (i+1)).filter (· != (-v)))):=by
          rw[HE.out];exact HY.out.push hap4 (by rw[HN9.out];exact hol4)
         clear hol3 hol4 hap4 hne4 HY HE HN9;go_wp2;go_roundw
         case rel=>exact⟨i+1,by go_num,by omega,HN⟩
         case measure=>simp[intOf]<;>omega
       ·
        have hltI:¬ (i:Int)<(na:Int):=by omega
        obtain rfl:i=na:=by omega
        have H2:Hid (YS w wl (.slice a9 n9 c9) (a.filter (· != (-v))++(b.take 0).filter (· != v))):=by
         have h9:=HY.out;rw[List.take_of_length_le (by rw[HA.out.len];exact Nat.le_refl _)]at h9
         rw[List.take_zero,List.filter_nil,List.append_nil];exact h9
        clear HY hn9 hltI hb9;go_wp2;go_loopw [9,11] (fun v9 vi wr=>∃i:Nat,vi=.int .i64 (i:Int)∧i≤nb∧Hid (YS w wr v9 (a.filter (· != (-v))++(b.take i).filter (· != v)))) (fun _ v _=>nb - (intOf v).toNat)
        case atStart=>exact⟨0,rfl,Nat.zero_le _,H2⟩
        case round =>
         rename World=>wl
         clear H2;obtain⟨i,rfl,hi,HY⟩:=hrel;obtain⟨n9,hn9⟩:∃n9,(a.filter (· != (-v))++(b.take i).filter (· != v)).length=n9:=⟨_,rfl⟩;have hb9:n9≤40000:=by
          rw[← hn9];rw[List.length_append];have h1:=List.length_filter_le (· != v) (b.take i);rw[List.length_take]at h1;have h2:=List.length_filter_le (· != (-v)) a;omega
         obtain⟨a9,c9,hv,-,-,-,-⟩:=HY.out.list.shape;rw[hn9]at hv;subst hv;by_cases hlt:i<nb
         ·
          have hltI:(i:Int)<(nb:Int):=by omega
          obtain⟨x,hx⟩:∃x,b[i]?=some x:=⟨b[i]'(by omega),List.getElem?_eq_getElem _⟩
          have htk:b.take (i+1)=b.take i++[x]:=by rw[List.take_add_one,hx];rfl
          obtain⟨b0,off,hq,lb,cx⟩:∃b0 off,qb=some ⟨b0,off,none⟩∧b0<wl.heap.size∧wl.cell? ⟨b0,off+i,none⟩=some (.int .i64 x):=by
           have h9:=HB.out.below HY.out.bel;rcases h9.at_ with h0|⟨b0,off,h1,h2,h3⟩
           · rw[h0]at hx;simp at hx
           · refine⟨b0,off,h1,h2,?_⟩;have:=h3 i hlt;rwa [List.getD_eq_getElem?_getD,hx]at this
          subst hq;by_cases hxl:x=v
          ·
           have hxB:(x != v)=false:=by simpa using hxl
           have HN:Hid (YS w wl (.slice a9 n9 c9) (a.filter (· != (-v))++(b.take (i+1)).filter (· != v))):=by
            rw[htk,List.filter_append,filt_one,hxB,if_neg (by decide),List.append_nil];exact HY.out
           clear hx htk hxl;go_wp2;go_roundw
           case rel=>exact⟨i+1,by go_num,by omega,HN⟩
           case measure=>simp[intOf]<;>omega
          ·
           have hxB:(x != v)=true:=by simpa using hxl
           have HE:Hid (a.filter (· != (-v))++(b.take (i+1)).filter (· != v)=(a.filter (· != (-v))++(b.take i).filter (· != v))++[x]):=by
            show _=_
            rw[htk,List.filter_append,filt_one,hxB,if_pos rfl];rw[List.append_assoc]
           have HN9:=hide hn9;clear hx htk hxl;go_wp2_with (at_builtin;refine Euf.Stop.of ?_)
           show wpList _ _ _ _ _ _
           have hol3:OL 1 3 (wl.alloc (.cells #[.int .i64 x] 3 (0,0))) (.slice a9 n9 c9) n9 (izC (a.filter (· != (-v))++(b.take i).filter (· != v))):=by
            have hl:=HY.out.list;rw[HN9.out]at hl;exact hl.stay fun b hb=>Below.heap_alloc wl _ b (hl.lt hb)
           refine Euf.wpList_push rfl (.tmp 71) (.tmp 76) 35 rfl 1 3 _ 8 uInts iInt (by decide) rfl (by decide) (.slice a9 n9 c9) n9 (izC (a.filter (· != (-v))++(b.take i).filter (· != v))) rfl [.int .i64 x] 3 hol3 (fun _ _=>rfl) 1 rfl rfl (by intro u hu;simp at hu;subst hu;rfl) (by omega) (izC ((a.filter (· != (-v))++(b.take i).filter (· != v))++[x])) (fun j hj=>by unfold izC;rw[List.getD_eq_getElem?_getD,List.getElem?_append_left (by rw[HN9.out];exact hj),← List.getD_eq_getElem?_getD]) (by unfold izC;rw[List.getD_eq_getElem?_getD,List.getElem?_append_right (by rw[HN9.out];exact Nat.le_refl _),HN9.out];simp) ?_
           intro v4 w4 hol4 hap4 hne4;replace hap4:=hap4.of_alloc (fun b hb=>HY.out.list.lt hb)
           have HN:Hid (YS w w4 v4 (a.filter (· != (-v))++(b.take (i+1)).filter (· != v))):=by
            rw[HE.out];exact HY.out.push hap4 (by rw[HN9.out];exact hol4)
           clear hol3 hol4 hap4 hne4 HY HE HN9;go_wp2;go_roundw
           case rel=>exact⟨i+1,by go_num,by omega,HN⟩
           case measure=>simp[intOf]<;>omega
         ·
          have hltI:¬ (i:Int)<(nb:Int):=by omega
          obtain rfl:i=nb:=by omega
          have HF:Hid (YS w wl (.slice a9 n9 c9) (a.filter (· != (-v))++b.filter (· != v))):=by
           have h9:=HY.out;rw[List.take_of_length_le (by rw[HB.out.len];exact Nat.le_refl _)]at h9
           exact h9
          have hn10:(a.filter (· != (-v))++b.filter (· != v)).length=n9:=by
           rw[← hn9,List.take_of_length_le (by rw[HB.out.len];exact Nat.le_refl _)]
          have HIN:Hid (∀z∈a.filter (· != (-v))++b.filter (· != v),InI z):=by
           intro z hz;rcases List.mem_append.1 hz with h9|h9
           · exact HA.out.ok z ((List.mem_filter.1 h9).1)
           · exact HB.out.ok z ((List.mem_filter.1 h9).1)
          have HIL:Hid (IL wl a9 n9 c9 (a.filter (· != (-v))++b.filter (· != v))):=by
           obtain⟨q9,c10,hv9,h9⟩:=Sat.OL.il HF.out.list HIN.out;rw[hn10]at hv9 h9;simp only[Value.slice.injEq]at hv9;obtain⟨rfl,-,rfl⟩:=hv9;exact h9
          clear HY hn9;go_wp2_with fail
          refine (rset_any _ _ _ _ wl HIL.out (by omega)).mono ?_
          rintro e w8 ⟨vr,s,rfl,hS,hol,how,hb8⟩;have HR:Hid (RrEnd a b v w (.returned (.tuple #[vr,.int .i64 0])) w8):=by
           refine⟨HF.out.bel.step hb8 (Nat.le_refl _),Or.inl ⟨(-v),vr,s,RS.out,rfl,hS.1,fun x=>?_,hol,fun c hc=>Nat.le_trans HF.out.bel.size (how c hc)⟩⟩
           rw[hS.2 x,List.mem_append,List.mem_filter,List.mem_filter];unfold RI;simp
          obtain⟨q8,c8,hv8,-⟩:=hol.shape;subst hv8;clear hS hol how hb8 HIL HF HIN hn10;go_wp2;go_ret2
          exact HR.out
     ·
      have d4:=decide_eq_false p4;have HR:Hid (RrEnd a b v w (.returned (.tuple #[.slice none 0 0,.int .i64 41])) w):=⟨Below.refl _ _,Or.inr ⟨fun⟨l,k⟩=>k.2.elim (fun q=>p2 q.2.2) (fun q=>p4 q.2.2.2),rfl⟩⟩
      go_enter Tryz.func51,Tryz.ntmps51;go_wp2_with fail
      refine (HHa.out _).mono ?_;rintro e w9 ⟨rfl,hw9⟩;obtain rfl:=hw9.symm;rw[d1];go_wp2_with fail
      refine (HHb.out _).mono ?_;rintro e w9 ⟨rfl,hw9⟩;obtain rfl:=hw9.symm;rw[d2];go_wp2_with fail
      refine (HHa.out _).mono ?_;rintro e w9 ⟨rfl,hw9⟩;obtain rfl:=hw9.symm;rw[d3];go_wp2_with fail
      refine (HHb.out _).mono ?_;rintro e w9 ⟨rfl,hw9⟩;obtain rfl:=hw9.symm;rw[d4];go_wp2;go_ret2
      exact HR.out
    ·
     have d3:=decide_eq_false p3;have HR:Hid (RrEnd a b v w (.returned (.tuple #[.slice none 0 0,.int .i64 41])) w):=⟨Below.refl _ _,Or.inr ⟨fun⟨l,k⟩=>k.2.elim (fun q=>p2 q.2.2) (fun q=>p3 q.2.2.1),rfl⟩⟩
     go_enter Tryz.func51,Tryz.ntmps51;go_wp2_with fail
     refine (HHa.out _).mono ?_;rintro e w9 ⟨rfl,hw9⟩;obtain rfl:=hw9.symm;rw[d1];go_wp2_with fail
     refine (HHb.out _).mono ?_;rintro e w9 ⟨rfl,hw9⟩;obtain rfl:=hw9.symm;rw[d2];go_wp2_with fail
     refine (HHa.out _).mono ?_;rintro e w9 ⟨rfl,hw9⟩;obtain rfl:=hw9.symm;rw[d3];go_wp2;go_ret2
     exact HR.out
  ·
   have d1:=decide_eq_false p1;by_cases p3:-v∈a
   ·
    have d3:=decide_eq_true p3;by_cases p4:v∈b
    ·
     have d4:=decide_eq_true p4;have RS:Hid (Rsv a b v (-v)):=⟨by omega,Or.inr ⟨rfl,(fun q=>p1 q.1),p3,p4⟩⟩
     have H1:Hid (YS w w (.slice none 0 0) ((a.take 0).filter (· != (-v)))):=⟨Below.refl _ _,OL.nil _ _ _ _,fun c h=>by cases h⟩
     clear p3 p4;go_enter Tryz.func51,Tryz.ntmps51;go_wp2_with fail
     refine (HHa.out _).mono ?_;rintro e w9 ⟨rfl,hw9⟩;obtain rfl:=hw9.symm;rw[d1];go_wp2_with fail
     refine (HHa.out _).mono ?_;rintro e w9 ⟨rfl,hw9⟩;obtain rfl:=hw9.symm;rw[d3];go_wp2_with fail
     refine (HHb.out _).mono ?_;rintro e w9 ⟨rfl,hw9⟩;obtain rfl:=hw9.symm;rw[d4];go_wp2;go_loopw [9,10] (fun v9 vi wr=>∃i:Nat,vi=.int .i64 (i:Int)∧i≤na∧Hid (YS w wr v9 ((a.take i).filter (· != (-v))))) (fun _ v _=>na - (intOf v).toNat)
     case atStart=>exact⟨0,rfl,Nat.zero_le _,H1⟩
     case round =>
      rename World=>wl
      clear H1;obtain⟨i,rfl,hi,HY⟩:=hrel;obtain⟨n9,hn9⟩:∃n9,((a.take i).filter (· != (-v))).length=n9:=⟨_,rfl⟩;have hb9:n9≤40000:=by
       rw[← hn9];skip
       have h1:=List.length_filter_le (· != (-v)) (a.take i);rw[List.length_take]at h1;skip
       omega
      obtain⟨a9,c9,hv,-,-,-,-⟩:=HY.out.list.shape;rw[hn9]at hv;subst hv;by_cases hlt:i<na
      ·
       have hltI:(i:Int)<(na:Int):=by omega
       obtain⟨x,hx⟩:∃x,a[i]?=some x:=⟨a[i]'(by omega),List.getElem?_eq_getElem _⟩
       have htk:a.take (i+1)=a.take i++[x]:=by rw[List.take_add_one,hx];rfl
       obtain⟨b0,off,hq,lb,cx⟩:∃b0 off,qa=some ⟨b0,off,none⟩∧b0<wl.heap.size∧wl.cell? ⟨b0,off+i,none⟩=some (.int .i64 x):=by
        have h9:=HA.out.below HY.out.bel;rcases h9.at_ with h0|⟨b0,off,h1,h2,h3⟩
        · rw[h0]at hx;simp at hx
        · refine⟨b0,off,h1,h2,?_⟩;have:=h3 i hlt;rwa [List.getD_eq_getElem?_getD,hx]at this
       subst hq;by_cases hxl:x=(-v)
       ·
        have hxB:(x != (-v))=false:=by simpa using hxl
        have HN:Hid (YS w wl (.slice a9 n9 c9) ((a.take (i+1)).filter (· != (-v)))):=by
         rw[htk,List.filter_append,filt_one,hxB,if_neg (by decide),List.append_nil];exact HY.out
        clear hx htk hxl;go_wp2;go_roundw
        case rel=>exact⟨i+1,by go_num,by omega,HN⟩
        case measure=>simp[intOf]<;>omega
       ·
        have hxB:(x != (-v))=true:=by simpa using hxl
        have HE:Hid ((a.take (i+1)).filter (· != (-v))=((a.take i).filter (· != (-v)))++[x]):=by
         show _=_
         rw[htk,List.filter_append,filt_one,hxB,if_pos rfl]
        have HN9:=hide hn9;clear hx htk hxl;go_wp2_with (at_builtin;refine Euf.Stop.of ?_)
        show wpList _ _ _ _ _ _
        have hol3:OL 1 3 (wl.alloc (.cells #[.int .i64 x] 3 (0,0))) (.slice a9 n9 c9) n9 (izC ((a.take i).filter (· != (-v)))):=by
         have hl:=HY.out.list;rw[HN9.out]at hl;exact hl.stay fun b hb=>Below.heap_alloc wl _ b (hl.lt hb)
        refine Euf.wpList_push rfl (.tmp 51) (.tmp 56) 35 rfl 1 3 _ 8 uInts iInt (by decide) rfl (by decide) (.slice a9 n9 c9) n9 (izC ((a.take i).filter (· != (-v)))) rfl [.int .i64 x] 3 hol3 (fun _ _=>rfl) 1 rfl rfl (by intro u hu;simp at hu;subst hu;rfl) (by omega) (izC (((a.take i).filter (· != (-v)))++[x])) (fun j hj=>by unfold izC;rw[List.getD_eq_getElem?_getD,List.getElem?_append_left (by rw[HN9.out];exact hj),← List.getD_eq_getElem?_getD]) (by unfold izC;rw[List.getD_eq_getElem?_getD,List.getElem?_append_right (by rw[HN9.out];exact Nat.le_refl _),HN9.out];simp) ?_
        intro v4 w4 hol4 hap4 hne4;replace hap4:=hap4.of_alloc (fun b hb=>HY.out.list.lt hb)
        have HN:Hid (YS w w4 v4 ((a.take (i+1)).filter (· != (-v)))):=by
         rw[HE.out];exact HY.out.push hap4 (by rw[HN9.out];exact hol4)
        clear hol3 hol4 hap4 hne4 HY HE HN9;go_wp2;go_roundw
        case rel=>exact⟨i+1,by go_num,by omega,HN⟩
        case measure=>simp[intOf]<;>omega
      ·
       have hltI:¬ (i:Int)<(na:Int):=by omega
       obtain rfl:i=na:=by omega
       have H2:Hid (YS w wl (.slice a9 n9 c9) (a.filter (· != (-v))++(b.take 0).filter (· != v))):=by
        have h9:=HY.out;rw[List.take_of_length_le (by rw[HA.out.len];exact Nat.le_refl _)]at h9
        rw[List.take_zero,List.filter_nil,List.append_nil];exact h9
       clear HY hn9 hltI hb9;go_wp2;go_loopw [9,11] (fun v9 vi wr=>∃i:Nat,vi=.int .i64 (i:Int)∧i≤nb∧Hid (YS w wr v9 (a.filter (· != (-v))++(b.take i).filter (· != v)))) (fun _ v _=>nb - (intOf v).toNat)
       case atStart=>exact⟨0,rfl,Nat.zero_le _,H2⟩
       case round =>
        rename World=>wl
        clear H2;obtain⟨i,rfl,hi,HY⟩:=hrel;obtain⟨n9,hn9⟩:∃n9,(a.filter (· != (-v))++(b.take i).filter (· != v)).length=n9:=⟨_,rfl⟩;have hb9:n9≤40000:=by
         rw[← hn9];rw[List.length_append];have h1:=List.length_filter_le (· != v) (b.take i);rw[List.length_take]at h1;have h2:=List.length_filter_le (· != (-v)) a;omega
        obtain⟨a9,c9,hv,-,-,-,-⟩:=HY.out.list.shape;rw[hn9]at hv;subst hv;by_cases hlt:i<nb
        ·
         have hltI:(i:Int)<(nb:Int):=by omega
         obtain⟨x,hx⟩:∃x,b[i]?=some x:=⟨b[i]'(by omega),List.getElem?_eq_getElem _⟩
         have htk:b.take (i+1)=b.take i++[x]:=by rw[List.take_add_one,hx];rfl
         obtain⟨b0,off,hq,lb,cx⟩:∃b0 off,qb=some ⟨b0,off,none⟩∧b0<wl.heap.size∧wl.cell? ⟨b0,off+i,none⟩=some (.int .i64 x):=by
          have h9:=HB.out.below HY.out.bel;rcases h9.at_ with h0|⟨b0,off,h1,h2,h3⟩
          · rw[h0]at hx;simp at hx
          · refine⟨b0,off,h1,h2,?_⟩;have:=h3 i hlt;rwa [List.getD_eq_getElem?_getD,hx]at this
         subst hq;by_cases hxl:x=v
         ·
          have hxB:(x != v)=false:=by simpa using hxl
          have HN:Hid (YS w wl (.slice a9 n9 c9) (a.filter (· != (-v))++(b.take (i+1)).filter (· != v))):=by
           rw[htk,List.filter_append,filt_one,hxB,if_neg (by decide),List.append_nil];exact HY.out
          clear hx htk hxl;go_wp2;go_roundw
          case rel=>exact⟨i+1,by go_num,by omega,HN⟩
          case measure=>simp[intOf]<;>omega
         ·
          have hxB:(x != v)=true:=by simpa using hxl
          have HE:Hid (a.filter (· != (-v))++(b.take (i+1)).filter (· != v)=(a.filter (· != (-v))++(b.take i).filter (· != v))++[x]):=by
           show _=_
           rw[htk,List.filter_append,filt_one,hxB,if_pos rfl];rw[List.append_assoc]
          have HN9:=hide hn9;clear hx htk hxl;go_wp2_with (at_builtin;refine Euf.Stop.of ?_)
          show wpList _ _ _ _ _ _
          have hol3:OL 1 3 (wl.alloc (.cells #[.int .i64 x] 3 (0,0))) (.slice a9 n9 c9) n9 (izC (a.filter (· != (-v))++(b.take i).filter (· != v))):=by
           have hl:=HY.out.list;rw[HN9.out]at hl;exact hl.stay fun b hb=>Below.heap_alloc wl _ b (hl.lt hb)
          refine Euf.wpList_push rfl (.tmp 71) (.tmp 76) 35 rfl 1 3 _ 8 uInts iInt (by decide) rfl (by decide) (.slice a9 n9 c9) n9 (izC (a.filter (· != (-v))++(b.take i).filter (· != v))) rfl [.int .i64 x] 3 hol3 (fun _ _=>rfl) 1 rfl rfl (by intro u hu;simp at hu;subst hu;rfl) (by omega) (izC ((a.filter (· != (-v))++(b.take i).filter (· != v))++[x])) (fun j hj=>by unfold izC;rw[List.getD_eq_getElem?_getD,List.getElem?_append_left (by rw[HN9.out];exact hj),← List.getD_eq_getElem?_getD]) (by unfold izC;rw[List.getD_eq_getElem?_getD,List.getElem?_append_right (by rw[HN9.out];exact Nat.le_refl _),HN9.out];simp) ?_
          intro v4 w4 hol4 hap4 hne4;replace hap4:=hap4.of_alloc (fun b hb=>HY.out.list.lt hb)
          have HN:Hid (YS w w4 v4 (a.filter (· != (-v))++(b.take (i+1)).filter (· != v))):=by
           rw[HE.out];exact HY.out.push hap4 (by rw[HN9.out];exact hol4)
          clear hol3 hol4 hap4 hne4 HY HE HN9;go_wp2;go_roundw
          case rel=>exact⟨i+1,by go_num,by omega,HN⟩
          case measure=>simp[intOf]<;>omega
        ·
         have hltI:¬ (i:Int)<(nb:Int):=by omega
         obtain rfl:i=nb:=by omega
         have HF:Hid (YS w wl (.slice a9 n9 c9) (a.filter (· != (-v))++b.filter (· != v))):=by
          have h9:=HY.out;rw[List.take_of_length_le (by rw[HB.out.len];exact Nat.le_refl _)]at h9
          exact h9
         have hn10:(a.filter (· != (-v))++b.filter (· != v)).length=n9:=by
          rw[← hn9,List.take_of_length_le (by rw[HB.out.len];exact Nat.le_refl _)]
         have HIN:Hid (∀z∈a.filter (· != (-v))++b.filter (· != v),InI z):=by
          intro z hz;rcases List.mem_append.1 hz with h9|h9
          · exact HA.out.ok z ((List.mem_filter.1 h9).1)
          · exact HB.out.ok z ((List.mem_filter.1 h9).1)
         have HIL:Hid (IL wl a9 n9 c9 (a.filter (· != (-v))++b.filter (· != v))):=by
          obtain⟨q9,c10,hv9,h9⟩:=Sat.OL.il HF.out.list HIN.out;rw[hn10]at hv9 h9;simp only[Value.slice.injEq]at hv9;obtain⟨rfl,-,rfl⟩:=hv9;exact h9
         clear HY hn9;go_wp2_with fail
         refine (rset_any _ _ _ _ wl HIL.out (by omega)).mono ?_
         rintro e w8 ⟨vr,s,rfl,hS,hol,how,hb8⟩;have HR:Hid (RrEnd a b v w (.returned (.tuple #[vr,.int .i64 0])) w8):=by
          refine⟨HF.out.bel.step hb8 (Nat.le_refl _),Or.inl ⟨(-v),vr,s,RS.out,rfl,hS.1,fun x=>?_,hol,fun c hc=>Nat.le_trans HF.out.bel.size (how c hc)⟩⟩
          rw[hS.2 x,List.mem_append,List.mem_filter,List.mem_filter];unfold RI;simp
         obtain⟨q8,c8,hv8,-⟩:=hol.shape;subst hv8;clear hS hol how hb8 HIL HF HIN hn10;go_wp2;go_ret2
         exact HR.out
    ·
     have d4:=decide_eq_false p4;have HR:Hid (RrEnd a b v w (.returned (.tuple #[.slice none 0 0,.int .i64 41])) w):=⟨Below.refl _ _,Or.inr ⟨fun⟨l,k⟩=>k.2.elim (fun q=>p1 q.2.1) (fun q=>p4 q.2.2.2),rfl⟩⟩
     go_enter Tryz.func51,Tryz.ntmps51;go_wp2_with fail
     refine (HHa.out _).mono ?_;rintro e w9 ⟨rfl,hw9⟩;obtain rfl:=hw9.symm;rw[d1];go_wp2_with fail
     refine (HHa.out _).mono ?_;rintro e w9 ⟨rfl,hw9⟩;obtain rfl:=hw9.symm;rw[d3];go_wp2_with fail
     refine (HHb.out _).mono ?_;rintro e w9 ⟨rfl,hw9⟩;obtain rfl:=hw9.symm;rw[d4];go_wp2;go_ret2
     exact HR.out
   ·
    have d3:=decide_eq_false p3;have HR:Hid (RrEnd a b v w (.returned (.tuple #[.slice none 0 0,.int .i64 41])) w):=⟨Below.refl _ _,Or.inr ⟨fun⟨l,k⟩=>k.2.elim (fun q=>p1 q.2.1) (fun q=>p3 q.2.2.1),rfl⟩⟩
    go_enter Tryz.func51,Tryz.ntmps51;go_wp2_with fail
    refine (HHa.out _).mono ?_;rintro e w9 ⟨rfl,hw9⟩;obtain rfl:=hw9.symm;rw[d1];go_wp2_with fail
    refine (HHa.out _).mono ?_;rintro e w9 ⟨rfl,hw9⟩;obtain rfl:=hw9.symm;rw[d3];go_wp2;go_ret2
    exact HR.out
end Sat
end Go.Proofs.YtbmkkhpoaicclabGreat
