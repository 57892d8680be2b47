/- Joined: SatRs, SatRt, SatX, SatKe: words and contracts; no statement of the seat is proved here. -/
import Derived.Test.YtbmkkhpoaicclabGreatJoin4Grows
import Derived.Test.YtbmkkhpoaicclabGreatJoin2Grows
namespace Go.Proofs.YtbmkkhpoaicclabGreat
open Go.RowKit
set_option linter.unusedVariables false
namespace Sat
open Euf (OL App)
set_option maxRecDepth 20000 in
set_option maxHeartbeats 16000000 in
theorem sink_any (g:Nat) (d:Dt) (a:Key→Value) (v:Nat) (w:World) (h:SW w g d a) (ho:OH d.nv d.hp d.at_ 0 v) (hl:d.hp.length≤10000) :
  Calls Tryz.prog 127 #[.pointer (some ⟨g,12,none⟩),.int .i64 (v:Nat)] w fun e w'=>e=.returned (.tuple #[])∧∃hp' at',SW w' g (d.ord hp' at') a∧Mo g d a w (d.ord hp' at') a w'∧OI d.nv hp' at'∧hp'.Perm (d.hp.set 0 v):=by
 have H0:Hid (SW w g d a∧OH d.nv d.hp d.at_ 0 v):=⟨h,ho⟩;have hv:v≤d.nv:=ho.vl;clear h ho;go_enter Tryz.func127,Tryz.ntmps127;go_wp2;go_loopw [4] (fun v4 wr=>∃(q:Nat) (hp':List Nat) (at':Nat→Nat),v4=.int .i64 (q:Nat)∧Hid (SW wr g (d.ord hp' at') a∧Mo g d a w (d.ord hp' at') a wr∧OH d.nv hp' at' q v∧(hp'.set q v).Perm (d.hp.set 0 v))) (fun v _=>d.hp.length - (intOf v).toNat)
 case atStart=>exact⟨0,d.hp,d.at_,rfl,H0.out.1,Mo.refl _ _ _ _,H0.out.2,List.Perm.refl _⟩
 case round =>
  rename World=>wl
  clear H0;obtain⟨q,hp',at',rfl,H⟩:=hrel;have hlen:hp'.length=d.hp.length:=by have:=H.out.2.2.2.length_eq;simpa using this
  have hql:=H.out.2.2.1.pl;obtain⟨bH,cH,hH,lH,-,-,qH,zH⟩:=H.out.1.hpR (by show 0<hp'.length;omega)
  have c12:wl.cell? ⟨g,12,none⟩=some (a kHea):=H.out.1.cell 12;rw[hH]at c12;have hHl:(d.ord hp' at').hp.length=hp'.length:=rfl;rw[hHl]at c12;obtain⟨n,hn⟩:∃n,n=hp'.length:=⟨_,rfl⟩;rw[← hn]at c12;have HNN:Hid (n=hp'.length):=hn;have hn4:n≤10000:=by omega
  have hqn:q<n:=by omega
  have hlg:=H.out.1.lt;obtain⟨dn,hdn⟩:∃dn,dn=2*q+1:=⟨_,rfl⟩;have hdI:2*(q:Int)+1=(dn:Nat):=by omega
  have hdn4:dn≤30000:=by omega
  by_cases hd:dn<n
  ·
   obtain⟨r,hr⟩:∃r,r=dn+1:=⟨_,rfl⟩;have hrI:(dn:Int)+1=(r:Nat):=by omega
   have hdlI:¬ ((n:Int)≤(dn:Int)):=by omega
   have qd:wl.cell? ⟨bH,dn,none⟩=some (.int .i64 (hp'[dn]'(by omega):Nat)):=qH dn (by show dn<hp'.length;omega)
   have HYD:Hid (hp'[dn]'(by omega)≤d.nv):=(H.out.2.2.1.a dn (by omega) (by omega)).2.2
   have HMVD:Hid _:=H.out.2.2.1.move (q:=dn) (by omega) (by omega)
   have HDN:Hid ((dn:Int)<(n:Int)):=by show _<_;omega
   have HDN2:Hid (dn<n):=hd;have HM12:Hid (wl.cell? ⟨g,12,none⟩=some (.slice (some ⟨bH,0,none⟩) n cH)):=c12;have HGL:Hid (g<wl.heap.size):=hlg;have HHL:Hid (bH<wl.heap.size):=lH;have HQD:Hid (dn=2*q+1∧r=dn+1):=⟨hdn,hr⟩;by_cases hrn:r<n
   ·
    have qr:wl.cell? ⟨bH,r,none⟩=some (.int .i64 (hp'[r]'(by omega):Nat)):=qH r (by show r<hp'.length;omega)
    have HYR:Hid (hp'[r]'(by omega)≤d.nv):=(H.out.2.2.1.a r (by omega) (by omega)).2.2
    have HMVR:Hid _:=H.out.2.2.1.move (q:=r) (by omega) (by omega)
    generalize hp'[dn]'(by omega)=yd at qd HYD HMVD
    generalize hp'[r]'(by omega)=yr at qr HYR HMVR
    have HRN:Hid ((r:Int)<(n:Int)):=by show _<_;omega
    have HRN2:Hid (r<n):=hrn;have HMR:Hid (wl.cell? ⟨bH,r,none⟩=some (.int .i64 (yr:Nat))):=qr;have HMD:Hid (wl.cell? ⟨bH,dn,none⟩=some (.int .i64 (yd:Nat))):=qd;clear qH zH hH hn hHl hdn hr hrn hd;go_wp2;refine wp_region_E (by kernel_rfl) [some 19,some 20,some 21,some 22,some 23,some 24,some 25,some 26,some 27,some 28,some 29,some 30,some 31,some 32,some 33,some 34,some 35,some 36,some 37,some 38,some 39,some 40,some 41,some 42,some 43] [none,none,none,none,none,none,none,none,none,none,none,none,none,none,none,none,none,none,none,some 19,some 20,some 21,some 22,some 23,some 24,some 25,some 26,some 27,some 28,some 29,some 30,some 31,some 32,some 33,some 34,some 35,some 36,some 37,some 38,some 39,some 40,some 41,some 42,some 43] (fun U=>by kernel_rfl) [fun u=>u=(.int .i64 (r:Nat)),fun u=>u=(.pointer (some ⟨g,12,none⟩)),fun u=>u=(.pointer (some ⟨g,12,none⟩)),fun u=>u=(.pointer (some ⟨g,12,none⟩)),fun u=>u=(.slice (some ⟨bH,0,none⟩) n cH),fun u=>u=(.int .i64 (n:Nat)),fun u=>u=(.bool true),fun u=>u=(.bool true),fun u=>u=(.pointer (some ⟨g,12,none⟩)),fun u=>u=(.pointer (some ⟨g,12,none⟩)),fun u=>u=(.pointer (some ⟨g,12,none⟩)),fun u=>u=(.pointer (some ⟨g,12,none⟩)),fun u=>u=(.slice (some ⟨bH,0,none⟩) n cH),fun u=>u=(.int .i64 (r:Nat)),fun u=>u=(.pointer (some ⟨bH,r,none⟩)),fun u=>u=(.int .i64 (yr:Nat)),fun u=>u=(.pointer (some ⟨g,12,none⟩)),fun u=>u=(.pointer (some ⟨g,12,none⟩)),fun u=>u=(.pointer (some ⟨g,12,none⟩)),fun u=>u=(.slice (some ⟨bH,0,none⟩) n cH),fun u=>u=(.int .i64 (dn:Nat)),fun u=>u=(.pointer (some ⟨bH,dn,none⟩)),fun u=>u=(.int .i64 (yd:Nat)),fun u=>∃b:Bool,u=.bool b,fun u=>∃b:Bool,u=.bool b] (fun L U wr=>Below wl.heap.size wl wr) (by kernel_rfl) (by decide) (by kernel_rfl) (by kernel_rfl) ?_ ?_ ?_
    · exact fun U=>(Below.refl _ _).drew
    ·
     refine StepsE.run rfl ?_ ?_
     ·
      intro L U wr hC hP hlk hcl haf A K hFm hK;simp[Aft,Region.binds]at haf;have e6:A.tmps[6]?=some (.int .i64 (r:Nat)):=(hFm.old 6 (by decide)).trans (by kernel_rfl)
      have HC:Hid _:=hC;clear hC;refine⟨?_⟩;go_simp;exact hK _ _ rfl HC.out
     refine StepsE.run rfl ?_ ?_
     ·
      intro L U wr hC hP hlk hcl haf A K hFm hK;simp[Aft,Region.binds]at haf;have e0:A.tmps[0]?=some (.pointer (some ⟨g,12,none⟩)):=(hFm.old 0 (by decide)).trans (by kernel_rfl)
      have HC:Hid _:=hC;clear hC;refine⟨?_⟩;go_simp;exact hK _ _ rfl HC.out
     refine StepsE.run rfl ?_ ?_
     ·
      intro L U wr hC hP hlk hcl haf A K hFm hK;simp[Aft,Region.binds]at haf;have g1:U 20=(.pointer (some ⟨g,12,none⟩)):=hP 1 20 (by simp[haf]) rfl
      have e20:A.tmps[20]?=some (.pointer (some ⟨g,12,none⟩)):=hFm.is 1 20 rfl g1;have m7:=(hC.cell (p:=⟨g,12,none⟩) HGL.out).trans HM12.out;have HC:Hid _:=hC;clear hC;refine⟨?_⟩;go_simp;exact hK _ _ rfl HC.out
     refine StepsE.run rfl ?_ ?_
     ·
      intro L U wr hC hP hlk hcl haf A K hFm hK;simp[Aft,Region.binds]at haf;have g2:U 21=(.pointer (some ⟨g,12,none⟩)):=hP 2 21 (by simp[haf]) rfl
      have e21:A.tmps[21]?=some (.pointer (some ⟨g,12,none⟩)):=hFm.is 2 21 rfl g2;have m7:=(hC.cell (p:=⟨g,12,none⟩) HGL.out).trans HM12.out;have HC:Hid _:=hC;clear hC;refine⟨?_⟩;go_simp;exact hK _ _ rfl HC.out
     refine StepsE.run rfl ?_ ?_
     ·
      intro L U wr hC hP hlk hcl haf A K hFm hK;simp[Aft,Region.binds]at haf;have g3:U 22=(.pointer (some ⟨g,12,none⟩)):=hP 3 22 (by simp[haf]) rfl
      have e22:A.tmps[22]?=some (.pointer (some ⟨g,12,none⟩)):=hFm.is 3 22 rfl g3;have m7:=(hC.cell (p:=⟨g,12,none⟩) HGL.out).trans HM12.out;have HC:Hid _:=hC;clear hC;refine⟨?_⟩;go_simp;exact hK _ _ rfl HC.out
     refine StepsE.run rfl ?_ ?_
     ·
      intro L U wr hC hP hlk hcl haf A K hFm hK;simp[Aft,Region.binds]at haf;have g4:U 23=(.slice (some ⟨bH,0,none⟩) n cH):=hP 4 23 (by simp[haf]) rfl
      have e23:A.tmps[23]?=some (.slice (some ⟨bH,0,none⟩) n cH):=hFm.is 4 23 rfl g4;have HC:Hid _:=hC;clear hC;refine⟨?_⟩;go_simp;exact hK _ _ rfl HC.out
     refine StepsE.run rfl ?_ ?_
     ·
      intro L U wr hC hP hlk hcl haf A K hFm hK;simp[Aft,Region.binds]at haf;have g0:U 19=(.int .i64 (r:Nat)):=hP 0 19 (by simp[haf]) rfl
      have e19:A.tmps[19]?=some (.int .i64 (r:Nat)):=hFm.is 0 19 rfl g0;have g5:U 24=(.int .i64 (n:Nat)):=hP 5 24 (by simp[haf]) rfl
      have e24:A.tmps[24]?=some (.int .i64 (n:Nat)):=hFm.is 5 24 rfl g5;have h9:=HRN.out;have HC:Hid _:=hC;clear hC;refine⟨?_⟩;go_simp;exact hK _ _ rfl HC.out
     refine StepsE.run rfl ?_ ?_
     ·
      intro L U wr hC hP hlk hcl haf A K hFm hK;simp[Aft,Region.binds]at haf;have g6:U 25=(.bool true):=hP 6 25 (by simp[haf]) rfl
      have e25:A.tmps[25]?=some (.bool true):=hFm.is 6 25 rfl g6;have HC:Hid _:=hC;clear hC;refine⟨?_⟩;go_simp;exact hK _ _ rfl HC.out
     refine StepsE.runG 7 26 true rfl rfl rfl (fun L h=>by simp[Aft,Region.binds]at h;simp[h]) (fun u h=>h) ?_ ?_
     ·
      intro L U wr hC hP hlk hcl haf A K hFm hK;simp[Aft,Region.binds]at haf;have e0:A.tmps[0]?=some (.pointer (some ⟨g,12,none⟩)):=(hFm.old 0 (by decide)).trans (by kernel_rfl)
      have HC:Hid _:=hC;clear hC;refine⟨?_⟩;go_simp;exact hK _ _ rfl HC.out
     refine StepsE.runG 7 26 true rfl rfl rfl (fun L h=>by simp[Aft,Region.binds]at h;simp[h]) (fun u h=>h) ?_ ?_
     ·
      intro L U wr hC hP hlk hcl haf A K hFm hK;simp[Aft,Region.binds]at haf;have e0:A.tmps[0]?=some (.pointer (some ⟨g,12,none⟩)):=(hFm.old 0 (by decide)).trans (by kernel_rfl)
      have HC:Hid _:=hC;clear hC;refine⟨?_⟩;go_simp;exact hK _ _ rfl HC.out
     refine StepsE.runG 7 26 true rfl rfl rfl (fun L h=>by simp[Aft,Region.binds]at h;simp[h]) (fun u h=>h) ?_ ?_
     ·
      intro L U wr hC hP hlk hcl haf A K hFm hK;simp[Aft,Region.binds]at haf;have g9:U 28=(.pointer (some ⟨g,12,none⟩)):=hP 9 28 (by simp[haf]) rfl
      have e28:A.tmps[28]?=some (.pointer (some ⟨g,12,none⟩)):=hFm.is 9 28 rfl g9;have m7:=(hC.cell (p:=⟨g,12,none⟩) HGL.out).trans HM12.out;have HC:Hid _:=hC;clear hC;refine⟨?_⟩;go_simp;exact hK _ _ rfl HC.out
     refine StepsE.runG 7 26 true rfl rfl rfl (fun L h=>by simp[Aft,Region.binds]at h;simp[h]) (fun u h=>h) ?_ ?_
     ·
      intro L U wr hC hP hlk hcl haf A K hFm hK;simp[Aft,Region.binds]at haf;have g10:U 29=(.pointer (some ⟨g,12,none⟩)):=hP 10 29 (by simp[haf]) rfl
      have e29:A.tmps[29]?=some (.pointer (some ⟨g,12,none⟩)):=hFm.is 10 29 rfl g10;have m7:=(hC.cell (p:=⟨g,12,none⟩) HGL.out).trans HM12.out;have HC:Hid _:=hC;clear hC;refine⟨?_⟩;go_simp;exact hK _ _ rfl HC.out
     refine StepsE.runG 7 26 true rfl rfl rfl (fun L h=>by simp[Aft,Region.binds]at h;simp[h]) (fun u h=>h) ?_ ?_
     ·
      intro L U wr hC hP hlk hcl haf A K hFm hK;simp[Aft,Region.binds]at haf;have g11:U 30=(.pointer (some ⟨g,12,none⟩)):=hP 11 30 (by simp[haf]) rfl
      have e30:A.tmps[30]?=some (.pointer (some ⟨g,12,none⟩)):=hFm.is 11 30 rfl g11;have m7:=(hC.cell (p:=⟨g,12,none⟩) HGL.out).trans HM12.out;have HC:Hid _:=hC;clear hC;refine⟨?_⟩;go_simp;exact hK _ _ rfl HC.out
     refine StepsE.runG 7 26 true rfl rfl rfl (fun L h=>by simp[Aft,Region.binds]at h;simp[h]) (fun u h=>h) ?_ ?_
     ·
      intro L U wr hC hP hlk hcl haf A K hFm hK;simp[Aft,Region.binds]at haf;have e6:A.tmps[6]?=some (.int .i64 (r:Nat)):=(hFm.old 6 (by decide)).trans (by kernel_rfl)
      have HC:Hid _:=hC;clear hC;refine⟨?_⟩;go_simp;exact hK _ _ rfl HC.out
     refine StepsE.runG 7 26 true rfl rfl rfl (fun L h=>by simp[Aft,Region.binds]at h;simp[h]) (fun u h=>h) ?_ ?_
     ·
      intro L U wr hC hP hlk hcl haf A K hFm hK;simp[Aft,Region.binds]at haf;have g12:U 31=(.slice (some ⟨bH,0,none⟩) n cH):=hP 12 31 (by simp[haf]) rfl
      have e31:A.tmps[31]?=some (.slice (some ⟨bH,0,none⟩) n cH):=hFm.is 12 31 rfl g12;have g13:U 32=(.int .i64 (r:Nat)):=hP 13 32 (by simp[haf]) rfl
      have e32:A.tmps[32]?=some (.int .i64 (r:Nat)):=hFm.is 13 32 rfl g13;have h9:=HRN.out;have h8:=HRN2.out;have HC:Hid _:=hC;clear hC;refine⟨?_⟩;go_simp;exact hK _ _ rfl HC.out
     refine StepsE.runG 7 26 true rfl rfl rfl (fun L h=>by simp[Aft,Region.binds]at h;simp[h]) (fun u h=>h) ?_ ?_
     ·
      intro L U wr hC hP hlk hcl haf A K hFm hK;simp[Aft,Region.binds]at haf;have g14:U 33=(.pointer (some ⟨bH,r,none⟩)):=hP 14 33 (by simp[haf]) rfl
      have e33:A.tmps[33]?=some (.pointer (some ⟨bH,r,none⟩)):=hFm.is 14 33 rfl g14;have m7:=(hC.cell (p:=⟨bH,r,none⟩) HHL.out).trans HMR.out;have HC:Hid _:=hC;clear hC;refine⟨?_⟩;go_simp;exact hK _ _ rfl HC.out
     refine StepsE.runG 7 26 true rfl rfl rfl (fun L h=>by simp[Aft,Region.binds]at h;simp[h]) (fun u h=>h) ?_ ?_
     ·
      intro L U wr hC hP hlk hcl haf A K hFm hK;simp[Aft,Region.binds]at haf;have e0:A.tmps[0]?=some (.pointer (some ⟨g,12,none⟩)):=(hFm.old 0 (by decide)).trans (by kernel_rfl)
      have HC:Hid _:=hC;clear hC;refine⟨?_⟩;go_simp;exact hK _ _ rfl HC.out
     refine StepsE.runG 7 26 true rfl rfl rfl (fun L h=>by simp[Aft,Region.binds]at h;simp[h]) (fun u h=>h) ?_ ?_
     ·
      intro L U wr hC hP hlk hcl haf A K hFm hK;simp[Aft,Region.binds]at haf;have g16:U 35=(.pointer (some ⟨g,12,none⟩)):=hP 16 35 (by simp[haf]) rfl
      have e35:A.tmps[35]?=some (.pointer (some ⟨g,12,none⟩)):=hFm.is 16 35 rfl g16;have m7:=(hC.cell (p:=⟨g,12,none⟩) HGL.out).trans HM12.out;have HC:Hid _:=hC;clear hC;refine⟨?_⟩;go_simp;exact hK _ _ rfl HC.out
     refine StepsE.runG 7 26 true rfl rfl rfl (fun L h=>by simp[Aft,Region.binds]at h;simp[h]) (fun u h=>h) ?_ ?_
     ·
      intro L U wr hC hP hlk hcl haf A K hFm hK;simp[Aft,Region.binds]at haf;have g17:U 36=(.pointer (some ⟨g,12,none⟩)):=hP 17 36 (by simp[haf]) rfl
      have e36:A.tmps[36]?=some (.pointer (some ⟨g,12,none⟩)):=hFm.is 17 36 rfl g17;have m7:=(hC.cell (p:=⟨g,12,none⟩) HGL.out).trans HM12.out;have HC:Hid _:=hC;clear hC;refine⟨?_⟩;go_simp;exact hK _ _ rfl HC.out
     refine StepsE.runG 7 26 true rfl rfl rfl (fun L h=>by simp[Aft,Region.binds]at h;simp[h]) (fun u h=>h) ?_ ?_
     ·
      intro L U wr hC hP hlk hcl haf A K hFm hK;simp[Aft,Region.binds]at haf;have g18:U 37=(.pointer (some ⟨g,12,none⟩)):=hP 18 37 (by simp[haf]) rfl
      have e37:A.tmps[37]?=some (.pointer (some ⟨g,12,none⟩)):=hFm.is 18 37 rfl g18;have m7:=(hC.cell (p:=⟨g,12,none⟩) HGL.out).trans HM12.out;have HC:Hid _:=hC;clear hC;refine⟨?_⟩;go_simp;exact hK _ _ rfl HC.out
     refine StepsE.runG 7 26 true rfl rfl rfl (fun L h=>by simp[Aft,Region.binds]at h;simp[h]) (fun u h=>h) ?_ ?_
     ·
      intro L U wr hC hP hlk hcl haf A K hFm hK;simp[Aft,Region.binds]at haf;have e5:A.tmps[5]?=some (.int .i64 (dn:Nat)):=(hFm.old 5 (by decide)).trans (by kernel_rfl)
      have HC:Hid _:=hC;clear hC;refine⟨?_⟩;go_simp;exact hK _ _ rfl HC.out
     refine StepsE.runG 7 26 true rfl rfl rfl (fun L h=>by simp[Aft,Region.binds]at h;simp[h]) (fun u h=>h) ?_ ?_
     ·
      intro L U wr hC hP hlk hcl haf A K hFm hK;simp[Aft,Region.binds]at haf;have g19:U 38=(.slice (some ⟨bH,0,none⟩) n cH):=hP 19 38 (by simp[haf]) rfl
      have e38:A.tmps[38]?=some (.slice (some ⟨bH,0,none⟩) n cH):=hFm.is 19 38 rfl g19;have g20:U 39=(.int .i64 (dn:Nat)):=hP 20 39 (by simp[haf]) rfl
      have e39:A.tmps[39]?=some (.int .i64 (dn:Nat)):=hFm.is 20 39 rfl g20;have h9:=HDN.out;have h8:=HDN2.out;have HC:Hid _:=hC;clear hC;refine⟨?_⟩;go_simp;exact hK _ _ rfl HC.out
     refine StepsE.runG 7 26 true rfl rfl rfl (fun L h=>by simp[Aft,Region.binds]at h;simp[h]) (fun u h=>h) ?_ ?_
     ·
      intro L U wr hC hP hlk hcl haf A K hFm hK;simp[Aft,Region.binds]at haf;have g21:U 40=(.pointer (some ⟨bH,dn,none⟩)):=hP 21 40 (by simp[haf]) rfl
      have e40:A.tmps[40]?=some (.pointer (some ⟨bH,dn,none⟩)):=hFm.is 21 40 rfl g21;have m7:=(hC.cell (p:=⟨bH,dn,none⟩) HHL.out).trans HMD.out;have HC:Hid _:=hC;clear hC;refine⟨?_⟩;go_simp;exact hK _ _ rfl HC.out
     refine StepsE.runG 7 26 true rfl rfl rfl (fun L h=>by simp[Aft,Region.binds]at h;simp[h]) (fun u h=>h) ?_ ?_
     ·
      intro L U wr hC hP hlk hcl haf A K hFm hK;simp[Aft,Region.binds]at haf;have g8:U 27=(.pointer (some ⟨g,12,none⟩)):=hP 8 27 (by simp[haf]) rfl
      have e27:A.tmps[27]?=some (.pointer (some ⟨g,12,none⟩)):=hFm.is 8 27 rfl g8;have g15:U 34=(.int .i64 (yr:Nat)):=hP 15 34 (by simp[haf]) rfl
      have e34:A.tmps[34]?=some (.int .i64 (yr:Nat)):=hFm.is 15 34 rfl g15;have g22:U 41=(.int .i64 (yd:Nat)):=hP 22 41 (by simp[haf]) rfl
      have e41:A.tmps[41]?=some (.int .i64 (yd:Nat)):=hFm.is 22 41 rfl g22;refine⟨?_⟩;have HB9:Hid _:=hC;clear hC;go_simp;refine (ahead_any g (d.ord hp' at') a yr yd _ (H.out.1.below HB9.out) HYR.out HYD.out).mono ?_;rintro e w1 ⟨b9,rfl,hb9⟩;go_simp;exact hK _ _ ⟨b9,rfl⟩ (HB9.out.trans (hb9.mono HB9.out.size))
     refine StepsE.run rfl ?_ StepsE.nil
     ·
      intro L U wr hC hP hlk hcl haf A K hFm hK;simp[Aft,Region.binds]at haf;have g7:U 26=(.bool true):=hP 7 26 (by simp[haf]) rfl
      have e26:A.tmps[26]?=some (.bool true):=hFm.is 7 26 rfl g7;have e42:A.tmps[42]?=some (U 42):=hFm.got 23 42 rfl;refine⟨?_⟩;obtain⟨b9,hb9⟩:=hP 23 42 (by simp[haf]) rfl
      rw[hb9]at e42;have HB9:Hid _:=hC;clear hC;go_simp;exact hK _ _ ⟨b9,rfl⟩ HB9.out
    intro L U5 V5 hall hC hP;have HC5:Hid (Below wl.heap.size wl V5):=hC;obtain⟨b5,e43⟩:∃b:Bool,U5 43=.bool b:=hP 24 43 rfl;simp only[setM_some,setM_none,setM_nil];rw[e43];have H2:Hid (SW V5 g (d.ord hp' at') a∧Mo g d a w (d.ord hp' at') a V5∧OH d.nv hp' at' q v∧(hp'.set q v).Perm (d.hp.set 0 v)):=⟨H.out.1.below HC5.out,H.out.2.1.below HC5.out,H.out.2.2⟩;replace c12:V5.cell? ⟨g,12,none⟩=some (.slice (some ⟨bH,0,none⟩) n cH):=(HC5.out.cell (p:=⟨g,12,none⟩) hlg).trans c12;replace lH:bH<V5.heap.size:=Nat.lt_of_lt_of_le HHL.out HC5.out.size;have hrn:r<n:=HRN2.out;have hdn:dn<n:=HDN2.out;have hrI2:(r:Int)<(n:Int):=HRN.out;have hdI2:(dn:Int)<(n:Int):=HDN.out;replace qr:V5.cell? ⟨bH,r,none⟩=some (.int .i64 (yr:Nat)):=(HC5.out.cell (p:=⟨bH,r,none⟩) HHL.out).trans qr;replace qd:V5.cell? ⟨bH,dn,none⟩=some (.int .i64 (yd:Nat)):=(HC5.out.cell (p:=⟨bH,dn,none⟩) HHL.out).trans qd;have HDQ:Hid (q<dn∧q<r∧dn<d.hp.length∧r<d.hp.length):=⟨by have:=HQD.out;omega,by have:=HQD.out;omega,by have:=HNN.out;omega,by have:=HNN.out;omega⟩
    clear hC hP hall e43 HMR HMD HRN HRN2 HDN HDN2 HM12 HGL HHL HC5 H hlg;cases b5 with
    | true =>
     have HYV:Hid (yr≤d.nv):=HYR.out;have HMV:Hid _:=HMVR.out;clear qd HYR HYD HMVD HMVR;replace qd:=qr;clear qr;go_wp2_with fail
     refine (ahead_any g (d.ord hp' at') a yr v V5 H2.out.1 HYV.out hv).mono ?_;rintro e w5 ⟨b5,rfl,hb5⟩;have H5:Hid (SW w5 g (d.ord hp' at') a∧Mo g d a w (d.ord hp' at') a w5∧OH d.nv hp' at' q v∧(hp'.set q v).Perm (d.hp.set 0 v)):=⟨H2.out.1.below hb5,H2.out.2.1.below hb5,H2.out.2.2⟩;have c12':w5.cell? ⟨g,12,none⟩=some (.slice (some ⟨bH,0,none⟩) n cH):=(hb5.cell (p:=⟨g,12,none⟩) H2.out.1.lt).trans c12;have q1':w5.cell? ⟨bH,r,none⟩=some (.int .i64 (yr:Nat)):=(hb5.cell (p:=⟨bH,r,none⟩) lH).trans qd;have lH':bH<w5.heap.size:=Nat.lt_of_lt_of_le lH hb5.size;clear c12 qd lH H2 hb5;cases b5 with
     | false =>
      go_wp2_with fail
      refine (put_any g (d.ord hp' at') a v q w5 H5.out.1 hv hql (by omega)).mono ?_
      rintro e w6 ⟨rfl,hs,hm⟩;have HE:Hid (SW w6 g (d.ord (hp'.set q v) (upd at' v (q+1))) a∧Mo g d a w (d.ord (hp'.set q v) (upd at' v (q+1))) a w6):=⟨hs,H5.out.2.1.trans hm⟩;clear hs hm;go_wp2;go_end0
      exact⟨rfl,_,_,HE.out.1,HE.out.2,H5.out.2.2.1.fill,H5.out.2.2.2⟩
     | true =>
      go_wp2_with fail
      refine (put_any g (d.ord hp' at') a yr q w5 H5.out.1 HYV.out hql (by omega)).mono ?_
      rintro e w6 ⟨rfl,hs,hm⟩;have HE:Hid (SW w6 g (d.ord (hp'.set q yr) (upd at' yr (q+1))) a∧Mo g d a w (d.ord (hp'.set q yr) (upd at' yr (q+1))) a w6):=⟨hs,H5.out.2.1.trans hm⟩;clear hs hm c12' q1';go_wp2;go_roundw
      case rel=>exact⟨r,_,_,rfl,HE.out.1,HE.out.2,HMV.out.1,HMV.out.2.trans H5.out.2.2.2⟩
      case measure=>have:=HDQ.out;simp[intOf];omega
    | false =>
     have HYV:Hid (yd≤d.nv):=HYD.out;have HMV:Hid _:=HMVD.out;clear qr HYR HYD HMVR HMVD;go_wp2_with fail
     refine (ahead_any g (d.ord hp' at') a yd v V5 H2.out.1 HYV.out hv).mono ?_;rintro e w5 ⟨b5,rfl,hb5⟩;have H5:Hid (SW w5 g (d.ord hp' at') a∧Mo g d a w (d.ord hp' at') a w5∧OH d.nv hp' at' q v∧(hp'.set q v).Perm (d.hp.set 0 v)):=⟨H2.out.1.below hb5,H2.out.2.1.below hb5,H2.out.2.2⟩;have c12':w5.cell? ⟨g,12,none⟩=some (.slice (some ⟨bH,0,none⟩) n cH):=(hb5.cell (p:=⟨g,12,none⟩) H2.out.1.lt).trans c12;have q1':w5.cell? ⟨bH,dn,none⟩=some (.int .i64 (yd:Nat)):=(hb5.cell (p:=⟨bH,dn,none⟩) lH).trans qd;have lH':bH<w5.heap.size:=Nat.lt_of_lt_of_le lH hb5.size;clear c12 qd lH H2 hb5;cases b5 with
     | false =>
      go_wp2_with fail
      refine (put_any g (d.ord hp' at') a v q w5 H5.out.1 hv hql (by omega)).mono ?_
      rintro e w6 ⟨rfl,hs,hm⟩;have HE:Hid (SW w6 g (d.ord (hp'.set q v) (upd at' v (q+1))) a∧Mo g d a w (d.ord (hp'.set q v) (upd at' v (q+1))) a w6):=⟨hs,H5.out.2.1.trans hm⟩;clear hs hm;go_wp2;go_end0
      exact⟨rfl,_,_,HE.out.1,HE.out.2,H5.out.2.2.1.fill,H5.out.2.2.2⟩
     | true =>
      go_wp2_with fail
      refine (put_any g (d.ord hp' at') a yd q w5 H5.out.1 HYV.out hql (by omega)).mono ?_
      rintro e w6 ⟨rfl,hs,hm⟩;have HE:Hid (SW w6 g (d.ord (hp'.set q yd) (upd at' yd (q+1))) a∧Mo g d a w (d.ord (hp'.set q yd) (upd at' yd (q+1))) a w6):=⟨hs,H5.out.2.1.trans hm⟩;clear hs hm c12' q1';go_wp2;go_roundw
      case rel=>exact⟨dn,_,_,rfl,HE.out.1,HE.out.2,HMV.out.1,HMV.out.2.trans H5.out.2.2.2⟩
      case measure=>have:=HDQ.out;simp[intOf];omega
   ·
    generalize hp'[dn]'(by omega)=yd at qd HYD HMVD
    have HRN:Hid (¬ ((r:Int)<(n:Int))):=by show ¬ _;omega
    have HDQ:Hid (q<dn∧dn<d.hp.length):=⟨by omega,by omega⟩
    clear qH zH hH hn hHl hdn hr hrn;go_wp2;refine wp_region_E (by kernel_rfl) [some 19,some 20,some 21,some 22,some 23,some 24,some 25,some 26,some 27,some 28,some 29,some 30,some 31,some 32,some 33,some 34,some 35,some 36,some 37,some 38,some 39,some 40,some 41,some 42,some 43] [none,none,none,none,none,none,none,none,none,none,none,none,none,none,none,none,none,none,none,some 19,some 20,some 21,some 22,some 23,some 24,some 25,some 26,some 27,some 28,some 29,some 30,some 31,some 32,some 33,some 34,some 35,some 36,some 37,some 38,some 39,some 40,some 41,some 42,some 43] (fun U=>by kernel_rfl) [fun u=>u=(.int .i64 (r:Nat)),fun u=>u=(.pointer (some ⟨g,12,none⟩)),fun u=>u=(.pointer (some ⟨g,12,none⟩)),fun u=>u=(.pointer (some ⟨g,12,none⟩)),fun u=>u=(.slice (some ⟨bH,0,none⟩) n cH),fun u=>u=(.int .i64 (n:Nat)),fun u=>u=(.bool false),fun u=>u=(.bool false),fun _=>True,fun _=>True,fun _=>True,fun _=>True,fun _=>True,fun _=>True,fun _=>True,fun _=>True,fun _=>True,fun _=>True,fun _=>True,fun _=>True,fun _=>True,fun _=>True,fun _=>True,fun _=>True,fun u=>u=(.bool false)] (fun L U wr=>Below wl.heap.size wl wr) (by kernel_rfl) (by decide) (by kernel_rfl) (by kernel_rfl) ?_ ?_ ?_
    · exact fun U=>(Below.refl _ _).drew
    ·
     refine StepsE.run rfl ?_ ?_
     ·
      intro L U wr hC hP hlk hcl haf A K hFm hK;simp[Aft,Region.binds]at haf;have e6:A.tmps[6]?=some (.int .i64 (r:Nat)):=(hFm.old 6 (by decide)).trans (by kernel_rfl)
      have HC:Hid _:=hC;clear hC;refine⟨?_⟩;go_simp;exact hK _ _ rfl HC.out
     refine StepsE.run rfl ?_ ?_
     ·
      intro L U wr hC hP hlk hcl haf A K hFm hK;simp[Aft,Region.binds]at haf;have e0:A.tmps[0]?=some (.pointer (some ⟨g,12,none⟩)):=(hFm.old 0 (by decide)).trans (by kernel_rfl)
      have HC:Hid _:=hC;clear hC;refine⟨?_⟩;go_simp;exact hK _ _ rfl HC.out
     refine StepsE.run rfl ?_ ?_
     ·
      intro L U wr hC hP hlk hcl haf A K hFm hK;simp[Aft,Region.binds]at haf;have g1:U 20=(.pointer (some ⟨g,12,none⟩)):=hP 1 20 (by simp[haf]) rfl
      have e20:A.tmps[20]?=some (.pointer (some ⟨g,12,none⟩)):=hFm.is 1 20 rfl g1;have m7:=(hC.cell (p:=⟨g,12,none⟩) HGL.out).trans HM12.out;have HC:Hid _:=hC;clear hC;refine⟨?_⟩;go_simp;exact hK _ _ rfl HC.out
     refine StepsE.run rfl ?_ ?_
     ·
      intro L U wr hC hP hlk hcl haf A K hFm hK;simp[Aft,Region.binds]at haf;have g2:U 21=(.pointer (some ⟨g,12,none⟩)):=hP 2 21 (by simp[haf]) rfl
      have e21:A.tmps[21]?=some (.pointer (some ⟨g,12,none⟩)):=hFm.is 2 21 rfl g2;have m7:=(hC.cell (p:=⟨g,12,none⟩) HGL.out).trans HM12.out;have HC:Hid _:=hC;clear hC;refine⟨?_⟩;go_simp;exact hK _ _ rfl HC.out
     refine StepsE.run rfl ?_ ?_
     ·
      intro L U wr hC hP hlk hcl haf A K hFm hK;simp[Aft,Region.binds]at haf;have g3:U 22=(.pointer (some ⟨g,12,none⟩)):=hP 3 22 (by simp[haf]) rfl
      have e22:A.tmps[22]?=some (.pointer (some ⟨g,12,none⟩)):=hFm.is 3 22 rfl g3;have m7:=(hC.cell (p:=⟨g,12,none⟩) HGL.out).trans HM12.out;have HC:Hid _:=hC;clear hC;refine⟨?_⟩;go_simp;exact hK _ _ rfl HC.out
     refine StepsE.run rfl ?_ ?_
     ·
      intro L U wr hC hP hlk hcl haf A K hFm hK;simp[Aft,Region.binds]at haf;have g4:U 23=(.slice (some ⟨bH,0,none⟩) n cH):=hP 4 23 (by simp[haf]) rfl
      have e23:A.tmps[23]?=some (.slice (some ⟨bH,0,none⟩) n cH):=hFm.is 4 23 rfl g4;have HC:Hid _:=hC;clear hC;refine⟨?_⟩;go_simp;exact hK _ _ rfl HC.out
     refine StepsE.run rfl ?_ ?_
     ·
      intro L U wr hC hP hlk hcl haf A K hFm hK;simp[Aft,Region.binds]at haf;have g0:U 19=(.int .i64 (r:Nat)):=hP 0 19 (by simp[haf]) rfl
      have e19:A.tmps[19]?=some (.int .i64 (r:Nat)):=hFm.is 0 19 rfl g0;have g5:U 24=(.int .i64 (n:Nat)):=hP 5 24 (by simp[haf]) rfl
      have e24:A.tmps[24]?=some (.int .i64 (n:Nat)):=hFm.is 5 24 rfl g5;have h9:¬ (r<n):=by have:=HRN.out;omega
      have HC:Hid _:=hC;clear hC;refine⟨?_⟩;go_simp;exact hK _ _ rfl HC.out
     refine StepsE.run rfl ?_ ?_
     ·
      intro L U wr hC hP hlk hcl haf A K hFm hK;simp[Aft,Region.binds]at haf;have g6:U 25=(.bool false):=hP 6 25 (by simp[haf]) rfl
      have e25:A.tmps[25]?=some (.bool false):=hFm.is 6 25 rfl g6;have HC:Hid _:=hC;clear hC;refine⟨?_⟩;go_simp;exact hK _ _ rfl HC.out
     refine StepsE.skipG 7 26 true false rfl (by decide) rfl rfl (fun L h=>by simp[Aft,Region.binds]at h;simp[h]) (fun u h=>h) trivial (fun L U w h _=>h) ?_
     refine StepsE.skipG 7 26 true false rfl (by decide) rfl rfl (fun L h=>by simp[Aft,Region.binds]at h;simp[h]) (fun u h=>h) trivial (fun L U w h _=>h) ?_
     refine StepsE.skipG 7 26 true false rfl (by decide) rfl rfl (fun L h=>by simp[Aft,Region.binds]at h;simp[h]) (fun u h=>h) trivial (fun L U w h _=>h) ?_
     refine StepsE.skipG 7 26 true false rfl (by decide) rfl rfl (fun L h=>by simp[Aft,Region.binds]at h;simp[h]) (fun u h=>h) trivial (fun L U w h _=>h) ?_
     refine StepsE.skipG 7 26 true false rfl (by decide) rfl rfl (fun L h=>by simp[Aft,Region.binds]at h;simp[h]) (fun u h=>h) trivial (fun L U w h _=>h) ?_
     refine StepsE.skipG 7 26 true false rfl (by decide) rfl rfl (fun L h=>by simp[Aft,Region.binds]at h;simp[h]) (fun u h=>h) trivial (fun L U w h _=>h) ?_
     refine StepsE.skipG 7 26 true false rfl (by decide) rfl rfl (fun L h=>by simp[Aft,Region.binds]at h;simp[h]) (fun u h=>h) trivial (fun L U w h _=>h) ?_
     refine StepsE.skipG 7 26 true false rfl (by decide) rfl rfl (fun L h=>by simp[Aft,Region.binds]at h;simp[h]) (fun u h=>h) trivial (fun L U w h _=>h) ?_
     refine StepsE.skipG 7 26 true false rfl (by decide) rfl rfl (fun L h=>by simp[Aft,Region.binds]at h;simp[h]) (fun u h=>h) trivial (fun L U w h _=>h) ?_
     refine StepsE.skipG 7 26 true false rfl (by decide) rfl rfl (fun L h=>by simp[Aft,Region.binds]at h;simp[h]) (fun u h=>h) trivial (fun L U w h _=>h) ?_
     refine StepsE.skipG 7 26 true false rfl (by decide) rfl rfl (fun L h=>by simp[Aft,Region.binds]at h;simp[h]) (fun u h=>h) trivial (fun L U w h _=>h) ?_
     refine StepsE.skipG 7 26 true false rfl (by decide) rfl rfl (fun L h=>by simp[Aft,Region.binds]at h;simp[h]) (fun u h=>h) trivial (fun L U w h _=>h) ?_
     refine StepsE.skipG 7 26 true false rfl (by decide) rfl rfl (fun L h=>by simp[Aft,Region.binds]at h;simp[h]) (fun u h=>h) trivial (fun L U w h _=>h) ?_
     refine StepsE.skipG 7 26 true false rfl (by decide) rfl rfl (fun L h=>by simp[Aft,Region.binds]at h;simp[h]) (fun u h=>h) trivial (fun L U w h _=>h) ?_
     refine StepsE.skipG 7 26 true false rfl (by decide) rfl rfl (fun L h=>by simp[Aft,Region.binds]at h;simp[h]) (fun u h=>h) trivial (fun L U w h _=>h) ?_
     refine StepsE.skipG 7 26 true false rfl (by decide) rfl rfl (fun L h=>by simp[Aft,Region.binds]at h;simp[h]) (fun u h=>h) trivial (fun L U w h _=>h) ?_
     refine StepsE.run rfl ?_ StepsE.nil
     ·
      intro L U wr hC hP hlk hcl haf A K hFm hK;simp[Aft,Region.binds]at haf;have g7:U 26=(.bool false):=hP 7 26 (by simp[haf]) rfl
      have e26:A.tmps[26]?=some (.bool false):=hFm.is 7 26 rfl g7;have e42:A.tmps[42]?=some (U 42):=hFm.got 23 42 rfl;have HC:Hid _:=hC;clear hC;refine⟨?_⟩;go_simp;exact hK _ _ rfl HC.out
    intro L U5 V5 hall hC hP;have HC5:Hid (Below wl.heap.size wl V5):=hC;have e43:U5 43=.bool false:=hP 24 43 rfl;simp only[setM_some,setM_none,setM_nil];rw[e43];have H2:Hid (SW V5 g (d.ord hp' at') a∧Mo g d a w (d.ord hp' at') a V5∧OH d.nv hp' at' q v∧(hp'.set q v).Perm (d.hp.set 0 v)):=⟨H.out.1.below HC5.out,H.out.2.1.below HC5.out,H.out.2.2⟩;replace c12:V5.cell? ⟨g,12,none⟩=some (.slice (some ⟨bH,0,none⟩) n cH):=(HC5.out.cell (p:=⟨g,12,none⟩) hlg).trans c12;replace lH:bH<V5.heap.size:=Nat.lt_of_lt_of_le HHL.out HC5.out.size;replace qd:V5.cell? ⟨bH,dn,none⟩=some (.int .i64 (yd:Nat)):=(HC5.out.cell (p:=⟨bH,dn,none⟩) HHL.out).trans qd;have hdI2:(dn:Int)<(n:Int):=HDN.out;clear hC hP hall e43 HRN HDN HDN2 HM12 HGL HHL HC5 H hlg;have HYV:Hid (yd≤d.nv):=HYD.out;have HMV:Hid _:=HMVD.out;clear HYD HMVD;go_wp2_with fail
    refine (ahead_any g (d.ord hp' at') a yd v V5 H2.out.1 HYV.out hv).mono ?_;rintro e w5 ⟨b5,rfl,hb5⟩;have H5:Hid (SW w5 g (d.ord hp' at') a∧Mo g d a w (d.ord hp' at') a w5∧OH d.nv hp' at' q v∧(hp'.set q v).Perm (d.hp.set 0 v)):=⟨H2.out.1.below hb5,H2.out.2.1.below hb5,H2.out.2.2⟩;have c12':w5.cell? ⟨g,12,none⟩=some (.slice (some ⟨bH,0,none⟩) n cH):=(hb5.cell (p:=⟨g,12,none⟩) H2.out.1.lt).trans c12;have q1':w5.cell? ⟨bH,dn,none⟩=some (.int .i64 (yd:Nat)):=(hb5.cell (p:=⟨bH,dn,none⟩) lH).trans qd;have lH':bH<w5.heap.size:=Nat.lt_of_lt_of_le lH hb5.size;clear c12 qd lH H2 hb5;cases b5 with
    | false =>
     go_wp2_with fail
     refine (put_any g (d.ord hp' at') a v q w5 H5.out.1 hv hql (by omega)).mono ?_
     rintro e w6 ⟨rfl,hs,hm⟩;have HE:Hid (SW w6 g (d.ord (hp'.set q v) (upd at' v (q+1))) a∧Mo g d a w (d.ord (hp'.set q v) (upd at' v (q+1))) a w6):=⟨hs,H5.out.2.1.trans hm⟩;clear hs hm;go_wp2;go_end0
     exact⟨rfl,_,_,HE.out.1,HE.out.2,H5.out.2.2.1.fill,H5.out.2.2.2⟩
    | true =>
     go_wp2_with fail
     refine (put_any g (d.ord hp' at') a yd q w5 H5.out.1 HYV.out hql (by omega)).mono ?_
     rintro e w6 ⟨rfl,hs,hm⟩;have HE:Hid (SW w6 g (d.ord (hp'.set q yd) (upd at' yd (q+1))) a∧Mo g d a w (d.ord (hp'.set q yd) (upd at' yd (q+1))) a w6):=⟨hs,H5.out.2.1.trans hm⟩;clear hs hm c12' q1';go_wp2;go_roundw
     case rel=>exact⟨dn,_,_,rfl,HE.out.1,HE.out.2,HMV.out.1,HMV.out.2.trans H5.out.2.2.2⟩
     case measure=>have:=HDQ.out;simp[intOf];omega
  ·
   have hdlI:(n:Int)≤(dn:Int):=by omega
   clear qH zH hH hn hHl hdn;go_wp2_with fail
   refine (put_any g (d.ord hp' at') a v q wl H.out.1 hv hql (by omega)).mono ?_
   rintro e w6 ⟨rfl,hs,hm⟩;have HE:Hid (SW w6 g (d.ord (hp'.set q v) (upd at' v (q+1))) a∧Mo g d a w (d.ord (hp'.set q v) (upd at' v (q+1))) a w6):=⟨hs,H.out.2.1.trans hm⟩;clear hs hm;go_wp2;go_end0
   exact⟨rfl,_,_,HE.out.1,HE.out.2,H.out.2.2.1.fill,H.out.2.2.2⟩
end Sat
namespace Sat
open Euf (OL App)
set_option maxRecDepth 20000 in
set_option maxHeartbeats 8000000 in
theorem pop_any (g:Nat) (d:Dt) (a:Key→Value) (w:World) (h:SW w g d a) (ho:OI d.nv d.hp d.at_) (h0:0<d.hp.length) (hn:d.nv≤5000) :
  Calls Tryz.prog 101 #[.pointer (some ⟨g,12,none⟩)] w fun e w'=>e=.returned (.tuple #[])∧∃hp' at' a',SW w' g (d.ord hp' at') a'∧Mo g d a w (d.ord hp' at') a' w'∧OI d.nv hp' at'∧(∀u,u∈hp'↔u∈d.hp∧u≠d.hp[0])∧hp'.length+1=d.hp.length:=by
 have hlen:=ho.len;obtain⟨bH,cH,hH,lH,kH,kH2,qH,zH⟩:=h.hpR h0;have c12:w.cell? ⟨g,12,none⟩=some (a kHea):=h.cell 12;rw[hH]at c12;obtain⟨bA,cA,hA,lA,qA,zA⟩:=h.atR;have c13:w.cell? ⟨g,13,none⟩=some (a kAtv):=h.cell 13;rw[hA]at c13;obtain⟨n,hnn⟩:∃n,d.hp.length=n+1:=⟨d.hp.length - 1,by omega⟩
 have q0:=qH 0 h0;have qn:=qH n (by omega)
 have hx:d.hp[0]≤d.nv:=ho.c _ (List.getElem_mem _);obtain⟨x,hxe⟩:∃x,x=d.hp[0]:=⟨_,rfl⟩;obtain⟨v,hve⟩:∃v,v=d.hp[n]'(by omega):=⟨_,rfl⟩
 rw[← hxe]at q0 hx;rw[← hve]at qn;have qx:=qA x (by omega)
 have zx:=zA x;have hlg:=h.lt;have hxl:x<d.nv+1:=by omega
 have hxI:(x:Int)<(d.nv:Int)+1:=by omega
 rw[hnn]at c12;obtain⟨s0,m0⟩:=h.setAt hA hxl 0;have s1:SW ((w.setCell ⟨bA,x,none⟩ (.int .i64 0)).drew) g { d with at_:=upd d.at_ x 0 } a:=s0.drew;have m1:Mo g d a w { d with at_:=upd d.at_ x 0 } a ((w.setCell ⟨bA,x,none⟩ (.int .i64 0)).drew):=m0.trans (Mo.drew _ _ _ _);generalize hw1:(w.setCell ⟨bA,x,none⟩ (.int .i64 0)).drew=w1 at s1 m1;obtain⟨s2,m2⟩:=s1.cut_hp (b:=bH) (cap:=cH) hH n (by show n≤d.hp.length;omega)
 have c12':w1.cell? ⟨g,12,none⟩=some (.slice (some ⟨bH,0,none⟩) (n+1) cH):=by rw[s1.cell 12];show some (a kHea)=_;rw[hH,hnn]
 have z12':=s1.frozen 12;have hlg':=s1.lt;have hcn:n≤cH:=by omega
 have HX:Hid (x=d.hp[0]∧(∃hh:n<d.hp.length,v=d.hp[n])∧OI d.nv d.hp d.at_):=⟨hxe,⟨by omega,hve⟩,ho⟩
 have HS:Hid (SW (w1.setCell ⟨g,12,none⟩ (.slice (some ⟨bH,0,none⟩) n cH)) g (d.ord (d.hp.take n) (upd d.at_ x 0)) (updK a kHea (.slice (some ⟨bH,0,none⟩) n cH))∧Mo g d a w (d.ord (d.hp.take n) (upd d.at_ x 0)) (updK a kHea (.slice (some ⟨bH,0,none⟩) n cH)) (w1.setCell ⟨g,12,none⟩ (.slice (some ⟨bH,0,none⟩) n cH))):=⟨s2,m1.trans m2⟩;have HL:Hid (d.hp.length=n+1):=hnn;have hn5:n≤5000:=by omega
 clear s0 m0 s1 m1 s2 m2 hxe hve ho hnn qH zH qA zA hH hA h;go_enter Tryz.func101,Tryz.ntmps101;go_wp2;go_region
 clear hw1 c12 c13 q0 qn qx zx;by_cases hn0:n=0
 ·
  subst hn0;go_wp2;go_end0
  refine⟨rfl,_,_,_,HS.out.1,HS.out.2,?_,fun u=>?_,?_⟩
  · have h9:=(HX.out.2.2.pop h0).1 HL.out;rw[HL.out,← HX.out.1]at h9;exact h9
  ·
   simp only[List.take_zero,List.not_mem_nil,false_iff,not_and,Decidable.not_not];intro hu;obtain⟨i,hi,e⟩:=List.mem_iff_getElem.1 hu;obtain rfl:i=0:=by have:=HL.out;omega
   exact e.symm
  · simp[HL.out]
 ·
  have hn1:0<n:=by omega
  have hn1I:(0:Int)<(n:Int):=by omega
  clear hn0;go_wp2_with fail
  have hoh:OH d.nv (d.hp.take n) (upd d.at_ x 0) 0 v:=by
   have h9:=(HX.out.2.2.pop h0).2 (by have:=HL.out;omega)
   obtain⟨hh,e⟩:=HX.out.2.1;have e3:d.hp.length - 1=n:=by have:=HL.out;omega
   simp only[e3]at h9;rw[← HX.out.1,← e]at h9;exact h9
  refine (sink_any g (d.ord (d.hp.take n) (upd d.at_ x 0)) _ v _ HS.out.1 hoh (by show (d.hp.take n).length≤10000;rw[List.length_take];omega)).mono ?_
  rintro e w5 ⟨rfl,hp',at',hs,hm,hoi,hpm⟩;have HE:Hid (∃hp' at' a',SW w5 g (d.ord hp' at') a'∧Mo g d a w (d.ord hp' at') a' w5∧OI d.nv hp' at'∧(∀u,u∈hp'↔u∈d.hp∧u≠d.hp[0])∧hp'.length+1=d.hp.length):=by
   have hpm':hp'.Perm ((d.hp.take n).set 0 v):=hpm;obtain⟨hh,ev⟩:=HX.out.2.1;have hL:=HL.out;refine⟨hp',at',_,hs,HS.out.2.trans hm,hoi,fun u=>?_,?_⟩
   ·
    rw[hpm'.mem_iff];constructor
    ·
     intro hu;obtain⟨i,hi,e⟩:=List.mem_iff_getElem.1 hu;rw[List.length_set,List.length_take]at hi;rw[List.getElem_set]at e;by_cases ei:0=i
     ·
      rw[if_pos ei]at e;subst e;refine⟨ev ▸ List.getElem_mem _,fun e9=>?_⟩
      rw[ev]at e9;have:=HX.out.2.2.inj hh h0 e9;omega
     · rw[if_neg ei,List.getElem_take]at e;subst e;exact⟨List.getElem_mem _,fun e9=>ei (HX.out.2.2.inj (by omega) h0 e9).symm⟩
    ·
     rintro⟨hu,hne⟩;obtain⟨i,hi,e⟩:=List.mem_iff_getElem.1 hu;by_cases ei:i=n
     · subst ei;exact List.mem_iff_getElem.2 ⟨0,by rw[List.length_set,List.length_take];omega,by rw[List.getElem_set,if_pos rfl,ev];exact e⟩
     ·
      have hi0:i≠0:=fun e0=>by subst e0;exact hne e.symm
      exact List.mem_iff_getElem.2 ⟨i,by rw[List.length_set,List.length_take];omega,by rw[List.getElem_set,if_neg (Ne.symm hi0),List.getElem_take];exact e⟩
   · have:=hpm'.length_eq;rw[List.length_set,List.length_take]at this;omega
  clear hs hm hoi hpm hoh;go_wp2;go_end0
  exact⟨rfl,HE.out⟩
set_option maxRecDepth 20000 in
set_option maxHeartbeats 8000000 in
theorem age_any (g:Nat) (d:Dt) (a:Key→Value) (w:World) (h:SW w g d a) :
  Calls Tryz.prog 99 #[.pointer (some ⟨g,12,none⟩)] w fun e w'=>e=.returned (.tuple #[])∧∃wt',SW w' g { d with wt:=wt' } a∧Mo g d a w { d with wt:=wt' } a w':=by
 have c15:w.cell? ⟨g,15,none⟩=some (.int .i64 d.wt):=h.cell 15;have z15:=h.frozen 15;have hlg:=h.lt;have H:Hid (SW w g d a):=h;clear h;go_enter Tryz.func99,Tryz.ntmps99;go_wp2;go_region
 all_goals (go_wp2;go_end0)
 all_goals exact⟨rfl,_,(H.out.wt_ _).1.drew,(H.out.wt_ _).2.trans (Mo.drew _ _ _ _)⟩
set_option maxRecDepth 20000 in
set_option maxHeartbeats 8000000 in
theorem shrink_any (g:Nat) (d:Dt) (a:Key→Value) (w:World) (h:SW w g d a) (hn:d.nv≤5000) :
  Calls Tryz.prog 138 #[.pointer (some ⟨g,12,none⟩)] w fun e w'=>e=.returned (.tuple #[])∧∃bz' wt',SW w' g { d with bz:=bz',wt:=wt' } a∧Mo g d a w { d with bz:=bz',wt:=wt' } a w':=by
 obtain⟨bB,cB,hB,lB,qB,-⟩:=h.bzR;have c14:w.cell? ⟨g,14,none⟩=some (a kBus):=h.cell 14;rw[hB]at c14;have HB:Hid (a kBus=.slice (some ⟨bB,0,none⟩) (d.nv+1) cB):=hB;have H0:Hid (SW w g d a):=h;have hn0:(d.nv:Int)+1≤5001:=by omega
 clear qB hB h;go_enter Tryz.func138,Tryz.ntmps138;go_wp2;clear c14;go_loopw [8] (fun v8 wr=>∃(i:Nat) (bz':Nat→Int),v8=.int .i64 (i:Nat)∧i≤d.nv+1∧Hid (SW wr g { d with bz:=bz' } a∧Mo g d a w { d with bz:=bz' } a wr)) (fun v _=>d.nv+1 - (intOf v).toNat)
 case atStart=>exact⟨0,d.bz,rfl,Nat.zero_le _,H0.out,Mo.refl _ _ _ _⟩
 case round =>
  rename World=>wl
  clear H0;obtain⟨i,bz',rfl,hi,H⟩:=hrel;by_cases hlt:i<d.nv+1
  ·
   have hltI:(i:Int)<(d.nv:Int)+1:=by omega
   obtain⟨b2,c2,hB2,lB2,qB2,zB2⟩:=H.out.1.bzR;have e2:=HB.out.symm.trans hB2;injection e2 with e2 _ e4;injection e2 with e2;injection e2 with e2 _ _;subst e2 e4;have c14:wl.cell? ⟨g,14,none⟩=some (a kBus):=H.out.1.cell 14;rw[HB.out]at c14;have qi:=qB2 i hlt;have zi:=zB2 i;have hlg:=H.out.1.lt;clear qB2 zB2 hB2;go_wp2;have hS:=H.out.1.setBz HB.out (v:=i) hlt (bz' i / 1073741824);exact⟨⟨i+1,upd bz' i (bz' i / 1073741824),by go_num,by omega,hS.1,H.out.2.trans hS.2⟩,by simp[intOf]<;>omega⟩
  ·
   have hltI:¬ ((i:Int)<(d.nv:Int)+1):=by omega
   have c15:wl.cell? ⟨g,15,none⟩=some (.int .i64 d.wt):=H.out.1.cell 15;have z15:=H.out.1.frozen 15;have hlg:=H.out.1.lt;have hS:=fun x=>H.out.1.wt_ x
   have HS:Hid (∀x,SW (wl.setCell ⟨g,15,none⟩ (.int .i64 x)) g { d with bz:=bz',wt:=x } a∧Mo g d a w { d with bz:=bz',wt:=x } a (wl.setCell ⟨g,15,none⟩ (.int .i64 x))):=fun x=>⟨(hS x).1,H.out.2.trans (hS x).2⟩
   clear hS;obtain⟨wt0,hw0⟩:∃wt0,wt0=d.wt:=⟨_,rfl⟩;rw[← hw0]at c15;clear hw0;obtain⟨q,hq⟩:∃q,wt0 / 1073741824=q:=⟨_,rfl⟩;by_cases hm:q<256
   ·
    have hm2:¬ (256<q):=by omega
    have hm3:q≤256:=by omega
    go_wp2;go_end0
    exact⟨rfl,_,_,(HS.out _).1,(HS.out _).2⟩
   ·
    have hm2:256≤q:=by omega
    go_wp2;all_goals go_end0
    all_goals exact⟨rfl,_,_,(HS.out _).1,(HS.out _).2⟩
set_option maxRecDepth 20000 in
set_option maxHeartbeats 8000000 in
theorem bump_any (g:Nat) (d:Dt) (a:Key→Value) (v:Nat) (w:World) (h:SW w g d a) (ho:OI d.nv d.hp d.at_) (hv:v≤d.nv) (hn:d.nv≤5000) :
  Calls Tryz.prog 123 #[.pointer (some ⟨g,12,none⟩),.int .i64 (v:Nat)] w fun e w'=>e=.returned (.tuple #[])∧∃hp' at' bz' wt',SW w' g { d with hp:=hp',at_:=at',bz:=bz',wt:=wt' } a∧Mo g d a w { d with hp:=hp',at_:=at',bz:=bz',wt:=wt' } a w'∧OI d.nv hp' at'∧hp'.Perm d.hp:=by
 have hlen:=ho.len;obtain⟨bB,cB,hB,lB,qB,zB⟩:=h.bzR;have c14:w.cell? ⟨g,14,none⟩=some (a kBus):=h.cell 14;rw[hB]at c14;have c15:w.cell? ⟨g,15,none⟩=some (.int .i64 d.wt):=h.cell 15;have hvl:v<d.nv+1:=by omega
 have hvI:(v:Int)<(d.nv:Int)+1:=by omega
 have q1:=qB v hvl;have z1:=zB v;have hlg:=h.lt;obtain⟨s0,m0⟩:=h.setBz hB hvl (wrap64 (d.bz v+d.wt));have s1:SW ((w.setCell ⟨bB,v,none⟩ (.int .i64 (wrap64 (d.bz v+d.wt)))).drew) g { d with bz:=upd d.bz v (wrap64 (d.bz v+d.wt)) } a:=s0.drew;have m1:Mo g d a w { d with bz:=upd d.bz v (wrap64 (d.bz v+d.wt)) } a ((w.setCell ⟨bB,v,none⟩ (.int .i64 (wrap64 (d.bz v+d.wt)))).drew):=m0.trans (Mo.drew _ _ _ _);generalize hw1:(w.setCell ⟨bB,v,none⟩ (.int .i64 (wrap64 (d.bz v+d.wt)))).drew=w1 at s1 m1;generalize upd d.bz v (wrap64 (d.bz v+d.wt))=bz1 at s1 m1;have HO:Hid (OI d.nv d.hp d.at_):=ho;have HS:Hid (SW w1 g { d with bz:=bz1 } a∧Mo g d a w { d with bz:=bz1 } a w1):=⟨s1,m1⟩;obtain⟨bA,cA,hA,lA,qA,zA⟩:=s1.atR;have c13:w1.cell? ⟨g,13,none⟩=some (a kAtv):=s1.cell 13;rw[hA]at c13;have q2:w1.cell? ⟨bA,v,none⟩=some (.int .i64 (d.at_ v:Nat)):=qA v hvl;clear s0 m0 s1 m1 qA zA qB zB hA ho;go_enter Tryz.func123,Tryz.ntmps123;go_wp2;go_region
 clear hw1 c14 c15 q1 z1;by_cases h0:d.at_ v=0
 ·
  rw[h0]at q2;obtain⟨b2,c2,hB2,lB2,qB2,zB2⟩:=HS.out.1.bzR;have c14:w1.cell? ⟨g,14,none⟩=some (a kBus):=HS.out.1.cell 14;rw[hB2]at c14;have q3:w1.cell? ⟨b2,v,none⟩=some (.int .i64 (bz1 v)):=qB2 v hvl;generalize bz1 v=z at q3;clear qB2 zB2 hB2 h0;by_cases hz:1152921504606846976<z
  ·
   go_wp2_with fail
   refine (shrink_any g { d with bz:=bz1 } a w1 HS.out.1 hn).mono ?_;rintro e w5 ⟨rfl,bz',wt',hs,hm⟩;have HE:Hid (SW w5 g { d with bz:=bz',wt:=wt' } a∧Mo g d a w { d with bz:=bz',wt:=wt' } a w5):=⟨hs,HS.out.2.trans hm⟩;clear hs hm;go_wp2;go_end0
   exact⟨rfl,d.hp,d.at_,bz',wt',HE.out.1,HE.out.2,HO.out,List.Perm.refl _⟩
  ·
   go_wp2;go_end0
   exact⟨rfl,d.hp,d.at_,bz1,d.wt,HS.out.1,HS.out.2,HO.out,List.Perm.refl _⟩
 ·
  have hne:((d.at_ v:Nat):Int)≠0:=by omega
  have hneB:(((d.at_ v:Nat):Int) != 0)=true:=by simp;omega
  obtain⟨q,hq⟩:∃q,d.at_ v=q+1:=⟨d.at_ v - 1,by omega⟩
  have HQ:Hid (OH d.nv d.hp d.at_ q v∧d.hp.set q v=d.hp):=by
   have h9:=HO.out.hole hv h0;rw[hq]at h9;exact h9
  rw[hq]at q2;have hq4:q≤5001:=by have:=HQ.out.1.pl;omega
  clear hne hneB h0 hq;go_wp2_with fail
  refine (rise_any g { d with bz:=bz1 } a v q w1 HS.out.1 HQ.out.1 (by show d.hp.length≤10000;omega)).mono ?_
  rintro e w3 ⟨rfl,hp',at',hs,hm,hoi,hpm⟩;have H3:Hid (SW w3 g { d with hp:=hp',at_:=at',bz:=bz1 } a∧Mo g d a w { d with hp:=hp',at_:=at',bz:=bz1 } a w3∧OI d.nv hp' at'∧hp'.Perm d.hp):=⟨hs,HS.out.2.trans hm,hoi,by have h9:hp'.Perm (d.hp.set q v):=hpm;rwa [HQ.out.2]at h9⟩
  clear hs hm hoi hpm;obtain⟨b2,c2,hB2,lB2,qB2,zB2⟩:=H3.out.1.bzR;have c14:w3.cell? ⟨g,14,none⟩=some (a kBus):=H3.out.1.cell 14;rw[hB2]at c14;have q3:w3.cell? ⟨b2,v,none⟩=some (.int .i64 (bz1 v)):=qB2 v hvl;generalize bz1 v=z at q3;clear qB2 zB2 hB2;by_cases hz:1152921504606846976<z
  ·
   go_wp2_with fail
   refine (shrink_any g { d with hp:=hp',at_:=at',bz:=bz1 } a w3 H3.out.1 hn).mono ?_;rintro e w5 ⟨rfl,bz',wt',hs,hm⟩;have HE:Hid (SW w5 g { d with hp:=hp',at_:=at',bz:=bz',wt:=wt' } a∧Mo g d a w { d with hp:=hp',at_:=at',bz:=bz',wt:=wt' } a w5):=⟨hs,H3.out.2.1.trans hm⟩;clear hs hm;go_wp2;go_end0
   exact⟨rfl,hp',at',bz',wt',HE.out.1,HE.out.2,H3.out.2.2.1,H3.out.2.2.2⟩
  ·
   go_wp2;go_end0
   exact⟨rfl,hp',at',bz1,d.wt,H3.out.1,H3.out.2.1,H3.out.2.2.1,H3.out.2.2.2⟩
end Sat
namespace Sat
open Euf (OL App)
abbrev Dt.lits (d:Dt) (c:Nat) (L:List Nat):Dt:={ d with C:=upd d.C c { d.C c with lits:=L } }
theorem clC_lits (d:Dt) (a:Key→Value) (c:Nat) (L:List Nat):clC (d.lits c L).C a=clC d.C a:=by
 funext i
 unfold clC;by_cases e:i=c
 · subst e;show [_,Value.int .i64 (upd d.C i _ i).num,Value.int .i64 (upd d.C i _ i).first,_]=_;rw[upd_same]
 · show [_,Value.int .i64 (upd d.C c _ i).num,Value.int .i64 (upd d.C c _ i).first,_]=_;rw[upd_other _ _ e]
theorem rows_lits (d:Dt) (a:Key→Value) (c:Nat) (L:List Nat):∀j,dom d j→j≠kLit c→rows (d.lits c L) a j=rows d a j
  | (0,_),_,_=>rfl
  | (1,_),_,_=>rfl
  | (2,_),_,_=>rfl
  | (3,_),_,_=>rfl
  | (4,_),_,_=>rfl
  | (5,_),_,_=>rfl
  | (6,_),_,_=>rfl
  | (7,_),_,_=>rfl
  | (8,_),_,_=>rfl
  | (9,_),_,_=>rfl
  | (10,_),_,_=>rfl
  | (11,i),_,_=>by
    show Rw.mk 4 _ (a (11,i)) d.nc (clC (d.lits c L).C a)=Rw.mk 4 _ (a (11,i)) d.nc (clC d.C a)
    rw[clC_lits]
  | (12,i),_,hne=>by
    have e:i≠c:=fun e=>hne (by rw[e])
    show Rw.mk 1 _ (a (12,i)) (upd d.C c _ i).lits.length (i32C (upd d.C c _ i).lits)=Rw.mk 1 _ (a (12,i)) (d.C i).lits.length (i32C (d.C i).lits)
    rw[upd_other _ _ e]
  | (13,_),_,_=>rfl
  | (14,i),_,_=>by
    show Rw.mk 2 _ (a (14,i)) (upd d.C c _ i).links.length (prC (upd d.C c _ i).links)=Rw.mk 2 _ (a (14,i)) (d.C i).links.length (prC (d.C i).links)
    by_cases e:i=c
    · subst e;rw[upd_same]
    · rw[upd_other _ _ e]
  | (n+15,_),hd,_=>by obtain⟨h0,-⟩:n+15<12∧_:=hd;omega
section
variable {w w' w1:World} {g:Nat} {d:Dt} {a:Key→Value}
theorem SW.setLit (h:SW w g d a) {c b cap i:Nat} (hc:c<d.nc) (hv:a (kLit c)=.slice (some ⟨b,0,none⟩) (d.C c).lits.length cap) (hi:i<(d.C c).lits.length) (x:Nat):SW (w.setCell ⟨b,i,none⟩ (.int .i32 (x:Nat))) g (d.lits c ((d.C c).lits.set i x)) a∧Mo g d a w (d.lits c ((d.C c).lits.set i x)) a (w.setCell ⟨b,i,none⟩ (.int .i32 (x:Nat))):=by
 have e0:((d.lits c ((d.C c).lits.set i x)).C c).lits=(d.C c).lits.set i x:=by show (upd d.C c _ c).lits=_;rw[upd_same]
 have h1:=h.set (d':=d.lits c ((d.C c).lits.set i x)) (kLit c) hc (b:=b) (cap:=cap) hv (i:=i) (j:=0) hi Nat.one_pos (.int .i32 (x:Nat)) rfl (rows_lits d a c _) ?_ ?_ ?_ rfl
 ·
  have e1:i*(rows d a (kLit c)).sz+0=i:=by show i*1+0=i;omega
  rw[e1]at h1;exact⟨h1,Mo.set h (k:=kLit c) hc (by rw[hv];rfl) i _ rfl⟩
 ·
  show Rw.mk 1 _ (a (kLit c)) (upd d.C c _ c).lits.length (i32C (upd d.C c _ c).lits)=Rw.mk 1 _ (a (kLit c)) (d.C c).lits.length _
  rw[upd_same,List.length_set];show _=Rw.mk 1 _ _ _ (i32C (upd d.C c _ c).lits)
  rw[upd_same];rfl
 ·
  show i32C (upd d.C c _ c).lits i=_
  rw[upd_same];exact i32C_set _ _ _ hi
 ·
  intro m _ hm;show i32C (upd d.C c _ c).lits m=i32C (d.C c).lits m
  rw[upd_same];exact i32C_other _ _ _ _ hm
end
abbrev Dt.wl (d:Dt) (l:Nat) (L:List (Nat × Nat)):Dt:={ d with W:=upd d.W l L }
theorem rows_W (d:Dt) (a:Key→Value) (l:Nat) (L:List (Nat × Nat)):∀j,dom d j→j≠kWl l→rows (d.wl l L) a j=rows d a j
  | (0,_),_,_=>rfl
  | (1,_),_,_=>rfl
  | (2,_),_,_=>rfl
  | (3,_),_,_=>rfl
  | (4,_),_,_=>rfl
  | (5,_),_,_=>rfl
  | (6,_),_,_=>rfl
  | (7,_),_,_=>rfl
  | (8,_),_,_=>rfl
  | (9,_),_,_=>rfl
  | (10,_),_,_=>rfl
  | (11,_),_,_=>rfl
  | (12,_),_,_=>rfl
  | (13,i),_,hne=>by
    have e:i≠l:=fun e=>hne (by rw[e])
    show Rw.mk 2 _ (a (13,i)) (upd d.W l L i).length (prC (upd d.W l L i))=Rw.mk 2 _ (a (13,i)) (d.W i).length (prC (d.W i))
    rw[upd_other _ _ e]
  | (14,_),_,_=>rfl
  | (n+15,_),hd,_=>by obtain⟨h0,-⟩:n+15<12∧_:=hd;omega
theorem rows_W2 (d:Dt) (a:Key→Value) (l:Nat) (L:List (Nat × Nat)) (v:Value):∀j,dom d j→j≠kWl l→j≠kWat→rows (d.wl l L) (updK a (kWl l) v) j=rows d a j
  | (0,_),_,_,_=>rfl
  | (1,i),hd,_,hw=>absurd (show ((1,i):Key)=kWat by obtain⟨-,h0⟩:_∧i=0:=hd;rw[h0]) hw
  | (2,_),_,_,_=>rfl
  | (3,_),_,_,_=>rfl
  | (4,_),_,_,_=>rfl
  | (5,_),_,_,_=>rfl
  | (6,_),_,_,_=>rfl
  | (7,_),_,_,_=>rfl
  | (8,_),_,_,_=>rfl
  | (9,_),_,_,_=>rfl
  | (10,_),_,_,_=>rfl
  | (11,_),_,_,_=>rfl
  | (12,_),_,_,_=>rfl
  | (13,i),_,hne,_=>by
    have e:i≠l:=fun e=>hne (by rw[e])
    show Rw.mk 2 _ (updK a (kWl l) v (13,i)) (upd d.W l L i).length (prC (upd d.W l L i))=Rw.mk 2 _ (a (13,i)) (d.W i).length (prC (d.W i))
    rw[upd_other _ _ e,updK_other _ _ hne]
  | (14,_),_,_,_=>rfl
  | (n+15,_),hd,_,_=>by obtain⟨h0,-⟩:n+15<12∧_:=hd;omega
section
variable {w w' w1:World} {g:Nat} {d:Dt} {a:Key→Value}
theorem prC_set (l:List (Nat × Nat)) (i:Nat) (p:Nat × Nat) (hi:i<l.length):prC (l.set i p) i=[.int .i32 (p.1:Nat),.int .i32 (p.2:Nat)]:=by simp[prC,hi]
theorem prC_other (l:List (Nat × Nat)) (i m:Nat) (p:Nat × Nat) (hm:m≠i):prC (l.set i p) m=prC l m:=by simp[prC,List.getElem?_set_ne (Ne.symm hm)]
theorem SW.setW (h:SW w g d a) {l b cap i:Nat} (hl:l<2*(d.nv+1)) (hv:a (kWl l)=.slice (some ⟨b,0,none⟩) (d.W l).length cap) (hi:i<(d.W l).length) (p:Nat × Nat):SW ((w.setCell ⟨b,i*2,none⟩ (.int .i32 (p.1:Nat))).setCell ⟨b,i*2+1,none⟩ (.int .i32 (p.2:Nat))) g (d.wl l ((d.W l).set i p)) a∧Mo g d a w (d.wl l ((d.W l).set i p)) a ((w.setCell ⟨b,i*2,none⟩ (.int .i32 (p.1:Nat))).setCell ⟨b,i*2+1,none⟩ (.int .i32 (p.2:Nat))):=by
 have hb:(a (kWl l)).ownBlock=some b:=by rw[hv];rfl
 have h0:OL 2 133 w (a (kWl l)) (d.W l).length (prC (d.W l)):=h.ol (k:=kWl l) hl;rw[hv]at h0;have e0:(d.wl l ((d.W l).set i p)).W l=(d.W l).set i p:=upd_same _ _ _;have o1:=h0.set (i:=i) (j:=0) hi (by decide) (.int .i32 (p.1:Nat)) (f':=fun m=>if m=i then [.int .i32 (p.1:Nat),.int .i32 (((d.W l).getD i (0,0)).2:Nat)] else prC (d.W l) m) (fun k _=>rfl) (by rw[if_pos rfl];rfl) (fun k _ hk=>by rw[if_neg hk])
 have o2:=o1.set (i:=i) (j:=1) hi (by decide) (.int .i32 (p.2:Nat)) (f':=prC ((d.W l).set i p)) (fun k _=>by
  by_cases e:k=i
  · rw[if_pos e];rfl
  · rw[if_neg e];rfl) (by rw[if_pos rfl,prC_set _ _ _ hi];rfl) (fun k _ hk=>by rw[if_neg hk];exact prC_other _ _ _ _ hk)
 refine⟨⟨?_,?_⟩,⟨(((Mv.refl (Fo g d a) w).set (a:=⟨b,i*2,none⟩) (Or.inl (Or.inr ⟨kWl l,hl,hb⟩)) _).set (a:=⟨b,i*2+1,none⟩) (Or.inl (Or.inr ⟨kWl l,hl,hb⟩)) _),fun b hb=>Or.inl hb,fun _ _=>rfl,Nat.le_refl _⟩⟩
 ·
  rw[heap_setCell_other _ ⟨b,i*2+1,none⟩ g _ (fun e=>h.ne (k:=kWl l) hl (by rw[hb,e])),heap_setCell_other _ ⟨b,i*2,none⟩ g _ (fun e=>h.ne (k:=kWl l) hl (by rw[hb,e]))]
  exact h.blk
 ·
  refine h.rw_.upd (kWl l) (fun j hj=>Or.inl hj) (rows_W d a l _) (fun _=>?_) (fun b' hb'=>Or.inl ⟨hl,hb'⟩) (fun j b' hj _ hne hb'=>?_)
  ·
   show OL 2 133 _ (a (kWl l)) (upd d.W l _ l).length (prC (upd d.W l _ l))
   rw[upd_same,List.length_set,hv];exact o2
  ·
   rw[rows_v]at hb';have hbb:b'≠b:=fun e=>h.apart (k:=kWl l) hj hl hne hb' (by rw[hb,e])
   rw[heap_setCell_other _ ⟨b,i*2+1,none⟩ b' _ hbb,heap_setCell_other _ ⟨b,i*2,none⟩ b' _ hbb]
theorem SW.putW (h:SW w g d a) {l bW cap:Nat} (hl:l<2*(d.nv+1)) (hW:a kWat=.slice (some ⟨bW,0,none⟩) (2*(d.nv+1)) cap) {v':Value} {L:List (Nat × Nat)} (h1:Mv (fun b=>(a (kWl l)).ownBlock=some b) w w1) (hown:∀b,v'.ownBlock=some b→(a (kWl l)).ownBlock=some b∨w.heap.size≤b) (hol:OL 2 133 w1 v' L.length (prC L)) :
  SW (w1.setCell ⟨bW,l,none⟩ v') g (d.wl l L) (updK a (kWl l) v')∧Mo g d a w (d.wl l L) (updK a (kWl l) v') (w1.setCell ⟨bW,l,none⟩ v'):=by
 have hbW:(a kWat).ownBlock=some bW:=by rw[hW];rfl
 have dW:dom d kWat:=⟨by decide,rfl⟩
 have nWl:kWat≠kWl l:=by intro e;injection e with e _;exact absurd e (by decide)
 have h0:OL 1 131 w (a kWat) (2*(d.nv+1)) (fun i=>[a (kWl i)]):=h.ol (k:=kWat) dW
 have same:∀{j:Key} {b:Nat},dom d j→j≠kWl l→(a j).ownBlock=some b→w1.heap[b]?=w.heap[b]?:=fun hj hne hb=>h1.other _ (h.foLt (Or.inr ⟨_,hj,hb⟩)) (h.apart hj hl hne hb)
 have o1:OL 1 131 w1 (a kWat) (2*(d.nv+1)) (fun i=>[a (kWl i)]):=h0.stay (fun b hb=>same dW nWl hb)
 rw[hW]at o1;have o2:=o1.set (i:=l) (j:=0) hl (by decide) v' (f':=fun i=>[updK a (kWl l) v' (kWl i)]) (fun _ _=>rfl) (by rw[updK_same];rfl) (fun k _ hk=>by
  have:kWl k≠kWl l:=fun e=>hk (by injection e)
  rw[updK_other _ _ this])
 have e1:l*1+0=l:=by omega
 rw[e1]at o2;have oth:∀b,b≠bW→(w1.setCell ⟨bW,l,none⟩ v').heap[b]?=w1.heap[b]?:=fun b hb=>heap_setCell_other w1 ⟨bW,l,none⟩ b v' hb
 have hgs:w1.heap[g]?=w.heap[g]?:=h1.other g h.lt (h.ne (k:=kWl l) hl);have ngW:g≠bW:=fun e=>h.ne (k:=kWat) dW (by rw[hbW,e])
 have vbW:v'.ownBlock≠some bW:=fun e=>by
  rcases hown bW e with h9|h9
  · exact h.apart (j:=kWl l) hl dW (Ne.symm nWl) h9 hbW
  · have:=h.foLt (Or.inr ⟨kWat,dW,hbW⟩);omega
 have kW:dom (d.wl l L)=dom d:=rfl;have ok':∀j,dom d j→(rows (d.wl l L) (updK a (kWl l) v') j).ok (w1.setCell ⟨bW,l,none⟩ v'):=by
  intro j hj;by_cases e:j=kWl l
  ·
   subst e;show OL 2 133 _ (updK a (kWl l) v' (kWl l)) (upd d.W l L l).length (prC (upd d.W l L l))
   rw[updK_same,upd_same];exact hol.stay (fun b hb=>oth b (fun e9=>vbW (by rw[hb,e9])))
  ·
   by_cases e2:j=kWat
   ·
    subst e2;show OL 1 131 _ (updK a (kWl l) v' kWat) (2*(d.nv+1)) (fun i=>[updK a (kWl l) v' (kWl i)])
    rw[updK_other _ _ nWl,hW];exact o2
   ·
    rw[rows_W2 d a l L v' j hj e e2];refine (h.rw_.ok j hj).stay (fun b hb=>?_)
    rw[rows_v]at hb;rw[oth b (fun e9=>h.apart hj dW e2 hb (by rw[hbW,e9]))]
    exact same hj e hb
 have av:∀j b,dom d j→(updK a (kWl l) v' j).ownBlock=some b→(a j).ownBlock=some b∨(j=kWl l∧w.heap.size≤b):=fun j b hj hb=>by
  by_cases e:j=kWl l
  ·
   subst e;rw[updK_same]at hb;rcases hown b hb with h9|h9
   · exact Or.inl h9
   · exact Or.inr ⟨rfl,h9⟩
  · rw[updK_other _ _ e]at hb;exact Or.inl hb
 refine⟨⟨?_,⟨ok',fun i j b hi hj e1 e2=>?_⟩⟩,⟨?_,?_,fun j hj=>updK_other _ _ (fun e=>by subst e;exact hj),Nat.le_refl _⟩⟩
 · rw[oth g ngW,hgs];exact h.blk
 ·
  rw[rows_v]at e1 e2;rcases av i b hi e1 with h9|⟨h9,h8⟩
  ·
   rcases av j b hj e2 with h7|⟨h7,h6⟩
   · exact h.rw_.dis i j b hi hj (by rw[rows_v];exact h9) (by rw[rows_v];exact h7)
   · have:=h.foLt (Or.inr ⟨i,hi,h9⟩);omega
  ·
   rcases av j b hj e2 with h7|⟨h7,h6⟩
   · have:=h.foLt (Or.inr ⟨j,hj,h7⟩);omega
   · rw[h9,h7]
 · exact ((Mv.refl (Fo g d a) w).trans h1 (fun b hb=>Or.inl (Or.inr ⟨kWl l,hl,hb⟩))).set (a:=⟨bW,l,none⟩) (Or.inl (Or.inr ⟨kWat,dW,hbW⟩)) v'
 ·
  rintro b (hb|⟨j,hj,e⟩)
  · exact Or.inl (Or.inl hb)
  ·
   rcases av j b hj e with h9|⟨-,h9⟩
   · exact Or.inl (Or.inr ⟨j,hj,h9⟩)
   · exact Or.inr h9
end
abbrev Dt.more (d:Dt) (x:Cl):Dt:={ d with nc:=d.nc+1,C:=upd d.C d.nc x }
def aMore (a:Key→Value) (nc:Nat) (vl vk vc:Value):Key→Value:=updK (updK (updK a (kLit nc) vl) (kLnk nc) vk) kClz vc
theorem aMore_other (a:Key→Value) {nc:Nat} {vl vk vc:Value} {j:Key} (h1:j≠kLit nc) (h2:j≠kLnk nc) (h3:j≠kClz):aMore a nc vl vk vc j=a j:=by
 unfold aMore;rw[updK_other _ _ h3,updK_other _ _ h2,updK_other _ _ h1]
theorem aMore_lit (a:Key→Value) (nc:Nat) (vl vk vc:Value):aMore a nc vl vk vc (kLit nc)=vl:=by
 unfold aMore;rw[updK_other _ _ (by intro e;injection e with e _;exact absurd e (by decide)),updK_other _ _ (by intro e;injection e with e _;exact absurd e (by decide)),updK_same]
theorem aMore_lnk (a:Key→Value) (nc:Nat) (vl vk vc:Value):aMore a nc vl vk vc (kLnk nc)=vk:=by
 unfold aMore;rw[updK_other _ _ (by intro e;injection e with e _;exact absurd e (by decide)),updK_same]
theorem aMore_clz (a:Key→Value) (nc:Nat) (vl vk vc:Value):aMore a nc vl vk vc kClz=vc:=by unfold aMore;rw[updK_same]
theorem aMore_litO (a:Key→Value) {nc i:Nat} (vl vk vc:Value) (h:i≠nc):aMore a nc vl vk vc (kLit i)=a (kLit i) :=
  aMore_other a (fun e=>h (by injection e)) (by intro e;injection e with e _;exact absurd e (by decide)) (by intro e;injection e with e _;exact absurd e (by decide))
theorem aMore_lnkO (a:Key→Value) {nc i:Nat} (vl vk vc:Value) (h:i≠nc):aMore a nc vl vk vc (kLnk i)=a (kLnk i) :=
  aMore_other a (by intro e;injection e with e _;exact absurd e (by decide)) (fun e=>h (by injection e)) (by intro e;injection e with e _;exact absurd e (by decide))
theorem aMore_stab {d:Dt} (a:Key→Value) (vl vk vc:Value):∀k,stab d k→aMore a d.nc vl vk vc k=a k:=by
 intro k hk;refine aMore_other a (fun e=>?_) (fun e=>?_) (fun e=>?_)
 · subst e;exact absurd hk (Nat.lt_irrefl _)
 · subst e;exact hk
 · subst e;exact hk
theorem rows_more (d:Dt) (a:Key→Value) (x:Cl) (vl vk vc:Value):∀j,dom (d.more x) j→j≠kLit d.nc→j≠kLnk d.nc→j≠kClz→rows (d.more x) (aMore a d.nc vl vk vc) j=rows d a j∧dom d j
  | (0,_),hd,_,_,_=>⟨rfl,hd⟩
  | (1,_),hd,_,_,_=>⟨rfl,hd⟩
  | (2,_),hd,_,_,_=>⟨rfl,hd⟩
  | (3,_),hd,_,_,_=>⟨rfl,hd⟩
  | (4,_),hd,_,_,_=>⟨rfl,hd⟩
  | (5,_),hd,_,_,_=>⟨rfl,hd⟩
  | (6,_),hd,_,_,_=>⟨rfl,hd⟩
  | (7,_),hd,_,_,_=>⟨rfl,hd⟩
  | (8,_),hd,_,_,_=>⟨rfl,hd⟩
  | (9,_),hd,_,_,_=>⟨rfl,hd⟩
  | (10,_),hd,_,_,_=>⟨rfl,hd⟩
  | (11,i),hd,_,_,hc=>absurd (show ((11,i):Key)=kClz by obtain⟨-,h0⟩:_∧i=0:=hd;rw[h0]) hc
  | (12,i),hd,h1,_,_=>by
    have e:i≠d.nc:=fun e=>h1 (by rw[e])
    have hd':i<d.nc+1:=hd
    refine⟨?_,show i<d.nc by omega⟩
    show Rw.mk 1 _ (aMore a d.nc vl vk vc (kLit i)) (upd d.C d.nc x i).lits.length (i32C (upd d.C d.nc x i).lits)=Rw.mk 1 _ (a (12,i)) (d.C i).lits.length (i32C (d.C i).lits)
    rw[upd_other _ _ e,aMore_litO _ _ _ _ e]
  | (13,_),hd,_,_,_=>⟨rfl,hd⟩
  | (14,i),hd,_,h2,_=>by
    have e:i≠d.nc:=fun e=>h2 (by rw[e])
    have hd':i<d.nc+1:=hd
    refine⟨?_,show i<d.nc by omega⟩
    show Rw.mk 2 _ (aMore a d.nc vl vk vc (kLnk i)) (upd d.C d.nc x i).links.length (prC (upd d.C d.nc x i).links)=Rw.mk 2 _ (a (14,i)) (d.C i).links.length (prC (d.C i).links)
    rw[upd_other _ _ e,aMore_lnkO _ _ _ _ e]
  | (n+15,_),hd,_,_,_=>by obtain⟨h0,-⟩:n+15<12∧_:=hd;omega
section
variable {w w' w1:World} {g:Nat} {d:Dt} {a:Key→Value}
theorem SW.moreC (h:SW w g d a) {x:Cl} {vl vk vc:Value} (hl:OL 1 106 w vl x.lits.length (i32C x.lits)) (hk:OL 2 127 w vk x.links.length (prC x.links)) (fl:∀b,vl.ownBlock=some b→¬ Fo g d a b) (fk:∀b,vk.ownBlock=some b→¬ Fo g d a b)
  (hap:App (a kClz) vc w w1) (hol:OL 4 86 w1 vc (d.nc+1) (clC (d.more x).C (aMore a d.nc vl vk vc))) :
  SW (w1.setCell ⟨g,2,none⟩ vc) g (d.more x) (aMore a d.nc vl vk vc)∧Mv (Fo g d a) w (w1.setCell ⟨g,2,none⟩ vc)∧∀b,Fo g (d.more x) (aMore a d.nc vl vk vc) b→Fo g d a b∨vl.ownBlock=some b∨vk.ownBlock=some b∨w.heap.size≤b:=by
 have dC:dom d kClz:=⟨by decide,rfl⟩
 have h0:OL 4 86 w (a kClz) d.nc (clC d.C a):=h.ol (k:=kClz) dC;have n1:kLit d.nc≠kLnk d.nc:=by intro e;injection e with e _;exact absurd e (by decide)
 have n2:kLit d.nc≠kClz:=by intro e;injection e with e _;exact absurd e (by decide)
 have n3:kLnk d.nc≠kClz:=by intro e;injection e with e _;exact absurd e (by decide)
 have oth:∀b,b≠g→(w1.setCell ⟨g,2,none⟩ vc).heap[b]?=w1.heap[b]?:=fun b hb=>heap_setCell_other w1 ⟨g,2,none⟩ b vc hb
 have keep:∀b,b<w.heap.size→(a kClz).ownBlock≠some b→b≠g→(w1.setCell ⟨g,2,none⟩ vc).heap[b]?=w.heap[b]?:=fun b h1 h2 h3=>(oth b h3).trans (hap.other b h1 h2)
 have hg1:w1.heap[g]?=some (.cells (cellsOf d a) 78 (0,0)):=(hap.other g h.lt (h.ne (k:=kClz) dC)).trans h.blk;have hcv:∀b,vc.ownBlock=some b→(a kClz).ownBlock=some b∨w.heap.size≤b:=fun b hb=>by
  rcases hap.at_ with e|⟨b',e3,e4⟩
  · exact Or.inl (e ▸ hb)
  · rw[e3]at hb;injection hb with hb;exact Or.inr (by omega)
 have cls:∀j b,dom (d.more x) j→(aMore a d.nc vl vk vc j).ownBlock=some b→(j=kLit d.nc∧vl.ownBlock=some b)∨(j=kLnk d.nc∧vk.ownBlock=some b)∨(j=kClz∧vc.ownBlock=some b)∨(dom d j∧(a j).ownBlock=some b∧j≠kClz):=by
  intro j b hj hb;by_cases e1:j=kLit d.nc
  · subst e1;rw[aMore_lit]at hb;exact Or.inl ⟨rfl,hb⟩
  ·
   by_cases e2:j=kLnk d.nc
   · subst e2;rw[aMore_lnk]at hb;exact Or.inr (Or.inl ⟨rfl,hb⟩)
   ·
    by_cases e3:j=kClz
    · subst e3;rw[aMore_clz]at hb;exact Or.inr (Or.inr (Or.inl ⟨rfl,hb⟩))
    · rw[aMore_other a e1 e2 e3]at hb;exact Or.inr (Or.inr (Or.inr ⟨(rows_more d a x vl vk vc j hj e1 e2 e3).2,hb,e3⟩))
 refine⟨⟨?_,⟨fun j hj=>?_,fun i j b hi hj e1 e2=>?_⟩⟩,?_,?_⟩
 · have:=heap_setCell_same w1 g 2 _ 78 vc hg1;rw[this];rfl
 ·
  by_cases e1:j=kLit d.nc
  ·
   subst e1;show OL 1 106 _ (aMore a d.nc vl vk vc (kLit d.nc)) (upd d.C d.nc x d.nc).lits.length (i32C (upd d.C d.nc x d.nc).lits)
   rw[aMore_lit,upd_same];exact hl.stay (fun b hb=>keep b (hl.lt hb) (fun e=>fl b hb (Or.inr ⟨kClz,dC,e⟩)) (fun e=>fl b hb (Or.inl e)))
  ·
   by_cases e2:j=kLnk d.nc
   ·
    subst e2;show OL 2 127 _ (aMore a d.nc vl vk vc (kLnk d.nc)) (upd d.C d.nc x d.nc).links.length (prC (upd d.C d.nc x d.nc).links)
    rw[aMore_lnk,upd_same];exact hk.stay (fun b hb=>keep b (hk.lt hb) (fun e=>fk b hb (Or.inr ⟨kClz,dC,e⟩)) (fun e=>fk b hb (Or.inl e)))
   ·
    by_cases e3:j=kClz
    ·
     subst e3;show OL 4 86 _ (aMore a d.nc vl vk vc kClz) (d.nc+1) (clC (d.more x).C (aMore a d.nc vl vk vc))
     rw[aMore_clz];exact hol.stay (fun b hb=>oth b (fun e=>hol.neB hg1 (by decide) (by rw[hb,e])))
    ·
     obtain⟨hr,hd⟩:=rows_more d a x vl vk vc j hj e1 e2 e3;rw[hr];refine (h.rw_.ok j hd).stay (fun b hb=>?_)
     rw[rows_v]at hb;exact keep b (h.foLt (Or.inr ⟨j,hd,hb⟩)) (h.apart hd dC e3 hb) (fun e=>h.ne hd (by rw[hb,e]))
 ·
  rw[rows_v]at e1 e2;have lk:∀{b:Nat},vl.ownBlock=some b→vk.ownBlock=some b→False:=fun h1 h2=>hl.ne hk (by decide) h1 h2
  have lt1:∀{b:Nat},vl.ownBlock=some b→b<w.heap.size:=fun h1=>hl.lt h1
  have lt2:∀{b:Nat},vk.ownBlock=some b→b<w.heap.size:=fun h1=>hk.lt h1
  have c1:∀{b:Nat},vl.ownBlock=some b→vc.ownBlock=some b→False:=fun {b} h1 h2=>by
   rcases hcv b h2 with h9|h9
   · exact fl b h1 (Or.inr ⟨kClz,dC,h9⟩)
   · have:=lt1 h1;omega
  have c2:∀{b:Nat},vk.ownBlock=some b→vc.ownBlock=some b→False:=fun {b} h1 h2=>by
   rcases hcv b h2 with h9|h9
   · exact fk b h1 (Or.inr ⟨kClz,dC,h9⟩)
   · have:=lt2 h1;omega
  have c3:∀{k:Key} {b:Nat},dom d k→(a k).ownBlock=some b→k≠kClz→vc.ownBlock=some b→False:=fun {k b} h1 h2 h3 h4=>by
   rcases hcv b h4 with h9|h9
   · exact h.apart h1 dC h3 h2 h9
   · have:=h.foLt (Or.inr ⟨k,h1,h2⟩);omega
  rcases cls i b hi e1 with⟨i1,i2⟩|⟨i1,i2⟩|⟨i1,i2⟩|⟨i1,i2,i3⟩<;>rcases cls j b hj e2 with⟨j1,j2⟩|⟨j1,j2⟩|⟨j1,j2⟩|⟨j1,j2,j3⟩
  · rw[i1,j1]
  · exact (lk i2 j2).elim
  · exact (c1 i2 j2).elim
  · exact absurd (Or.inr ⟨j,j1,j2⟩) (fl b i2)
  · exact (lk j2 i2).elim
  · rw[i1,j1]
  · exact (c2 i2 j2).elim
  · exact absurd (Or.inr ⟨j,j1,j2⟩) (fk b i2)
  · exact (c1 j2 i2).elim
  · exact (c2 j2 i2).elim
  · rw[i1,j1]
  · exact (c3 j1 j2 j3 i2).elim
  · exact absurd (Or.inr ⟨i,i1,i2⟩) (fl b j2)
  · exact absurd (Or.inr ⟨i,i1,i2⟩) (fk b j2)
  · exact (c3 i1 i2 i3 j2).elim
  · exact h.rw_.dis i j b i1 j1 (by rw[rows_v];exact i2) (by rw[rows_v];exact j2)
 · exact ((Mv.refl (Fo g d a) w).app hap (fun b hb=>Or.inl (Or.inr ⟨kClz,dC,hb⟩))).set (a:=⟨g,2,none⟩) (Or.inl (Or.inl rfl)) vc
 ·
  rintro b (hb|⟨j,hj,e⟩)
  · exact Or.inl (Or.inl hb)
  ·
   rcases cls j b hj e with⟨i1,i2⟩|⟨i1,i2⟩|⟨i1,i2⟩|⟨i1,i2,i3⟩
   · exact Or.inr (Or.inl i2)
   · exact Or.inr (Or.inr (Or.inl i2))
   ·
    rcases hcv b i2 with h9|h9
    · exact Or.inl (Or.inr ⟨kClz,dC,h9⟩)
    · exact Or.inr (Or.inr (Or.inr h9))
   · exact Or.inl (Or.inr ⟨j,i1,i2⟩)
end
end Sat
namespace Sat
open Euf (OL App ONE5 wp_push1)
theorem uCls:Tryz.prog.underlying 57=some (.slice 86):=by kernel_rfl
theorem iCl:(Tryz.prog.info? 86).map (fun i=>(i.zero,i.size,i.bytes))=some (some (.agg #[.slice none 0 0,.int .i64 0,.int .i64 0,.slice none 0 0]),4,64):=by kernel_rfl
theorem Euf_ofBelow {v v':Value} {w w' w'':World} (h:App v v' w' w'') (hb:Below w.heap.size w w'):App v v' w w'' :=
  ⟨h.os.trans hb.os,h.tape.trans hb.tape,h.output.trans hb.output,Nat.le_trans hb.size h.size,fun b h1 h2=>(h.other b (Nat.lt_of_lt_of_le h1 hb.size) h2).trans (hb.block b h1),by
    rcases h.at_ with e|⟨b,e,h2⟩
    · exact Or.inl e
    · exact Or.inr ⟨b,e,Nat.le_trans hb.size h2⟩⟩
def KeepEnd (g:Nat) (d:Dt) (a:Key→Value) (x:Cl) (vl vk:Value) (w w':World):Prop :=
  ∃vc,SW w' g (d.more x) (aMore a d.nc vl vk vc)∧Mv (Fo g d a) w w'∧∀b,Fo g (d.more x) (aMore a d.nc vl vk vc) b→Fo g d a b∨vl.ownBlock=some b∨vk.ownBlock=some b∨w.heap.size≤b
theorem clC_more (C:Nat→Cl) (a:Key→Value) (nc:Nat) (x:Cl) (vl vk vc:Value):clC (upd C nc x) (aMore a nc vl vk vc)=clC (upd C nc x) (updK (updK a (kLit nc) vl) (kLnk nc) vk):=by
 funext i
 unfold clC aMore;rw[updK_other _ (j:=kLit i) vc (by intro e;injection e with e _;exact absurd e (by decide)),updK_other _ (j:=kLnk i) vc (by intro e;injection e with e _;exact absurd e (by decide))]
set_option maxRecDepth 20000 in
set_option maxHeartbeats 8000000 in
theorem keep_any (g:Nat) (d:Dt) (a:Key→Value) (x:Cl) (vl vk:Value) (w:World) (h:SW w g d a) (hl:OL 1 106 w vl x.lits.length (i32C x.lits)) (hk:OL 2 127 w vk x.links.length (prC x.links)) (fl:∀b,vl.ownBlock=some b→¬ Fo g d a b) (fk:∀b,vk.ownBlock=some b→¬ Fo g d a b) (hn:d.nc≤100000000) :
  Calls Tryz.prog 34 #[.pointer (some ⟨g,0,none⟩),.agg #[vl,.int .i64 x.num,.int .i64 x.first,vk]] w fun e w'=>e=.returned (.int .i64 (d.nc:Nat))∧KeepEnd g d a x vl vk w w':=by
 have HX:Hid (SW w g d a∧OL 1 106 w vl x.lits.length (i32C x.lits)∧OL 2 127 w vk x.links.length (prC x.links)∧(∀b,vl.ownBlock=some b→¬ Fo g d a b)∧(∀b,vk.ownBlock=some b→¬ Fo g d a b)):=⟨h,hl,hk,fl,fk⟩;obtain⟨ql,cl,el,-,-,-,-⟩:=hl.shape;obtain⟨qk,ck,ek,-,-,-,-⟩:=hk.shape;have HONE:Hid (∀u∈[vl,.int .i64 x.num,.int .i64 x.first,vk],u.oneCell'=true):=by
  intro u hu;simp at hu;rcases hu with rfl|rfl|rfl|rfl
  · rw[el];rfl
  · rfl
  · rfl
  · rw[ek];rfl
 have hbw:Below w.heap.size w (w.alloc (.cells #[vl,.int .i64 x.num,.int .i64 x.first,vk] 86 (0,0))):=by go_grown
 have kb:(w.alloc (.cells #[vl,.int .i64 x.num,.int .i64 x.first,vk] 86 (0,0))).heap[w.heap.size]?=_:=heap_alloc_new w _
 obtain⟨xl,hxl⟩:∃xl,xl=x.lits.length:=⟨_,rfl⟩;obtain⟨xk,hxk⟩:∃xk,xk=x.links.length:=⟨_,rfl⟩;have HVL:Hid (vl=.slice ql xl cl∧vk=.slice qk xk ck):=⟨by rw[el,hxl],by rw[ek,hxk]⟩
 clear h hl hk fl fk el ek hxl hxk;obtain⟨rfl,rfl⟩:=HVL.out;clear HVL;go_enter Tryz.func34,Tryz.ntmps34;go_wp2;generalize (w.alloc (.cells #[.slice ql xl cl,.int .i64 x.num,.int .i64 x.first,.slice qk xk ck] 86 (0,0)))=w1 at hbw kb ⊢
 obtain⟨vl,hvl⟩:∃vl,vl=Value.slice ql xl cl:=⟨_,rfl⟩;obtain⟨vk,hvk⟩:∃vk,vk=Value.slice qk xk ck:=⟨_,rfl⟩;rw[← hvl,← hvk]at HX HONE kb ⊢;have HVV:Hid (vl=Value.slice ql xl cl∧vk=Value.slice qk xk ck):=⟨hvl,hvk⟩;clear hvl hvk;have h1:SW w1 g d a:=HX.out.1.below hbw;have dC:dom d kClz:=⟨by decide,rfl⟩
 have h0:OL 4 86 w1 (a kClz) d.nc (clC d.C a):=h1.ol (k:=kClz) dC;obtain⟨E5,hE5⟩:∃E5:World→Prop,E5=fun wr=>KeepEnd g d a x vl vk w wr:=⟨_,rfl⟩
 obtain⟨M5,hM5⟩:∃M5:World→Prop,M5=fun wr=>wr.cell? ⟨g,2,none⟩=some (a kClz)∧wr.cell? ⟨w.heap.size,0,none⟩=some vl∧wr.cell? ⟨w.heap.size,1,none⟩=some (.int .i64 x.num)∧wr.cell? ⟨w.heap.size,2,none⟩=some (.int .i64 x.first)∧wr.cell? ⟨w.heap.size,3,none⟩=some vk∧g<wr.heap.size∧w.heap.size<wr.heap.size:=⟨_,rfl⟩
 have hng:(a kClz).ownBlock≠some g:=h1.ne (k:=kClz) dC;have hnb:(a kClz).ownBlock≠some w.heap.size:=fun e=>by have:=HX.out.1.foLt (Or.inr ⟨kClz,dC,e⟩);omega
 have hwl:w.heap.size<w1.heap.size:=(Array.getElem?_eq_some_iff.1 kb).1;have hMb:∀wr,wr.heap[g]?=w1.heap[g]?→wr.heap[w.heap.size]?=w1.heap[w.heap.size]?→w1.heap.size≤wr.heap.size→M5 wr:=by
  intro wr e1 e2 e3;rw[hM5];have k2:wr.heap[w.heap.size]?=_:=e2.trans kb;exact⟨(World.cell?_of_block (a:=⟨g,2,none⟩) e1).trans (h1.cell 2),cell_of_row wr w.heap.size 0 _ 86 (0,0) k2,cell_of_row wr w.heap.size 1 _ 86 (0,0) k2,cell_of_row wr w.heap.size 2 _ 86 (0,0) k2,cell_of_row wr w.heap.size 3 _ 86 (0,0) k2,Nat.lt_of_lt_of_le h1.lt e3,Nat.lt_of_lt_of_le hwl e3⟩
 have HM0:Hid (∀wr,Below w1.heap.size w1 wr→M5 wr):=fun wr hb=>hMb wr (hb.block g h1.lt) (hb.block _ hwl) hb.size
 have HM1:Hid (∀wr v,App (a kClz) v w1 wr→M5 wr):=fun wr v hap=>hMb wr (hap.other g h1.lt hng) (hap.other _ hwl hnb) hap.size
 have HOWN:Hid (∀wr,Below w1.heap.size w1 wr→OL 4 86 wr (a kClz) d.nc (clC d.C a)):=fun wr hb=>h0.stay fun b e=>hb.block b (h0.lt e)
 have HFZ:Hid (∀wr v,App (a kClz) v w1 wr→wr.cell? ⟨g,2,none⟩=some (a kClz)∧wr.frozen? ⟨g,2,none⟩=false):=fun wr v hap=>⟨(World.cell?_of_block (a:=⟨g,2,none⟩) (hap.other g h1.lt hng)).trans (h1.cell 2),frozen_of_row wr g 2 _ 78 ((hap.other g h1.lt hng).trans h1.blk)⟩
 have HNB:Hid (d.nc+1≤1000000000):=by show _≤_;omega
 have HF1:Hid (∀k,k<d.nc→clC (upd d.C d.nc x) (updK (updK a (kLit d.nc) vl) (kLnk d.nc) vk) k=clC d.C a k):=by
  intro k hk;unfold clC;rw[upd_other _ _ (by omega),updK_other _ (j:=kLit k) vk (by intro e;injection e with e _;exact absurd e (by decide)),updK_other _ (j:=kLit k) vl (by intro e;injection e with _ e;omega),updK_other _ (j:=kLnk k) vk (by intro e;injection e with _ e;omega),updK_other _ (j:=kLnk k) vl (by intro e;injection e with e _;exact absurd e (by decide))]
 have HF2:Hid (clC (upd d.C d.nc x) (updK (updK a (kLit d.nc) vl) (kLnk d.nc) vk) d.nc=[vl,.int .i64 x.num,.int .i64 x.first,vk]):=by
  show _=_
  unfold clC;rw[upd_same,updK_other _ (j:=kLit d.nc) vk (by intro e;injection e with e _;exact absurd e (by decide)),updK_same,updK_same]
 have HSET:Hid (∀wr v,OL 4 86 wr v (d.nc+1) (clC (upd d.C d.nc x) (updK (updK a (kLit d.nc) vl) (kLnk d.nc) vk))→App (a kClz) v w1 wr→v≠.slice none 0 0→E5 (wr.setCell ⟨g,2,none⟩ v)):=by
  intro wr v hol hap _;rw[hE5];have k1:=h1.moreC (x:=x) (vl:=vl) (vk:=vk) (HX.out.2.1.stay fun b e=>hbw.block b (HX.out.2.1.lt e)) (HX.out.2.2.1.stay fun b e=>hbw.block b (HX.out.2.2.1.lt e)) HX.out.2.2.2.1 HX.out.2.2.2.2 hap (by show OL 4 86 wr v (d.nc+1) (clC (upd d.C d.nc x) (aMore a d.nc vl vk v));rw[clC_more];exact hol)
  exact⟨v,k1.1,(Mv.below hbw).trans k1.2.1 (fun b hb=>Or.inl hb),fun b hb=>by
   rcases k1.2.2 b hb with h9|h9|h9|h9
   · exact Or.inl h9
   · exact Or.inr (Or.inl h9)
   · exact Or.inr (Or.inr (Or.inl h9))
   · exact Or.inr (Or.inr (Or.inr (Nat.le_trans hbw.size h9)))⟩
 clear hMb hng hnb h0 h1 kb hbw;refine wp_region_E (by kernel_rfl) [some 5,some 6,some 7,some 8,some 9,some 10,some 11,some 12,some 13,some 14,none] [none,none,none,none,none,some 5,some 6,some 7,some 8,some 9,some 10,some 11,some 12,some 13,some 14] (fun U=>by kernel_rfl) [fun u=>u=(.pointer (some ⟨g,0,none⟩)),fun u=>u=(.pointer (some ⟨g,0,none⟩)),fun u=>u=(.pointer (some ⟨g,0,none⟩)),fun u=>u=(.pointer (some ⟨g,2,none⟩)),fun u=>u=(a kClz),fun u=>u=(.agg #[vl,.int .i64 x.num,.int .i64 x.first,vk]),fun _=>True,fun _=>True,fun u=>u=(.pointer (some ⟨g,0,none⟩)),fun u=>u=(.pointer (some ⟨g,2,none⟩)),fun _=>True] (fun L U wr=>(L 7=false→Below w1.heap.size w1 wr)∧(L 6=true→L 7=false→ONE5 86 [vl,.int .i64 x.num,.int .i64 x.first,vk] (U 11) wr)∧(L 7=true→L 10=false→OL 4 86 wr (U 12) (d.nc+1) (clC (upd d.C d.nc x) (updK (updK a (kLit d.nc) vl) (kLnk d.nc) vk))∧App (a kClz) (U 12) w1 wr∧U 12≠.slice none 0 0)∧(L 10=true→(L 0=true∧L 1=true∧L 2=true∧L 3=true∧L 4=true∧L 5=true∧L 6=true∧L 7=true∧L 8=true∧L 9=true)∧E5 wr)) (by kernel_rfl) (by decide) (by kernel_rfl) (by kernel_rfl) ?_ ?_ ?_
 · exact fun U=>⟨fun _=>(Below.refl _ _).drew,(fun h=>by cases h),(fun h=>by cases h),(fun h=>by cases h)⟩
 ·
  refine StepsE.run rfl ?_ ?_
  ·
   intro L U wr hC hP hlk hcl haf A K hFm hK;simp[Aft,Region.binds]at haf;have e0:A.tmps[0]?=some (.pointer (some ⟨g,0,none⟩)):=(hFm.old 0 (by decide)).trans (by kernel_rfl)
   have HC:Hid _:=hC;clear hC;refine⟨?_⟩;go_simp;refine hK _ _ rfl ?_;obtain⟨c0,cB,c1,cS⟩:=HC.out;refine⟨fun h=>c0 (by simpa using h),(fun h1 h2=>by have h9:=cB (by simpa using h1) (by simpa using h2);simpa [updO,Go.Proofs.YtbmkkhpoaicclabGreat.upd] using h9),(fun h1 h2=>by have h9:=c1 (by simpa using h1) (by simpa using h2);simpa [updO,Go.Proofs.YtbmkkhpoaicclabGreat.upd] using h9),fun h=>?_⟩
   have h9:=cS (by simpa using h)
   exact⟨by simp[h9.1],h9.2⟩
  refine StepsE.run rfl ?_ ?_
  ·
   intro L U wr hC hP hlk hcl haf A K hFm hK;simp[Aft,Region.binds]at haf;have e0:A.tmps[0]?=some (.pointer (some ⟨g,0,none⟩)):=(hFm.old 0 (by decide)).trans (by kernel_rfl)
   have HC:Hid _:=hC;clear hC;refine⟨?_⟩;go_simp;refine hK _ _ rfl ?_;obtain⟨c0,cB,c1,cS⟩:=HC.out;refine⟨fun h=>c0 (by simpa using h),(fun h1 h2=>by have h9:=cB (by simpa using h1) (by simpa using h2);simpa [updO,Go.Proofs.YtbmkkhpoaicclabGreat.upd] using h9),(fun h1 h2=>by have h9:=c1 (by simpa using h1) (by simpa using h2);simpa [updO,Go.Proofs.YtbmkkhpoaicclabGreat.upd] using h9),fun h=>?_⟩
   have h9:=cS (by simpa using h)
   exact⟨by simp[h9.1],h9.2⟩
  refine StepsE.run rfl ?_ ?_
  ·
   intro L U wr hC hP hlk hcl haf A K hFm hK;simp[Aft,Region.binds]at haf;have g1:U 6=(.pointer (some ⟨g,0,none⟩)):=hP 1 6 (by simp[haf]) rfl
   have e6:A.tmps[6]?=some (.pointer (some ⟨g,0,none⟩)):=hFm.is 1 6 rfl g1;have hM8:M5 wr:=by
    obtain⟨c0,cB,c1,cS⟩:=hC;have hs:L 10=false:=by cases h:L 10 with|false=>rfl|true=>exact absurd (cS h).1 (by simp[hlk])
    cases h14:L 7 with
    | false=>exact HM0.out wr (c0 h14)
    | true=>exact HM1.out wr (U 12) (c1 h14 hs).2.1
   rw[hM5]at hM8;obtain⟨m2,ma,mb,mc,md,hlg,hlb⟩:=hM8;have HC:Hid _:=hC;clear hC;refine⟨?_⟩;go_simp;refine hK _ _ rfl ?_;obtain⟨c0,cB,c1,cS⟩:=HC.out;refine⟨fun h=>c0 (by simpa using h),(fun h1 h2=>by have h9:=cB (by simpa using h1) (by simpa using h2);simpa [updO,Go.Proofs.YtbmkkhpoaicclabGreat.upd] using h9),(fun h1 h2=>by have h9:=c1 (by simpa using h1) (by simpa using h2);simpa [updO,Go.Proofs.YtbmkkhpoaicclabGreat.upd] using h9),fun h=>?_⟩
   have h9:=cS (by simpa using h)
   exact⟨by simp[h9.1],h9.2⟩
  refine StepsE.run rfl ?_ ?_
  ·
   intro L U wr hC hP hlk hcl haf A K hFm hK;simp[Aft,Region.binds]at haf;have g2:U 7=(.pointer (some ⟨g,0,none⟩)):=hP 2 7 (by simp[haf]) rfl
   have e7:A.tmps[7]?=some (.pointer (some ⟨g,0,none⟩)):=hFm.is 2 7 rfl g2;have hM8:M5 wr:=by
    obtain⟨c0,cB,c1,cS⟩:=hC;have hs:L 10=false:=by cases h:L 10 with|false=>rfl|true=>exact absurd (cS h).1 (by simp[hlk])
    cases h14:L 7 with
    | false=>exact HM0.out wr (c0 h14)
    | true=>exact HM1.out wr (U 12) (c1 h14 hs).2.1
   rw[hM5]at hM8;obtain⟨m2,ma,mb,mc,md,hlg,hlb⟩:=hM8;have HC:Hid _:=hC;clear hC;refine⟨?_⟩;go_simp;refine hK _ _ rfl ?_;obtain⟨c0,cB,c1,cS⟩:=HC.out;refine⟨fun h=>c0 (by simpa using h),(fun h1 h2=>by have h9:=cB (by simpa using h1) (by simpa using h2);simpa [updO,Go.Proofs.YtbmkkhpoaicclabGreat.upd] using h9),(fun h1 h2=>by have h9:=c1 (by simpa using h1) (by simpa using h2);simpa [updO,Go.Proofs.YtbmkkhpoaicclabGreat.upd] using h9),fun h=>?_⟩
   have h9:=cS (by simpa using h)
   exact⟨by simp[h9.1],h9.2⟩
  refine StepsE.run rfl ?_ ?_
  ·
   intro L U wr hC hP hlk hcl haf A K hFm hK;simp[Aft,Region.binds]at haf;have g3:U 8=(.pointer (some ⟨g,2,none⟩)):=hP 3 8 (by simp[haf]) rfl
   have e8:A.tmps[8]?=some (.pointer (some ⟨g,2,none⟩)):=hFm.is 3 8 rfl g3;have hM8:M5 wr:=by
    obtain⟨c0,cB,c1,cS⟩:=hC;have hs:L 10=false:=by cases h:L 10 with|false=>rfl|true=>exact absurd (cS h).1 (by simp[hlk])
    cases h14:L 7 with
    | false=>exact HM0.out wr (c0 h14)
    | true=>exact HM1.out wr (U 12) (c1 h14 hs).2.1
   rw[hM5]at hM8;obtain⟨m2,ma,mb,mc,md,hlg,hlb⟩:=hM8;have HC:Hid _:=hC;clear hC;refine⟨?_⟩;go_simp;refine hK _ _ rfl ?_;obtain⟨c0,cB,c1,cS⟩:=HC.out;refine⟨fun h=>c0 (by simpa using h),(fun h1 h2=>by have h9:=cB (by simpa using h1) (by simpa using h2);simpa [updO,Go.Proofs.YtbmkkhpoaicclabGreat.upd] using h9),(fun h1 h2=>by have h9:=c1 (by simpa using h1) (by simpa using h2);simpa [updO,Go.Proofs.YtbmkkhpoaicclabGreat.upd] using h9),fun h=>?_⟩
   have h9:=cS (by simpa using h)
   exact⟨by simp[h9.1],h9.2⟩
  refine StepsE.run rfl ?_ ?_
  ·
   intro L U wr hC hP hlk hcl haf A K hFm hK;simp[Aft,Region.binds]at haf;have e3:A.tmps[3]?=some (.pointer (some ⟨w.heap.size,0,none⟩)):=(hFm.old 3 (by decide)).trans (by kernel_rfl)
   have hM8:M5 wr:=by
    obtain⟨c0,cB,c1,cS⟩:=hC;have hs:L 10=false:=by cases h:L 10 with|false=>rfl|true=>exact absurd (cS h).1 (by simp[hlk])
    cases h14:L 7 with
    | false=>exact HM0.out wr (c0 h14)
    | true=>exact HM1.out wr (U 12) (c1 h14 hs).2.1
   rw[hM5]at hM8;obtain⟨m2,ma,mb,mc,md,hlg,hlb⟩:=hM8;have HC:Hid _:=hC;clear hC;refine⟨?_⟩;go_simp;refine hK _ _ rfl ?_;obtain⟨c0,cB,c1,cS⟩:=HC.out;refine⟨fun h=>c0 (by simpa using h),(fun h1 h2=>by have h9:=cB (by simpa using h1) (by simpa using h2);simpa [updO,Go.Proofs.YtbmkkhpoaicclabGreat.upd] using h9),(fun h1 h2=>by have h9:=c1 (by simpa using h1) (by simpa using h2);simpa [updO,Go.Proofs.YtbmkkhpoaicclabGreat.upd] using h9),fun h=>?_⟩
   have h9:=cS (by simpa using h)
   exact⟨by simp[h9.1],h9.2⟩
  refine StepsE.run rfl ?_ ?_
  ·
   intro L U wr hC hP hlk hcl haf A K hFm hK;simp[Aft,Region.binds]at haf;have g5:U 10=(.agg #[vl,.int .i64 x.num,.int .i64 x.first,vk]):=hP 5 10 (by simp[haf]) rfl
   have e10:A.tmps[10]?=some (.agg #[vl,.int .i64 x.num,.int .i64 x.first,vk]):=hFm.is 5 10 rfl g5
   have hA9:L 7=false:=by cases h:L 7 with|false=>rfl|true=>have h9:=hcl 7 _ rfl h;simp[Aft,Region.binds,hlk]at h9
   refine⟨?_⟩;go_simp;refine hK _ _ trivial ⟨fun h=>?_,fun _ _=>?_,fun h1 h2=>?_,fun h=>?_⟩
   · exact ((hC.1 hA9).alloc (hC.1 hA9).size _)
   · exact⟨wr.heap.size,rfl,heap_alloc_new wr _⟩
   · simp[hA9]at h1
   ·
    have h9:=(hC.2.2.2 (by simpa using h)).1
    simp[hlk]at h9
  refine StepsE.run rfl ?_ ?_
  ·
   intro L U wr hC hP hlk hcl haf A K hFm hK;simp[Aft,Region.binds]at haf;have g4:U 9=(a kClz):=hP 4 9 (by simp[haf]) rfl
   have e9:A.tmps[9]?=some (a kClz):=hFm.is 4 9 rfl g4;have e11:A.tmps[11]?=some (U 11):=hFm.got 6 11 rfl;have l6:L 6=true:=by simp[haf]
   refine⟨?_⟩;refine wp_push1 (.tmp 9) (.tmp 11) 57 rfl 4 86 _ 64 uCls iCl (by decide) rfl (by decide) (a kClz) (d.nc) (clC d.C a) (by simp[Act.eval,e9]) (HOWN.out wr (hC.1 hlk)) (fun _ _=>rfl) [vl,.int .i64 x.num,.int .i64 x.first,vk] 86 (U 11) (hC.2.1 l6 hlk) (by simp[Act.eval,e11]) rfl (HONE.out) HNB.out (clC (upd d.C d.nc x) (updK (updK a (kLit d.nc) vl) (kLnk d.nc) vk)) HF1.out HF2.out ?_
   intro v9 w9 hol9 hap9 hne9;refine hK _ _ trivial ⟨fun h=>?_,fun _ h=>?_,fun _ _=>?_,fun h=>?_⟩
   · simp at h
   · simp at h
   · simp only[updO,Go.Proofs.YtbmkkhpoaicclabGreat.upd,beq_self_eq_true,cond_true];exact⟨hol9,hap9.ofBelow (hC.1 hlk),hne9⟩
   ·
    have h9:=(hC.2.2.2 (by simpa using h)).1
    simp[hlk]at h9
  refine StepsE.run rfl ?_ ?_
  ·
   intro L U wr hC hP hlk hcl haf A K hFm hK;simp[Aft,Region.binds]at haf;have g0:U 5=(.pointer (some ⟨g,0,none⟩)):=hP 0 5 (by simp[haf]) rfl
   have e5:A.tmps[5]?=some (.pointer (some ⟨g,0,none⟩)):=hFm.is 0 5 rfl g0;have hM8:M5 wr:=by
    obtain⟨c0,cB,c1,cS⟩:=hC;have hs:L 10=false:=by cases h:L 10 with|false=>rfl|true=>exact absurd (cS h).1 (by simp[hlk])
    cases h14:L 7 with
    | false=>exact HM0.out wr (c0 h14)
    | true=>exact HM1.out wr (U 12) (c1 h14 hs).2.1
   rw[hM5]at hM8;obtain⟨m2,ma,mb,mc,md,hlg,hlb⟩:=hM8;have HC:Hid _:=hC;clear hC;refine⟨?_⟩;go_simp;refine hK _ _ rfl ?_;obtain⟨c0,cB,c1,cS⟩:=HC.out;refine⟨fun h=>c0 (by simpa using h),(fun h1 h2=>by have h9:=cB (by simpa using h1) (by simpa using h2);simpa [updO,Go.Proofs.YtbmkkhpoaicclabGreat.upd] using h9),(fun h1 h2=>by have h9:=c1 (by simpa using h1) (by simpa using h2);simpa [updO,Go.Proofs.YtbmkkhpoaicclabGreat.upd] using h9),fun h=>?_⟩
   have h9:=cS (by simpa using h)
   exact⟨by simp[h9.1],h9.2⟩
  refine StepsE.run rfl ?_ ?_
  ·
   intro L U wr hC hP hlk hcl haf A K hFm hK;simp[Aft,Region.binds]at haf;have g8:U 13=(.pointer (some ⟨g,0,none⟩)):=hP 8 13 (by simp[haf]) rfl
   have e13:A.tmps[13]?=some (.pointer (some ⟨g,0,none⟩)):=hFm.is 8 13 rfl g8;have hM8:M5 wr:=by
    obtain⟨c0,cB,c1,cS⟩:=hC;have hs:L 10=false:=by cases h:L 10 with|false=>rfl|true=>exact absurd (cS h).1 (by simp[hlk])
    cases h14:L 7 with
    | false=>exact HM0.out wr (c0 h14)
    | true=>exact HM1.out wr (U 12) (c1 h14 hs).2.1
   rw[hM5]at hM8;obtain⟨m2,ma,mb,mc,md,hlg,hlb⟩:=hM8;have HC:Hid _:=hC;clear hC;refine⟨?_⟩;go_simp;refine hK _ _ rfl ?_;obtain⟨c0,cB,c1,cS⟩:=HC.out;refine⟨fun h=>c0 (by simpa using h),(fun h1 h2=>by have h9:=cB (by simpa using h1) (by simpa using h2);simpa [updO,Go.Proofs.YtbmkkhpoaicclabGreat.upd] using h9),(fun h1 h2=>by have h9:=c1 (by simpa using h1) (by simpa using h2);simpa [updO,Go.Proofs.YtbmkkhpoaicclabGreat.upd] using h9),fun h=>?_⟩
   have h9:=cS (by simpa using h)
   exact⟨by simp[h9.1],h9.2⟩
  refine StepsE.run rfl ?_ StepsE.nil
  ·
   intro L U wr hC hP hlk hcl haf A K hFm hK;simp[Aft,Region.binds]at haf;have g9:U 14=(.pointer (some ⟨g,2,none⟩)):=hP 9 14 (by simp[haf]) rfl
   have e14:A.tmps[14]?=some (.pointer (some ⟨g,2,none⟩)):=hFm.is 9 14 rfl g9;have e12:A.tmps[12]?=some (U 12):=hFm.got 7 12 rfl;have l9:L 9=true:=by simp[haf]
   have l7:L 7=true:=by simp[haf]
   have a9:=hcl 9 _ rfl l9;simp[Aft,Region.binds]at a9;have l8:L 8=true:=by simp[a9]
   have a7:=hcl 7 _ rfl l7;simp[Aft,Region.binds]at a7;have l4:L 4=true:=by simp[a7]
   have l6:L 6=true:=by simp[a7]
   have a8:=hcl 8 _ rfl l8;simp[Aft,Region.binds]at a8;have l0:L 0=true:=by simp[a8]
   have a4:=hcl 4 _ rfl l4;simp[Aft,Region.binds]at a4;have l3:L 3=true:=by simp[a4]
   have a6:=hcl 6 _ rfl l6;simp[Aft,Region.binds]at a6;have l5:L 5=true:=by simp[a6]
   have a3:=hcl 3 _ rfl l3;simp[Aft,Region.binds]at a3;have l2:L 2=true:=by simp[a3]
   have a2:=hcl 2 _ rfl l2;simp[Aft,Region.binds]at a2;have l1:L 1=true:=by simp[a2]
   refine⟨?_⟩;obtain⟨hol9,hap9,hne9⟩:=hC.2.2.1 l7 hlk;have HKK:Hid _:=HSET.out wr (U 12) hol9 hap9 hne9;obtain⟨k4,k5⟩:=HFZ.out wr (U 12) hap9;obtain⟨ao9,cc9,hv9,-,-,-,-⟩:=hol9.shape;obtain⟨nl,hnl⟩:∃nl,nl=d.nc+1:=⟨_,rfl⟩;rw[← hnl]at hv9;clear hnl;have e12:A.tmps[12]?=some (.slice ao9 nl cc9):=hFm.is 7 12 rfl hv9;rw[hv9]at HKK;clear hol9 hap9 hne9 hC;go_simp;refine hK (.tuple #[]) _ trivial ⟨fun h=>?_,fun h1 h2=>?_,fun h1 h2=>?_,fun _=>⟨?_,HKK.out⟩⟩
   · simp[l7]at h
   · simp[l7]at h2
   · simp at h2
   · simp[l0,l1,l2,l3,l4,l5,l6,l7,l8,l9]
 intro L U5 V5 hall hC hP;have hE:=(hC.2.2.2 (hall 10 (by decide))).2
 rw[hE5]at hE;obtain⟨vc,s2,mv2,fo2⟩:=hE;have c2:V5.cell? ⟨g,2,none⟩=some (aMore a d.nc vl vk vc kClz):=s2.cell 2;rw[aMore_clz]at c2;have ho:OL 4 86 V5 (aMore a d.nc vl vk vc kClz) (d.nc+1) (clC (d.more x).C (aMore a d.nc vl vk vc)):=s2.ol (k:=kClz) ⟨by decide,rfl⟩
 rw[aMore_clz]at ho;obtain⟨qc,cc,ec,-,-,-,-⟩:=ho.shape;rw[ec]at c2;have HE:Hid (KeepEnd g d a x vl vk w V5):=⟨vc,s2,mv2,fo2⟩;have hlV:=s2.lt;simp only[setM_some,setM_none,setM_nil];clear hC hP hall s2 mv2 fo2 ho ec HSET HFZ HOWN HM0 HM1 hE5 hM5 HF1 HF2 HONE HNB HX;go_wp2;go_ret
 exact⟨rfl,by rw[← HVV.out.1,← HVV.out.2];exact HE.out⟩
end Sat
end Go.Proofs.YtbmkkhpoaicclabGreat
