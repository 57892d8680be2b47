/- Plain facts on sums and rows: values go through sums, tight rows, texts that are read again; no statement of the seat is proved here. -/
import Derived.Test.YteefniagebcagaaGreatDoorLinHoJValues
import Derived.Test.YteefniagebcagaaGreatDoorLinPlJValues
namespace Go.Proofs.YteefniagebcagaaGreatDoor
set_option linter.unusedVariables false

theorem evl_nil (zs : List Int) : evl [] zs = 0 := rfl
theorem evl_add : ∀ (a b : List (Nat × Int)) (zs : List Int), evl (addP a b) zs = evl a zs + evl b zs
  | [], b, zs => by rw [addP, evl_nil, Int.zero_add]
  | p :: a, [], zs => by rw [addP, evl_nil, Int.add_zero]
  | p :: a, q :: b, zs => by
    rw [addP]
    split
    · rw [evl_cons, evl_cons, evl_add a (q :: b) zs, Int.add_assoc]
    · split
      · rw [evl_cons q, evl_add (p :: a) b zs, evl_cons q b]; omega
      · rename_i h1 h2
        have e : p.1 = q.1 := by omega
        have hm : p.2 * zs.getD p.1 0 + q.2 * zs.getD q.1 0 = (p.2 + q.2) * zs.getD p.1 0 := by rw [e, Int.add_mul]
        split
        · rename_i h0
          rw [evl_add a b zs, evl_cons, evl_cons]
          rw [h0, Int.zero_mul] at hm
          omega
        · rw [evl_cons, evl_add a b zs, evl_cons p, evl_cons q]
          simp only []
          omega
termination_by a b => a.length + b.length

theorem cm_great (d : Int) : ∀ (l : List (Nat × Int)) (g : Int), d ∣ g → (∀ p ∈ l, d ∣ p.2) → d ∣ l.foldl (fun g p => ((Int.gcd g p.2 : Nat) : Int)) g
  | [], g, hg, _ => hg
  | p :: l, g, hg, h => cm_great d l _ (Int.dvd_coe_gcd hg (h p (List.mem_cons_self ..))) (fun q hq => h q (List.mem_cons_of_mem _ hq))
theorem cm_ne {a : List (Nat × Int)} (hf : Fine a) (hn : a ≠ []) : cm a ≠ 0 := by
  intro h0
  cases a with
  | nil => exact hn rfl
  | cons p r =>
    have h1 := cm_dvd (p :: r) p (List.mem_cons_self ..)
    rw [h0] at h1
    exact (hf.2 p (List.mem_cons_self ..)).1 (Int.zero_dvd.1 h1)
theorem cm_tg {a : List (Nat × Int)} (hf : Fine a) (hn : a ≠ []) : cm (tgP a) = 1 := by
  have h0 := cm_ne hf hn
  have h1 := cm_nonneg a
  by_cases hg : (cm a).natAbs < 2
  · rw [show tgP a = a from if_pos hg]; omega
  · rw [show tgP a = divP a (cm a) from if_neg hg]
    have hd : cm (divP a (cm a)) * cm a ∣ cm a := by
      refine cm_great _ a 0 (Int.dvd_zero _) (fun p hp => ?_)
      have k1 := cm_dvd (divP a (cm a)) (p.1, p.2.fdiv (cm a)) (List.mem_map.2 ⟨p, hp, rfl⟩)
      have k2 := fdiv_dvd h0 (cm_dvd a p hp)
      have k3 := Int.mul_dvd_mul k1 (Int.dvd_refl (cm a))
      simp only [] at k3
      rw [k2] at k3
      exact k3
    obtain ⟨k, hk⟩ := hd
    have e : cm a * (cm (divP a (cm a)) * k) = cm a * 1 := by
      rw [Int.mul_one, ← Int.mul_assoc, Int.mul_comm (cm a) (cm (divP a (cm a)))]; exact hk.symm
    exact Int.eq_one_of_mul_eq_one_right (cm_nonneg _) (Int.eq_of_mul_eq_mul_left h0 e)
theorem cm_tg_lt {a : List (Nat × Int)} (hf : Fine a) : (cm (tgP a)).natAbs < 2 := by
  by_cases hn : a = []
  · subst hn; decide
  · rw [cm_tg hf hn]; decide
theorem tg_tg {a : List (Nat × Int)} (hf : Fine a) : tgP (tgP a) = tgP a := if_pos (cm_tg_lt hf)
theorem tgM_tg {a : List (Nat × Int)} (hf : Fine a) (m : Int) : tgM (tgP a) m = m := if_pos (cm_tg_lt hf)
theorem tg_nil : tgP [] = [] := rfl

theorem text_good {S : ByteArray} {z : Int} (h : TextOf S z) : Good (bs S) ∧ pval (bs S) = z := by
  obtain ⟨neg, ds, hn, hd, hz', rfl, hb⟩ := h
  rw [hb]
  by_cases h0 : ds.length = 0
  · obtain rfl := List.eq_nil_of_length_eq_zero h0
    obtain rfl := hz' rfl
    refine ⟨?_, by decide⟩
    show GoodB false [48]
    exact ⟨⟨by decide, by decide, by decide⟩, fun h => by cases h.1⟩
  · have hlast := hn.last (by omega)
    have hl9 := hd.getD (by decide) (ds.length - 1)
    have hbl : 0 < (byt ds).reverse.length := by rw [List.length_reverse, byt_length]; omega
    have hall : ∀ i, i < (byt ds).reverse.length → 48 ≤ (byt ds).reverse.getD i 0 ∧ (byt ds).reverse.getD i 0 ≤ 57 := by
      intro i hi
      have hi' := hi
      rw [List.length_reverse, byt_length] at hi'
      have e : (byt ds).reverse.getD i 0 = 48 + ds.getD (ds.length - 1 - i) 0 := by
        rw [← byt_getD ds _ (by omega), List.getD_eq_getElem?_getD, List.getD_eq_getElem?_getD, List.getElem?_reverse (by rw [byt_length]; omega), byt_length]
      have := hd.getD (by decide) (ds.length - 1 - i)
      omega
    have hfirst : (byt ds).reverse.getD 0 0 = 48 + ds.getD (ds.length - 1) 0 := by
      rw [← byt_getD ds _ (by omega), List.getD_eq_getElem?_getD, List.getD_eq_getElem?_getD, List.getElem?_reverse (by rw [byt_length]; omega), byt_length]
      rfl
    have hpl : Plain (byt ds).reverse := ⟨hbl, fun k => by omega, hall⟩
    have hng : GoodB neg (byt ds).reverse := by
      refine ⟨hpl, ?_⟩
      intro k
      have h48 : (byt ds).reverse.getD 0 0 = 48 := by rw [k.2]; rfl
      omega
    have hdv : dec (byt ds).reverse = val 10 ds := by
      rw [dec_val]
      unfold digs byt
      rw [List.reverse_reverse, List.map_map]
      have e : ((fun c => c - 48) ∘ fun d => 48 + d) = (id : Nat → Nat) := by funext d; simp
      rw [e, List.map_id]
    have hshow : showB neg ds = (if neg = true then [45] else []) ++ (byt ds).reverse := if_neg h0
    rw [hshow]
    cases neg with
    | true =>
      have e1 : pneg ([45] ++ (byt ds).reverse) = true := rfl
      have e2 : pbody ([45] ++ (byt ds).reverse) = (byt ds).reverse := by unfold pbody; rw [if_pos e1]; rfl
      refine ⟨?_, ?_⟩
      · show GoodB (pneg _) (pbody _)
        simp only [if_true, e1, e2]; exact hng
      · show pval _ = _
        unfold pval
        simp only [if_true, e1, e2, hdv]
    | false =>
      have e1 : pneg (byt ds).reverse = false := by unfold pneg; rw [hfirst, beq_eq_false_iff_ne]; omega
      have e2 : pbody (byt ds).reverse = (byt ds).reverse := by unfold pbody; rw [e1]; rfl
      refine ⟨?_, ?_⟩
      · show GoodB (pneg _) (pbody _)
        simp only [Bool.false_eq_true, if_false, List.nil_append, e1, e2]; exact hng
      · unfold pval
        simp only [Bool.false_eq_true, if_false, List.nil_append, e1, e2, hdv]
theorem p_nT {z : Int} (h : z.natAbs < lim) : pcd (nT z) = 0 ∧ pzd (nT z) = z := by
  obtain ⟨hg, hv⟩ := text_good (nT_text z)
  have hq := (goodQ_iff _).2 hg
  unfold pcd pzd
  rw [if_pos hq, if_pos hq, hv]
  exact ⟨if_pos h, hz_of h⟩
theorem insL_end {α : Type} (x : Nat × α) : ∀ (l : List (Nat × α)), (∀ p ∈ l, p.1 < x.1) → insL x l = l ++ [x]
  | [], _ => rfl
  | y :: r, h => by
    rw [insL, if_neg (by have := h y (List.mem_cons_self ..); omega), insL_end x r (fun p hp => h p (List.mem_cons_of_mem _ hp))]; rfl
theorem setL_end (l : List (Nat × Int)) (v : Nat) (z : Int) (h : ∀ p ∈ l, p.1 < v) : setL l v z = l ++ [(v, z)] := by
  unfold setL
  rw [List.filter_eq_self.2 (fun p hp => decide_eq_true (by have := h p hp; omega)), insL_end _ _ h]
theorem gth_plain : ∀ (l cs : List (Nat × Int)), Fine l → (∀ p ∈ cs, ∀ q ∈ l, p.1 < q.1) → gth (plainM l) cs = (0, cs ++ l)
  | [], cs, _, _ => by rw [List.append_nil]; rfl
  | p :: l, cs, hf, h => by
    have hp := hf.2 p (List.mem_cons_self ..)
    obtain ⟨e1, e2⟩ := p_nT hp.2.1
    have hc : coef cs p.1 = 0 := coef_out (fun q hq => by have := h q hq p (List.mem_cons_self ..); omega)
    show gth (((p.1 : Int), nT p.2) :: plainM l) cs = _
    rw [gth]
    simp only []
    rw [if_neg (by omega), if_neg (by rw [e1]; simp), show ((p.1 : Int)).toNat = p.1 from rfl, hc, e2, Int.zero_add, if_neg (by simp [hp.2.1]),
      setL_end _ _ _ (fun q hq => h q hq p (List.mem_cons_self ..)), gth_plain l _ hf.tail, List.append_assoc]
    · rfl
    · intro q hq x hx
      rcases List.mem_append.1 hq with hq | hq
      · exact h q hq x (List.mem_cons_of_mem _ hx)
      · rw [List.mem_singleton.1 hq]; exact hf.1.head x hx
theorem nz_fine_eq {l : List (Nat × Int)} (h : Fine l) : nz l = l := List.filter_eq_self.2 (fun p hp => decide_eq_true (h.2 p hp).1)
theorem rd_back {l : List (Nat × Int)} {m : Int} (h : Fine l) (hm : m.natAbs < lim) : rdE (plainM l) (nT m) = 0 ∧ rdP (plainM l) (nT m) = l ∧ rdM (plainM l) (nT m) = m := by
  obtain ⟨e1, e2⟩ := p_nT hm
  have hg := gth_plain l [] h (fun p hp => by cases hp)
  have hl : ¬ 4096 < (plainM l).length := by unfold plainM; rw [List.length_map]; have := h.len; omega
  have hE : rdE (plainM l) (nT m) = 0 := by unfold rdE; rw [if_neg hl, e1, if_neg (by simp), hg]
  refine ⟨hE, ?_, ?_⟩
  · unfold rdP; rw [if_pos hE, hg]; exact nz_fine_eq h
  · unfold rdM; rw [if_pos hE]; exact e2
theorem plainM_size {l : List (Nat × Int)} (h : Fine l) : ∀ p ∈ plainM l, p.2.size ≤ 10000 := by
  intro p hp
  unfold plainM at hp
  obtain ⟨q, hq, rfl⟩ := List.mem_map.1 hp
  have := nT_size (h.2 q hq).2.1
  simp only []
  omega
theorem mulP_twice (l : List (Nat × Int)) : mulP (mulP l (-1)) (-1) = l := by
  unfold mulP
  rw [List.map_map]
  refine (List.map_congr_left ?_).trans (List.map_id l)
  intro p _
  simp

theorem neg_fits (a : List (Nat × Int)) : addFits a (mulP a (-1)) := by
  intro v
  rw [mulP_coef]
  have := word_lim
  have e : coef a v + coef a v * -1 = 0 := by omega
  rw [e]; simp; omega
theorem neg_gone {a : List (Nat × Int)} (h : Fine a) : addP a (mulP a (-1)) = [] := by
  refine fine_eq (addP_fine h (negP_fine h) (neg_fits a)) Fine.nil (fun v => ?_)
  rw [addP_coef _ _ h.1 (mulP_rise h.1 _), mulP_coef]
  show _ = 0
  omega
theorem add_sub {a b : List (Nat × Int)} (ha : Fine a) (hb : Fine b) (h : addFits a b) (k : addFits (addP a b) (mulP b (-1))) : addP (addP a b) (mulP b (-1)) = a := by
  have h1 := addP_fine ha hb h
  refine fine_eq (addP_fine h1 (negP_fine hb) k) ha (fun v => ?_)
  rw [addP_coef _ _ h1.1 (mulP_rise hb.1 _), mulP_coef, addP_coef _ _ ha.1 hb.1]
  omega
theorem remP_at {a : List (Nat × Int)} {v : Int} (h : Rise a) (ht : there a v) : ∃ l1 p l2, a = l1 ++ p :: l2 ∧ (p.1 : Int) = v ∧ remP a v = l1 ++ l2 ∧ coefZ a v = p.2 := by
  obtain ⟨p, hp, hv⟩ := ht
  obtain ⟨h1, h2, h3⟩ := ahead_there h hp hv
  refine ⟨a.take (ahead a v), p, a.drop (ahead a v + 1), ?_, hv, if_pos (thereB_iff.2 ⟨p, hp, hv⟩), h3⟩
  rw [List.getD_eq_getElem?_getD, List.getElem?_eq_getElem h1] at h2
  simp only [Option.getD_some] at h2
  rw [← h2, ← List.drop_eq_getElem_cons h1, List.take_append_drop]
theorem coef_app (l1 l2 : List (Nat × Int)) (v : Nat) (h : ∀ p ∈ l1, p.1 ≠ v) : coef (l1 ++ l2) v = coef l2 v := by
  induction l1 with
  | nil => rfl
  | cons p r ih => rw [List.cons_append, coef, if_neg (h p (List.mem_cons_self ..)), ih (fun q hq => h q (List.mem_cons_of_mem _ hq))]
theorem rem_out {l1 l2 : List (Nat × Int)} {p : Nat × Int} (h : Rise (l1 ++ p :: l2)) : (∀ q ∈ l1, q.1 ≠ p.1) ∧ ∀ q ∈ l2, q.1 ≠ p.1 := by
  unfold Rise at h
  rw [List.pairwise_append] at h
  obtain ⟨_, h2, h3⟩ := h
  refine ⟨fun q hq => ?_, fun q hq => ?_⟩
  · have := h3 q hq p (List.mem_cons_self ..); omega
  · have := (List.pairwise_cons.1 h2).1 q hq; omega
theorem put_gone {a b : List (Nat × Int)} {v : Int} (ha : Fine a) (hb : Fine b) (h0 : coefZ b v = 0) : coefZ (putP a v b) v = 0 := by
  by_cases ht : there a v
  · obtain ⟨l1, p, l2, e, hv, hr, hc⟩ := remP_at ha.1 ht
    have hv0 : 0 ≤ v := by omega
    have hvn : v.toNat = p.1 := by omega
    unfold putP
    rw [if_pos (thereB_iff.2 ht)]
    unfold coefZ at h0 ⊢
    rw [if_pos hv0] at h0 ⊢
    have hr1 : Rise (remP a v) := by rw [hr]; rw [e] at ha; exact List.Pairwise.sublist (List.sublist_append_of_sublist_right (l₁ := l1) (List.sublist_cons_self p l2) |> fun _ => List.Sublist.append_left (List.sublist_cons_self p l2) l1) ha.1
    rw [addP_coef _ _ hr1 (mulP_rise hb.1 _), mulP_coef, h0, Int.zero_mul, Int.add_zero, hr]
    rw [e] at ha
    obtain ⟨k1, k2⟩ := rem_out ha.1
    exact coef_out (fun q hq => by
      rcases List.mem_append.1 hq with hq | hq
      · have := k1 q hq; omega
      · have := k2 q hq; omega)
  · unfold putP
    rw [if_neg (fun k => ht (thereB_iff.1 k))]
    exact coefZ_not ht
theorem evl_app (l1 l2 : List (Nat × Int)) (zs : List Int) : evl (l1 ++ l2) zs = evl l1 zs + evl l2 zs := by
  induction l1 with
  | nil => rw [evl_nil, List.nil_append, Int.zero_add]
  | cons p r ih => rw [List.cons_append, evl_cons, evl_cons, ih, Int.add_assoc]
theorem evl_set_out (l : List (Nat × Int)) (zs : List Int) (v : Nat) (y : Int) (h : ∀ q ∈ l, q.1 ≠ v) : evl l (zs.set v y) = evl l zs := by
  induction l with
  | nil => rfl
  | cons p r ih =>
    rw [evl_cons, evl_cons, ih (fun q hq => h q (List.mem_cons_of_mem _ hq)), List.getD_eq_getElem?_getD, List.getD_eq_getElem?_getD, List.getElem?_set_ne (fun e => h p (List.mem_cons_self ..) e.symm)]
/-- A term in a variable's place has the value as if the variable had the term's. -/
theorem evl_put {a b : List (Nat × Int)} {r s : Int} {v : Nat} {zs : List Int} (ha : Fine a) (hv : v < zs.length) : putR a r v s + evl (putP a v b) zs = r + evl a (zs.set v (s + evl b zs)) := by
  by_cases ht : there a v
  · obtain ⟨l1, p, l2, e, hp, hr, hc⟩ := remP_at ha.1 ht
    have hpv : p.1 = v := by omega
    unfold putP putR
    rw [if_pos (thereB_iff.2 ht), if_pos (thereB_iff.2 ht), evl_add, evl_mul, hr, hc, evl_app]
    rw [e] at ha ⊢
    obtain ⟨k1, k2⟩ := rem_out ha.1
    rw [evl_app, evl_cons, evl_set_out l1 zs v _ (by rw [← hpv]; exact k1), evl_set_out l2 zs v _ (by rw [← hpv]; exact k2), hpv, List.getD_eq_getElem?_getD, List.getElem?_set_self (by exact hv)]
    simp only [Option.getD_some]
    rw [Int.mul_add, Int.mul_comm p.2 s, Int.mul_comm p.2 (evl b zs)]
    omega
  · unfold putP putR
    rw [if_neg (fun k => ht (thereB_iff.1 k)), if_neg (fun k => ht (thereB_iff.1 k)), evl_set_out a zs v _ (fun q hq k => ht ⟨q, hq, by omega⟩)]
end Go.Proofs.YteefniagebcagaaGreatDoor
