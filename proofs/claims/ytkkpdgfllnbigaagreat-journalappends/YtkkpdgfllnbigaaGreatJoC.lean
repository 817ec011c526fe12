/-
  journal: going over a map by a closure of the package's own.
-/
import Derived.Test.YtkkpdgfllnbigaaGreatJoS
namespace Go.Proofs.YtkkpdgfllnbigaaGreat.Jo
open Go.RowKit Go.Shelf
set_option linter.unusedSimpArgs false
attribute [local go_sem] Oper.semAt_some

set_option maxHeartbeats 8000000 in
set_option maxRecDepth 100000 in
theorem iterC198 (t : Pm.T) (L Sb Lb Tb : Nat) (sT : St) (w : World) (ht : Pm.In w t) (hs : Pm.Srt t.list) (hk : ∀ x ∈ t.list, x.1.size ≤ 9223372036854775807) (hL : w.cell? ⟨L, 0, none⟩ = some t.ptr) (hSb : w.heap[Sb]? = some (.cells #[.int .i64 sT.1, .int .i64 sT.2.1, .string sT.2.2.1, .int .i64 sT.2.2.2.1, .int .i64 sT.2.2.2.2] 43 (0, 0))) :
    ∀ (D : Nat → Prop) (J : Nat → Nat → World → Prop) (W : World), Pm.Same (KS t L Sb) w W → w.heap.size ≤ W.heap.size → (∀ j, D j → ¬ KS t L Sb j) → (∀ j, D j → j < W.heap.size) →
    (∀ B c W1 W2, W.heap.size ≤ B → J B c W1 → Only (fun j => W.heap.size ≤ j ∧ j < B) W1 W2 → J B c W2) →
    (∀ B c x W1, W.heap.size ≤ B → (sinL t.list sT)[c]? = some x → J B c W1 → Pm.Same (KS t L Sb) w W1 → B ≤ W1.heap.size → Calls Tryz.prog 198 #[svT x.1, .string x.2, .pointer (some ⟨Lb, 0, none⟩), .pointer (some ⟨Tb, 0, none⟩)] W1 (fun e W5 => e = .returned (.bool true) ∧ Only (fun j => D j ∨ B ≤ j) W1 W5 ∧ J B (c + 1) W5)) →
    (∀ B W1, Below W.heap.size W W1 → W1.heap.size ≤ B → J B 0 W1) →
    Calls Tryz.prog 162 #[.func (.func 198) #[] #[.pointer (some ⟨Lb, 0, none⟩), .pointer (some ⟨Tb, 0, none⟩)], .pointer (some ⟨Sb, 0, none⟩), .pointer (some ⟨L, 0, none⟩)] W fun e W' => (∃ v, e = .returned v) ∧ ∃ B, W.heap.size ≤ B ∧ J B (sinL t.list sT).length W' := by
  intro D J W hS hsz hDK hDlt hJB hY hJ0
  have hKw : ∀ j, KS t L Sb j → j < w.heap.size := fun j hj => by
    rcases hj with rfl | rfl | hj
    · exact World.block_lt_of_cell? w _ hL
    · exact (gI hSb).1
    · exact ht.blk_lt hj
  have hcL : W.cell? ⟨L, 0, none⟩ = some t.ptr := hS.cell (.inl rfl) hL
  have iW : Pm.In W t := Pm.In.same ht (fun j hj => hS j (.inr (.inr hj)))
  obtain ⟨W1, hW1⟩ : ∃ W1, W1 = W.alloc (.cells #[.func (.func 198) #[] #[.pointer (some ⟨Lb, 0, none⟩), .pointer (some ⟨Tb, 0, none⟩)]] 79) := ⟨_, rfl⟩
  have y1 := heap_alloc_new W (.cells #[.func (.func 198) #[] #[.pointer (some ⟨Lb, 0, none⟩), .pointer (some ⟨Tb, 0, none⟩)]] 79)
  rw [← hW1] at y1
  have b1 : Below W.heap.size W W1 := by rw [hW1]; exact (Below.refl _ W).alloc (Nat.le_refl _) _
  have hmay := fun W2 (b2 : Below W1.heap.size W1 W2) => jrMay_any t W2 (Pm.In.below b2 (Pm.In.below b1 iW)) hs hk
  have hSb1 : W1.heap[Sb]? = some (.cells #[.int .i64 sT.1, .int .i64 sT.2.1, .string sT.2.2.1, .int .i64 sT.2.2.2.1, .int .i64 sT.2.2.2.2] 43 (0, 0)) := (b1.block _ (Nat.lt_of_lt_of_le (gI hSb).1 hsz)).trans ((hS Sb (.inr (.inl rfl))).trans hSb)
  have hbeh := fun W => behind163 sT W
  have hcL1 : W1.cell? ⟨L, 0, none⟩ = some t.ptr := cell_stays hcL b1
  obtain ⟨a, ha⟩ := t.ptr_shape
  obtain ⟨Yb, hYb⟩ : ∃ Yb, Yb = W.heap.size := ⟨_, rfl⟩
  obtain ⟨g, r, lb, n, ix⟩ := sT
  dsimp only at hSb1
  obtain ⟨FK, hFK⟩ : ∃ q, q = frK (g, r, lb, n, ix) := ⟨_, rfl⟩
  obtain ⟨FM, hFM⟩ : ∃ q, q = frM (g, r, lb, n, ix) := ⟨_, rfl⟩
  dsimp only [svT, sv] at hbeh
  rw [← hFK, ← hFM] at hbeh
  have x0 : W1.cell? ⟨Sb, 0, none⟩ = some (.int .i64 g) := (cell_of_row _ _ 0 _ 43 (0, 0) hSb1).trans rfl
  have x1 : W1.cell? ⟨Sb, 1, none⟩ = some (.int .i64 r) := (cell_of_row _ _ 1 _ 43 (0, 0) hSb1).trans rfl
  have x2 : W1.cell? ⟨Sb, 2, none⟩ = some (.string lb) := (cell_of_row _ _ 2 _ 43 (0, 0) hSb1).trans rfl
  have x3 : W1.cell? ⟨Sb, 3, none⟩ = some (.int .i64 n) := (cell_of_row _ _ 3 _ 43 (0, 0) hSb1).trans rfl
  have x4 : W1.cell? ⟨Sb, 4, none⟩ = some (.int .i64 ix) := (cell_of_row _ _ 4 _ 43 (0, 0) hSb1).trans rfl
  by_cases hf : FM = true
  case neg =>
    have hf' : FM = false := by simpa using hf
    subst hf'
    have he : sinL t.list (g, r, lb, n, ix) = [] := by unfold sinL; rw [← hFM]; rfl
    rw [he] at hY ⊢
    have HJ := hide (And.intro b1 hJ0)
    clear hS hsz hDK hDlt hJB hY hJ0 hKw hcL iW y1 b1 ht hs hk hL ha hSb hSb1 hmay hcL1 he hf hFK hFM hYb
    refine calls_marks Tryz.func162 rfl ?_
    simp only [Tryz.ntmps162, List.size_toArray, List.length_cons, List.length_nil, Nat.reduceAdd, Nat.reduceSub, Array.replicate_succ, Array.replicate_zero, List.push_toArray, List.append_toArray, List.nil_append, List.cons_append]
    go_upto_region 1 with fail
    rw [← hW1]
    clear hW1
    go_wp2_with (go_at_call 163; refine (hbeh _).mono ?_; rintro e w2 ⟨rfl, b2⟩; have H2 := hide b2; clear b2; dsimp only)
    obtain ⟨b1, hJ0⟩ := HJ.out
    have b2 := b1.trans (H2.out.mono b1.size)
    refine ret_lv ?_
    dsimp only
    refine leave_unit rfl ?_
    exact ⟨⟨_, rfl⟩, w2.heap.size, b2.size, hJ0 _ w2 b2 (Nat.le_refl _)⟩
  subst hf
  obtain ⟨XL, hXL⟩ : ∃ q, q = t.list.drop (Pm.pos FK t.list) := ⟨_, rfl⟩
  have hsub : ∀ x ∈ XL, x ∈ t.list := fun x hx => by rw [hXL] at hx; exact List.mem_of_mem_drop hx
  by_cases hm : mayL t.list = true
  · simp only [hm] at hmay
    have he : sinL t.list (g, r, lb, n, ix) = elsM XL := by unfold sinL; rw [← hFM, hm, ← hFK, hXL]; rfl
    rw [he] at hY ⊢
    have hAll := Pm.mFrom_any t FK
    have HT := hide (And.intro hm (And.intro hk (And.intro hs (And.intro hXL hsub))))
    unfold Pm.mv at hmay hAll
    simp only [ha] at hmay
    rw [ha] at hcL1
    have hmayW := hmay
    clear hmay
    have hcLd := hcL1
    have HA := hide ha
    have HJ := hide (And.intro hS (And.intro hsz (And.intro hDK (And.intro hDlt (And.intro hJB ((And.intro hY (And.intro hJ0 (And.intro hKw (And.intro iW (And.intro y1 (And.intro b1 ht))))))))))))
    simp only [ha] at hAll
    clear hS hsz hDK hDlt hJB hY hJ0 hKw hcL iW y1 ht hs hk hL ha hm hSb hSb1 he hFK hFM hXL hsub
    have HYb := hide hYb
    refine calls_marks Tryz.func162 rfl ?_
    simp only [Tryz.ntmps162, List.size_toArray, List.length_cons, List.length_nil, Nat.reduceAdd, Nat.reduceSub, Array.replicate_succ, Array.replicate_zero, List.push_toArray, List.append_toArray, List.nil_append, List.cons_append]
    go_upto_region 1 with fail
    rw [← hW1]
    clear hW1
    rw [← hYb]
    clear hYb
    have HB1 := hide b1
    clear b1
    go_wp2_with (first
      | (go_at_call 163; refine (hbeh _).mono ?_; rintro e wq ⟨rfl, bq⟩; have HQ := hide bq; have cq := cell_stays hcL1 bq; have hmay2 := hmayW wq bq; clear bq; dsimp only)
      | (go_at_call 100; refine hmay2.mono ?_; rintro e w2 ⟨rfl, b2⟩; have H2 := hide (HQ.out.trans (b2.mono HQ.out.size)); have c2 := cell_stays cq b2; clear b2; dsimp only)
      | (go_at_call 164; refine (hAll _).mono ?_; rintro e wA ⟨rfl, hwA⟩; have H3 := hide hwA; clear hwA; dsimp only))
    obtain ⟨hS, hsz, hDK, hDlt, hJB, hY, hJ0, hKw, iW, y1, b1, ht⟩ := HJ.out
    obtain ⟨hm, hk, hs, hXL, hsub⟩ := HT.out
    have ha := HA.out
    have hYb := HYb.out
    have sA : wA.heap.size = w2.heap.size + 2 := by rw [H3.out]; simp
    have bA : Below w2.heap.size w2 wA := by rw [H3.out]; exact ((Below.refl _ w2).alloc (Nat.le_refl _) _).alloc (by simp) _
    have cLA : wA.cell? ⟨w2.heap.size + 1, 0, none⟩ = some (.string FK) := by rw [H3.out]; exact (cell_of_row _ _ 0 _ 9 (0, 0) (new2 w2 _ _).2).trans rfl
    have cMA : wA.cell? ⟨w2.heap.size, 0, none⟩ = some t.ptr := by rw [H3.out, ha]; exact (cell_of_row _ _ 0 _ 27 (0, 0) (new2 w2 _ _).1).trans rfl
    have b2 : Below W.heap.size W w2 := b1.trans (H2.out.mono b1.size)
    have bWA : Below W.heap.size W wA := b2.trans (bA.mono b2.size)
    have iA : Pm.In wA t := Pm.In.below bWA iW
    have hit := Pm.iter_from t FK (w2.heap.size + 1) w2.heap.size wA iA cLA cMA
    rw [Pm.from_is _ hs, ← hXL] at hit
    have hW2 := b2.size
    have hKlt : ∀ j, Pm.KF t (w2.heap.size + 1) w2.heap.size j → j < wA.heap.size := fun j hj => by
      rcases hj with rfl | rfl | hj
      · omega
      · omega
      · exact iA.blk_lt hj
    have hDne : ∀ j, D j → ¬ Pm.KF t (w2.heap.size + 1) w2.heap.size j := fun j d hj => by
      have := hDlt j d
      rcases hj with rfl | rfl | hj
      · omega
      · omega
      · exact hDK j d (.inr (.inr hj))
    have yA : wA.heap[Yb]? = some (.cells #[.func (.func 198) #[] #[.pointer (some ⟨Lb, 0, none⟩), .pointer (some ⟨Tb, 0, none⟩)]] 79 (0, 0)) := by
      rw [← hYb] at y1
      have hlt := (gI y1).1
      have y2 := (H2.out.block _ hlt).trans y1
      exact (bA.block _ (Nat.lt_of_lt_of_le hlt H2.out.size)).trans y2
    have sAA : Pm.Same (KS t L Sb) w wA := hS.below hKw hsz bWA
    have hYlt : Yb < w2.heap.size := by
      have h1 := (gI y1).1
      have := H2.out.size
      omega
    have HZ : Hid (wA.heap.size = w2.heap.size + 2 ∧ W.heap.size ≤ w2.heap.size ∧ Yb = W.heap.size ∧ Yb < w2.heap.size ∧ w.heap.size ≤ W.heap.size) := hide ⟨sA, hW2, hYb, hYlt, hsz⟩
    clear y1 b1 H2 H3 c2 sA bA cLA cMA b2 iA hW2 hYlt hcL1 hcLd HB1 hAll hmayW hmay2 cq HQ HJ HT hYb x0 x1 x2 x3 x4 hbeh hXL
    have hDout : ∀ j, wA.heap.size ≤ j → j < wA.heap.size + 4 → ¬ (D j ∨ wA.heap.size + 4 ≤ j) := fun j h1 h2 d => d.elim (fun d => by have := hDlt _ d; have := HZ.out; omega) (fun d => by omega)
    refine Pm.range_it (Q := _) 202 enters202 _ XL (fun x => #[.string x.1, .string x.2]) _ hit rfl (fun _ _ => rfl) hKlt (fun j => D j ∨ wA.heap.size + 4 ≤ j) (fun j d => d.elim (hDne j) (fun d hj => by have := hKlt j hj; omega)) (hDout _ (by omega) (by omega)) (hDout _ (by omega) (by omega)) (hDout _ (by omega) (by omega)) (hDout _ (by omega) (by omega))
      (fun k W' => J (wA.heap.size + 4) k W' ∧ Pm.Same (KS t L Sb) w W' ∧ W'.heap[Yb]? = some (.cells #[.func (.func 198) #[] #[.pointer (some ⟨Lb, 0, none⟩), .pointer (some ⟨Tb, 0, none⟩)]] 79 (0, 0))) (fun _ _ => False)
      (fun k A A' hi ho => ?hI) (fun c A A' hi ho => hi) ⟨hJ0 _ wA bWA (by omega), sAA, yA⟩ ?hround ?hdone ?hstop
    case hI =>
      have hlt := (gI hi.2.2).1
      exact ⟨hJB _ k A A' (by have := HZ.out; omega) hi.1 (ho.mono (fun j _ e => by have e' : j = wA.heap.size + 1 := e; have := HZ.out; exact ⟨by omega, by omega⟩)), hi.2.1.only hKw (by have := HZ.out; omega) ho (fun j e hj => by have e' : j = wA.heap.size + 1 := e; have := hKw j hj; have := HZ.out; omega), (ho.block _ hlt (by have := HZ.out; omega)).trans hi.2.2⟩
    case hdone =>
      rintro W' ⟨hj, -, -⟩ hlt hk0
      have o1 := only_putObj W' wA.heap.size (.deferred none)
      have hj' := hJB _ _ _ _ (by have := HZ.out; omega) hj (o1.mono (fun j _ e => by have e' : j = wA.heap.size := e; have := HZ.out; exact ⟨by omega, by omega⟩))
      have HX := hide (And.intro hk0 hj')
      have hB : W.heap.size ≤ wA.heap.size + 4 := by have := HZ.out; omega
      have HB := hide hB
      clear hit hKlt hDne hDout yA sAA bWA hS hsz hDK hDlt hJB hY hJ0 hKw iW ht hm hk hs ha hj hj' o1 hB hk0 hsub
      go_wp2
      refine leave_mark (fn := Tryz.f162) HX.out.1 (leave_unit rfl ⟨⟨_, rfl⟩, _, HB.out, ?_⟩)
      rw [elsM, List.length_map]
      exact HX.out.2
    case hstop => exact fun c W' hi => hi.elim
    case hround =>
      rintro c ⟨k, x⟩ W' hx ⟨hj, hsm, hyy⟩ hSame hsz'
      have hks := hk _ (hsub _ (List.mem_of_getElem? hx))
      have hxe : (elsM XL)[c]? = some (ofT k, x) := by rw [elsM, List.getElem?_map, hx]; rfl
      have hok : okV k = true := by
        rw [mayL, List.all_eq_true] at hm
        have := hm _ (hsub _ (List.mem_of_getElem? hx))
        simp only [okKv, Bool.and_eq_true] at this
        exact this.1
      clear hit hKlt hDne hDout yA sAA hSame hJ0 hx hk hsub
      dsimp only
      gi_wp2
      refine ⟨Only.refl _ _, fun W2 ho2 => ?_⟩
      have hylt := (gI hyy).1
      have j2 := hJB _ c W' W2 (by have := HZ.out; omega) hj (ho2.mono (fun j _ e => by have e' : j = wA.heap.size + 1 := e; have := HZ.out; exact ⟨by omega, by omega⟩))
      have s2 : Pm.Same (KS t L Sb) w W2 := hsm.only hKw (by have := HZ.out; omega) ho2 (fun j e hj => by have e' : j = wA.heap.size + 1 := e; have := hKw j hj; have := HZ.out; omega)
      have y2 : W2.heap[Yb]? = some (.cells #[.func (.func 198) #[] #[.pointer (some ⟨Lb, 0, none⟩), .pointer (some ⟨Tb, 0, none⟩)]] 79 (0, 0)) := (ho2.block _ hylt (by have := HZ.out; omega)).trans hyy
      have z2 : wA.heap.size + 4 ≤ W2.heap.size := Nat.le_trans hsz' ho2.size
      have h85 := ofKeyT_any k W2 hks
      rw [if_pos hok] at h85
      clear hok
      have yl : ∀ W3, Below W2.heap.size W2 W3 → W3.cell? ⟨Yb, 0, none⟩ = some (.func (.func 198) #[] #[.pointer (some ⟨Lb, 0, none⟩), .pointer (some ⟨Tb, 0, none⟩)]) ∧ Calls Tryz.prog 198 #[svT (ofT k), .string x, .pointer (some ⟨Lb, 0, none⟩), .pointer (some ⟨Tb, 0, none⟩)] W3 (fun e W5 => e = .returned (.bool true) ∧ Only (fun j => D j ∨ wA.heap.size + 4 ≤ j) W2 W5 ∧ J (wA.heap.size + 4) (c + 1) W5 ∧ Pm.Same (KS t L Sb) w W5 ∧ W5.heap[Yb]? = some (.cells #[.func (.func 198) #[] #[.pointer (some ⟨Lb, 0, none⟩), .pointer (some ⟨Tb, 0, none⟩)]] 79 (0, 0))) := fun W3 b3 => by
        have y3 := (b3.block _ (gI y2).1).trans y2
        have hz3 := b3.size
        have s3 : Pm.Same (KS t L Sb) w W3 := s2.below hKw (by have := HZ.out; omega) b3
        refine ⟨(cell_of_row _ _ 0 _ 79 (0, 0) y3).trans rfl, (hY _ c _ W3 (by have := HZ.out; omega) hxe (hJB _ c W2 W3 (by have := HZ.out; omega) j2 (below_only b3)) s3 (by omega)).mono ?_⟩
        rintro e W5 ⟨he, ho, hj5⟩
        exact ⟨he, (below_only b3).next ho, hj5, s3.only hKw (by have := HZ.out; omega) ho (fun j d hj => d.elim (fun d => hDK j d hj) (fun d => by have := hKw j hj; have := HZ.out; omega)), (ho.block _ (gI y3).1 (fun d => d.elim (fun d => by have := hDlt _ d; have := HZ.out; omega) (fun d => by have := HZ.out; omega))).trans y3⟩
      have HY := hide yl
      obtain ⟨s, hs'⟩ : ∃ s, s = ofT k := ⟨_, rfl⟩
      rw [← hs'] at h85 HY
      obtain ⟨sg, sr, slb, sn, sx⟩ := s
      dsimp only [svT] at h85 HY
      clear hs' yl j2 s2 y2 z2 hylt hj hsm hyy hsz' hks hxe ho2 hS hsz hDK hDlt hJB hY hKw iW ht hm hs ha bWA
      have tk : True := trivial
      gi_wp2_with (first
        | (clear tk; refine ⟨trivial, CallsIn.inRound _ (callsIn_wide.2 (Calls.mono h85 ?_))⟩; rintro e w4 ⟨rfl, b4⟩; obtain ⟨cy, hya⟩ := HY.out (w4.alloc (.cells #[.int .i64 sg, .int .i64 sr, .string slb, .int .i64 sn, .int .i64 sx] 43)) (b4.trans (((Below.refl _ w4).alloc (Nat.le_refl _) _).mono b4.size)); clear b4; dsimp only)
        | (refine ⟨trivial, CallsIn.inRound _ (callsIn_wide.2 (Calls.mono hya ?_))⟩; rintro e W5 ⟨rfl, ho5, hj5⟩; have H5 := hide (And.intro ho5 hj5); clear ho5 hj5 hya cy; dsimp only))
      exact H5.out
  · have hm' : mayL t.list = false := by simpa using hm
    simp only [hm'] at hmay
    have he : sinL t.list (g, r, lb, n, ix) = [] := by unfold sinL; rw [← hFM, hm']; rfl
    rw [he] at hY ⊢
    unfold Pm.mv at hmay
    simp only [ha] at hmay
    rw [ha] at hcL1
    have HJ := hide (And.intro b1 hJ0)
    clear hS hsz hDK hDlt hJB hY hJ0 hKw hcL iW y1 b1 ht hs hk hL ha hSb hSb1 he hFK hFM hXL hsub
    refine calls_marks Tryz.func162 rfl ?_
    simp only [Tryz.ntmps162, List.size_toArray, List.length_cons, List.length_nil, Nat.reduceAdd, Nat.reduceSub, Array.replicate_succ, Array.replicate_zero, List.push_toArray, List.append_toArray, List.nil_append, List.cons_append]
    go_upto_region 1 with fail
    rw [← hW1]
    clear hW1
    go_wp2_with (first
      | (go_at_call 163; refine (hbeh _).mono ?_; rintro e wq ⟨rfl, bq⟩; have HQ := hide bq; have cq := cell_stays hcL1 bq; have hmay2 := hmay wq bq; clear bq; dsimp only)
      | (go_at_call 100; refine hmay2.mono ?_; rintro e w2 ⟨rfl, b2⟩; have H2 := hide (HQ.out.trans (b2.mono HQ.out.size)); clear b2; dsimp only))
    obtain ⟨b1, hJ0⟩ := HJ.out
    have b2 := b1.trans (H2.out.mono b1.size)
    refine ret_lv ?_
    dsimp only
    refine leave_unit rfl ?_
    exact ⟨⟨_, rfl⟩, w2.heap.size, b2.size, hJ0 _ w2 b2 (Nat.le_refl _)⟩
set_option maxHeartbeats 8000000 in
set_option maxRecDepth 100000 in
theorem iterC199 (t : Pm.T) (L Sb Lb Tb : Nat) (sT : St) (w : World) (ht : Pm.In w t) (hs : Pm.Srt t.list) (hk : ∀ x ∈ t.list, x.1.size ≤ 9223372036854775807) (hL : w.cell? ⟨L, 0, none⟩ = some t.ptr) (hSb : w.heap[Sb]? = some (.cells #[.int .i64 sT.1, .int .i64 sT.2.1, .string sT.2.2.1, .int .i64 sT.2.2.2.1, .int .i64 sT.2.2.2.2] 43 (0, 0))) :
    ∀ (D : Nat → Prop) (J : Nat → Nat → World → Prop) (W : World), Pm.Same (KS t L Sb) w W → w.heap.size ≤ W.heap.size → (∀ j, D j → ¬ KS t L Sb j) → (∀ j, D j → j < W.heap.size) →
    (∀ B c W1 W2, W.heap.size ≤ B → J B c W1 → Only (fun j => W.heap.size ≤ j ∧ j < B) W1 W2 → J B c W2) →
    (∀ B c x W1, W.heap.size ≤ B → (sinL t.list sT)[c]? = some x → J B c W1 → Pm.Same (KS t L Sb) w W1 → B ≤ W1.heap.size → Calls Tryz.prog 199 #[svT x.1, .string x.2, .pointer (some ⟨Lb, 0, none⟩), .pointer (some ⟨Tb, 0, none⟩)] W1 (fun e W5 => e = .returned (.bool true) ∧ Only (fun j => D j ∨ B ≤ j) W1 W5 ∧ J B (c + 1) W5)) →
    (∀ B W1, Below W.heap.size W W1 → W1.heap.size ≤ B → J B 0 W1) →
    Calls Tryz.prog 162 #[.func (.func 199) #[] #[.pointer (some ⟨Lb, 0, none⟩), .pointer (some ⟨Tb, 0, none⟩)], .pointer (some ⟨Sb, 0, none⟩), .pointer (some ⟨L, 0, none⟩)] W fun e W' => (∃ v, e = .returned v) ∧ ∃ B, W.heap.size ≤ B ∧ J B (sinL t.list sT).length W' := by
  intro D J W hS hsz hDK hDlt hJB hY hJ0
  have hKw : ∀ j, KS t L Sb j → j < w.heap.size := fun j hj => by
    rcases hj with rfl | rfl | hj
    · exact World.block_lt_of_cell? w _ hL
    · exact (gI hSb).1
    · exact ht.blk_lt hj
  have hcL : W.cell? ⟨L, 0, none⟩ = some t.ptr := hS.cell (.inl rfl) hL
  have iW : Pm.In W t := Pm.In.same ht (fun j hj => hS j (.inr (.inr hj)))
  obtain ⟨W1, hW1⟩ : ∃ W1, W1 = W.alloc (.cells #[.func (.func 199) #[] #[.pointer (some ⟨Lb, 0, none⟩), .pointer (some ⟨Tb, 0, none⟩)]] 79) := ⟨_, rfl⟩
  have y1 := heap_alloc_new W (.cells #[.func (.func 199) #[] #[.pointer (some ⟨Lb, 0, none⟩), .pointer (some ⟨Tb, 0, none⟩)]] 79)
  rw [← hW1] at y1
  have b1 : Below W.heap.size W W1 := by rw [hW1]; exact (Below.refl _ W).alloc (Nat.le_refl _) _
  have hmay := fun W2 (b2 : Below W1.heap.size W1 W2) => jrMay_any t W2 (Pm.In.below b2 (Pm.In.below b1 iW)) hs hk
  have hSb1 : W1.heap[Sb]? = some (.cells #[.int .i64 sT.1, .int .i64 sT.2.1, .string sT.2.2.1, .int .i64 sT.2.2.2.1, .int .i64 sT.2.2.2.2] 43 (0, 0)) := (b1.block _ (Nat.lt_of_lt_of_le (gI hSb).1 hsz)).trans ((hS Sb (.inr (.inl rfl))).trans hSb)
  have hbeh := fun W => behind163 sT W
  have hcL1 : W1.cell? ⟨L, 0, none⟩ = some t.ptr := cell_stays hcL b1
  obtain ⟨a, ha⟩ := t.ptr_shape
  obtain ⟨Yb, hYb⟩ : ∃ Yb, Yb = W.heap.size := ⟨_, rfl⟩
  obtain ⟨g, r, lb, n, ix⟩ := sT
  dsimp only at hSb1
  obtain ⟨FK, hFK⟩ : ∃ q, q = frK (g, r, lb, n, ix) := ⟨_, rfl⟩
  obtain ⟨FM, hFM⟩ : ∃ q, q = frM (g, r, lb, n, ix) := ⟨_, rfl⟩
  dsimp only [svT, sv] at hbeh
  rw [← hFK, ← hFM] at hbeh
  have x0 : W1.cell? ⟨Sb, 0, none⟩ = some (.int .i64 g) := (cell_of_row _ _ 0 _ 43 (0, 0) hSb1).trans rfl
  have x1 : W1.cell? ⟨Sb, 1, none⟩ = some (.int .i64 r) := (cell_of_row _ _ 1 _ 43 (0, 0) hSb1).trans rfl
  have x2 : W1.cell? ⟨Sb, 2, none⟩ = some (.string lb) := (cell_of_row _ _ 2 _ 43 (0, 0) hSb1).trans rfl
  have x3 : W1.cell? ⟨Sb, 3, none⟩ = some (.int .i64 n) := (cell_of_row _ _ 3 _ 43 (0, 0) hSb1).trans rfl
  have x4 : W1.cell? ⟨Sb, 4, none⟩ = some (.int .i64 ix) := (cell_of_row _ _ 4 _ 43 (0, 0) hSb1).trans rfl
  by_cases hf : FM = true
  case neg =>
    have hf' : FM = false := by simpa using hf
    subst hf'
    have he : sinL t.list (g, r, lb, n, ix) = [] := by unfold sinL; rw [← hFM]; rfl
    rw [he] at hY ⊢
    have HJ := hide (And.intro b1 hJ0)
    clear hS hsz hDK hDlt hJB hY hJ0 hKw hcL iW y1 b1 ht hs hk hL ha hSb hSb1 hmay hcL1 he hf hFK hFM hYb
    refine calls_marks Tryz.func162 rfl ?_
    simp only [Tryz.ntmps162, List.size_toArray, List.length_cons, List.length_nil, Nat.reduceAdd, Nat.reduceSub, Array.replicate_succ, Array.replicate_zero, List.push_toArray, List.append_toArray, List.nil_append, List.cons_append]
    go_upto_region 1 with fail
    rw [← hW1]
    clear hW1
    go_wp2_with (go_at_call 163; refine (hbeh _).mono ?_; rintro e w2 ⟨rfl, b2⟩; have H2 := hide b2; clear b2; dsimp only)
    obtain ⟨b1, hJ0⟩ := HJ.out
    have b2 := b1.trans (H2.out.mono b1.size)
    refine ret_lv ?_
    dsimp only
    refine leave_unit rfl ?_
    exact ⟨⟨_, rfl⟩, w2.heap.size, b2.size, hJ0 _ w2 b2 (Nat.le_refl _)⟩
  subst hf
  obtain ⟨XL, hXL⟩ : ∃ q, q = t.list.drop (Pm.pos FK t.list) := ⟨_, rfl⟩
  have hsub : ∀ x ∈ XL, x ∈ t.list := fun x hx => by rw [hXL] at hx; exact List.mem_of_mem_drop hx
  by_cases hm : mayL t.list = true
  · simp only [hm] at hmay
    have he : sinL t.list (g, r, lb, n, ix) = elsM XL := by unfold sinL; rw [← hFM, hm, ← hFK, hXL]; rfl
    rw [he] at hY ⊢
    have hAll := Pm.mFrom_any t FK
    have HT := hide (And.intro hm (And.intro hk (And.intro hs (And.intro hXL hsub))))
    unfold Pm.mv at hmay hAll
    simp only [ha] at hmay
    rw [ha] at hcL1
    have hmayW := hmay
    clear hmay
    have hcLd := hcL1
    have HA := hide ha
    have HJ := hide (And.intro hS (And.intro hsz (And.intro hDK (And.intro hDlt (And.intro hJB ((And.intro hY (And.intro hJ0 (And.intro hKw (And.intro iW (And.intro y1 (And.intro b1 ht))))))))))))
    simp only [ha] at hAll
    clear hS hsz hDK hDlt hJB hY hJ0 hKw hcL iW y1 ht hs hk hL ha hm hSb hSb1 he hFK hFM hXL hsub
    have HYb := hide hYb
    refine calls_marks Tryz.func162 rfl ?_
    simp only [Tryz.ntmps162, List.size_toArray, List.length_cons, List.length_nil, Nat.reduceAdd, Nat.reduceSub, Array.replicate_succ, Array.replicate_zero, List.push_toArray, List.append_toArray, List.nil_append, List.cons_append]
    go_upto_region 1 with fail
    rw [← hW1]
    clear hW1
    rw [← hYb]
    clear hYb
    have HB1 := hide b1
    clear b1
    go_wp2_with (first
      | (go_at_call 163; refine (hbeh _).mono ?_; rintro e wq ⟨rfl, bq⟩; have HQ := hide bq; have cq := cell_stays hcL1 bq; have hmay2 := hmayW wq bq; clear bq; dsimp only)
      | (go_at_call 100; refine hmay2.mono ?_; rintro e w2 ⟨rfl, b2⟩; have H2 := hide (HQ.out.trans (b2.mono HQ.out.size)); have c2 := cell_stays cq b2; clear b2; dsimp only)
      | (go_at_call 164; refine (hAll _).mono ?_; rintro e wA ⟨rfl, hwA⟩; have H3 := hide hwA; clear hwA; dsimp only))
    obtain ⟨hS, hsz, hDK, hDlt, hJB, hY, hJ0, hKw, iW, y1, b1, ht⟩ := HJ.out
    obtain ⟨hm, hk, hs, hXL, hsub⟩ := HT.out
    have ha := HA.out
    have hYb := HYb.out
    have sA : wA.heap.size = w2.heap.size + 2 := by rw [H3.out]; simp
    have bA : Below w2.heap.size w2 wA := by rw [H3.out]; exact ((Below.refl _ w2).alloc (Nat.le_refl _) _).alloc (by simp) _
    have cLA : wA.cell? ⟨w2.heap.size + 1, 0, none⟩ = some (.string FK) := by rw [H3.out]; exact (cell_of_row _ _ 0 _ 9 (0, 0) (new2 w2 _ _).2).trans rfl
    have cMA : wA.cell? ⟨w2.heap.size, 0, none⟩ = some t.ptr := by rw [H3.out, ha]; exact (cell_of_row _ _ 0 _ 27 (0, 0) (new2 w2 _ _).1).trans rfl
    have b2 : Below W.heap.size W w2 := b1.trans (H2.out.mono b1.size)
    have bWA : Below W.heap.size W wA := b2.trans (bA.mono b2.size)
    have iA : Pm.In wA t := Pm.In.below bWA iW
    have hit := Pm.iter_from t FK (w2.heap.size + 1) w2.heap.size wA iA cLA cMA
    rw [Pm.from_is _ hs, ← hXL] at hit
    have hW2 := b2.size
    have hKlt : ∀ j, Pm.KF t (w2.heap.size + 1) w2.heap.size j → j < wA.heap.size := fun j hj => by
      rcases hj with rfl | rfl | hj
      · omega
      · omega
      · exact iA.blk_lt hj
    have hDne : ∀ j, D j → ¬ Pm.KF t (w2.heap.size + 1) w2.heap.size j := fun j d hj => by
      have := hDlt j d
      rcases hj with rfl | rfl | hj
      · omega
      · omega
      · exact hDK j d (.inr (.inr hj))
    have yA : wA.heap[Yb]? = some (.cells #[.func (.func 199) #[] #[.pointer (some ⟨Lb, 0, none⟩), .pointer (some ⟨Tb, 0, none⟩)]] 79 (0, 0)) := by
      rw [← hYb] at y1
      have hlt := (gI y1).1
      have y2 := (H2.out.block _ hlt).trans y1
      exact (bA.block _ (Nat.lt_of_lt_of_le hlt H2.out.size)).trans y2
    have sAA : Pm.Same (KS t L Sb) w wA := hS.below hKw hsz bWA
    have hYlt : Yb < w2.heap.size := by
      have h1 := (gI y1).1
      have := H2.out.size
      omega
    have HZ : Hid (wA.heap.size = w2.heap.size + 2 ∧ W.heap.size ≤ w2.heap.size ∧ Yb = W.heap.size ∧ Yb < w2.heap.size ∧ w.heap.size ≤ W.heap.size) := hide ⟨sA, hW2, hYb, hYlt, hsz⟩
    clear y1 b1 H2 H3 c2 sA bA cLA cMA b2 iA hW2 hYlt hcL1 hcLd HB1 hAll hmayW hmay2 cq HQ HJ HT hYb x0 x1 x2 x3 x4 hbeh hXL
    have hDout : ∀ j, wA.heap.size ≤ j → j < wA.heap.size + 4 → ¬ (D j ∨ wA.heap.size + 4 ≤ j) := fun j h1 h2 d => d.elim (fun d => by have := hDlt _ d; have := HZ.out; omega) (fun d => by omega)
    refine Pm.range_it (Q := _) 202 enters202 _ XL (fun x => #[.string x.1, .string x.2]) _ hit rfl (fun _ _ => rfl) hKlt (fun j => D j ∨ wA.heap.size + 4 ≤ j) (fun j d => d.elim (hDne j) (fun d hj => by have := hKlt j hj; omega)) (hDout _ (by omega) (by omega)) (hDout _ (by omega) (by omega)) (hDout _ (by omega) (by omega)) (hDout _ (by omega) (by omega))
      (fun k W' => J (wA.heap.size + 4) k W' ∧ Pm.Same (KS t L Sb) w W' ∧ W'.heap[Yb]? = some (.cells #[.func (.func 199) #[] #[.pointer (some ⟨Lb, 0, none⟩), .pointer (some ⟨Tb, 0, none⟩)]] 79 (0, 0))) (fun _ _ => False)
      (fun k A A' hi ho => ?hI) (fun c A A' hi ho => hi) ⟨hJ0 _ wA bWA (by omega), sAA, yA⟩ ?hround ?hdone ?hstop
    case hI =>
      have hlt := (gI hi.2.2).1
      exact ⟨hJB _ k A A' (by have := HZ.out; omega) hi.1 (ho.mono (fun j _ e => by have e' : j = wA.heap.size + 1 := e; have := HZ.out; exact ⟨by omega, by omega⟩)), hi.2.1.only hKw (by have := HZ.out; omega) ho (fun j e hj => by have e' : j = wA.heap.size + 1 := e; have := hKw j hj; have := HZ.out; omega), (ho.block _ hlt (by have := HZ.out; omega)).trans hi.2.2⟩
    case hdone =>
      rintro W' ⟨hj, -, -⟩ hlt hk0
      have o1 := only_putObj W' wA.heap.size (.deferred none)
      have hj' := hJB _ _ _ _ (by have := HZ.out; omega) hj (o1.mono (fun j _ e => by have e' : j = wA.heap.size := e; have := HZ.out; exact ⟨by omega, by omega⟩))
      have HX := hide (And.intro hk0 hj')
      have hB : W.heap.size ≤ wA.heap.size + 4 := by have := HZ.out; omega
      have HB := hide hB
      clear hit hKlt hDne hDout yA sAA bWA hS hsz hDK hDlt hJB hY hJ0 hKw iW ht hm hk hs ha hj hj' o1 hB hk0 hsub
      go_wp2
      refine leave_mark (fn := Tryz.f162) HX.out.1 (leave_unit rfl ⟨⟨_, rfl⟩, _, HB.out, ?_⟩)
      rw [elsM, List.length_map]
      exact HX.out.2
    case hstop => exact fun c W' hi => hi.elim
    case hround =>
      rintro c ⟨k, x⟩ W' hx ⟨hj, hsm, hyy⟩ hSame hsz'
      have hks := hk _ (hsub _ (List.mem_of_getElem? hx))
      have hxe : (elsM XL)[c]? = some (ofT k, x) := by rw [elsM, List.getElem?_map, hx]; rfl
      have hok : okV k = true := by
        rw [mayL, List.all_eq_true] at hm
        have := hm _ (hsub _ (List.mem_of_getElem? hx))
        simp only [okKv, Bool.and_eq_true] at this
        exact this.1
      clear hit hKlt hDne hDout yA sAA hSame hJ0 hx hk hsub
      dsimp only
      gi_wp2
      refine ⟨Only.refl _ _, fun W2 ho2 => ?_⟩
      have hylt := (gI hyy).1
      have j2 := hJB _ c W' W2 (by have := HZ.out; omega) hj (ho2.mono (fun j _ e => by have e' : j = wA.heap.size + 1 := e; have := HZ.out; exact ⟨by omega, by omega⟩))
      have s2 : Pm.Same (KS t L Sb) w W2 := hsm.only hKw (by have := HZ.out; omega) ho2 (fun j e hj => by have e' : j = wA.heap.size + 1 := e; have := hKw j hj; have := HZ.out; omega)
      have y2 : W2.heap[Yb]? = some (.cells #[.func (.func 199) #[] #[.pointer (some ⟨Lb, 0, none⟩), .pointer (some ⟨Tb, 0, none⟩)]] 79 (0, 0)) := (ho2.block _ hylt (by have := HZ.out; omega)).trans hyy
      have z2 : wA.heap.size + 4 ≤ W2.heap.size := Nat.le_trans hsz' ho2.size
      have h85 := ofKeyT_any k W2 hks
      rw [if_pos hok] at h85
      clear hok
      have yl : ∀ W3, Below W2.heap.size W2 W3 → W3.cell? ⟨Yb, 0, none⟩ = some (.func (.func 199) #[] #[.pointer (some ⟨Lb, 0, none⟩), .pointer (some ⟨Tb, 0, none⟩)]) ∧ Calls Tryz.prog 199 #[svT (ofT k), .string x, .pointer (some ⟨Lb, 0, none⟩), .pointer (some ⟨Tb, 0, none⟩)] W3 (fun e W5 => e = .returned (.bool true) ∧ Only (fun j => D j ∨ wA.heap.size + 4 ≤ j) W2 W5 ∧ J (wA.heap.size + 4) (c + 1) W5 ∧ Pm.Same (KS t L Sb) w W5 ∧ W5.heap[Yb]? = some (.cells #[.func (.func 199) #[] #[.pointer (some ⟨Lb, 0, none⟩), .pointer (some ⟨Tb, 0, none⟩)]] 79 (0, 0))) := fun W3 b3 => by
        have y3 := (b3.block _ (gI y2).1).trans y2
        have hz3 := b3.size
        have s3 : Pm.Same (KS t L Sb) w W3 := s2.below hKw (by have := HZ.out; omega) b3
        refine ⟨(cell_of_row _ _ 0 _ 79 (0, 0) y3).trans rfl, (hY _ c _ W3 (by have := HZ.out; omega) hxe (hJB _ c W2 W3 (by have := HZ.out; omega) j2 (below_only b3)) s3 (by omega)).mono ?_⟩
        rintro e W5 ⟨he, ho, hj5⟩
        exact ⟨he, (below_only b3).next ho, hj5, s3.only hKw (by have := HZ.out; omega) ho (fun j d hj => d.elim (fun d => hDK j d hj) (fun d => by have := hKw j hj; have := HZ.out; omega)), (ho.block _ (gI y3).1 (fun d => d.elim (fun d => by have := hDlt _ d; have := HZ.out; omega) (fun d => by have := HZ.out; omega))).trans y3⟩
      have HY := hide yl
      obtain ⟨s, hs'⟩ : ∃ s, s = ofT k := ⟨_, rfl⟩
      rw [← hs'] at h85 HY
      obtain ⟨sg, sr, slb, sn, sx⟩ := s
      dsimp only [svT] at h85 HY
      clear hs' yl j2 s2 y2 z2 hylt hj hsm hyy hsz' hks hxe ho2 hS hsz hDK hDlt hJB hY hKw iW ht hm hs ha bWA
      have tk : True := trivial
      gi_wp2_with (first
        | (clear tk; refine ⟨trivial, CallsIn.inRound _ (callsIn_wide.2 (Calls.mono h85 ?_))⟩; rintro e w4 ⟨rfl, b4⟩; obtain ⟨cy, hya⟩ := HY.out (w4.alloc (.cells #[.int .i64 sg, .int .i64 sr, .string slb, .int .i64 sn, .int .i64 sx] 43)) (b4.trans (((Below.refl _ w4).alloc (Nat.le_refl _) _).mono b4.size)); clear b4; dsimp only)
        | (refine ⟨trivial, CallsIn.inRound _ (callsIn_wide.2 (Calls.mono hya ?_))⟩; rintro e W5 ⟨rfl, ho5, hj5⟩; have H5 := hide (And.intro ho5 hj5); clear ho5 hj5 hya cy; dsimp only))
      exact H5.out
  · have hm' : mayL t.list = false := by simpa using hm
    simp only [hm'] at hmay
    have he : sinL t.list (g, r, lb, n, ix) = [] := by unfold sinL; rw [← hFM, hm']; rfl
    rw [he] at hY ⊢
    unfold Pm.mv at hmay
    simp only [ha] at hmay
    rw [ha] at hcL1
    have HJ := hide (And.intro b1 hJ0)
    clear hS hsz hDK hDlt hJB hY hJ0 hKw hcL iW y1 b1 ht hs hk hL ha hSb hSb1 he hFK hFM hXL hsub
    refine calls_marks Tryz.func162 rfl ?_
    simp only [Tryz.ntmps162, List.size_toArray, List.length_cons, List.length_nil, Nat.reduceAdd, Nat.reduceSub, Array.replicate_succ, Array.replicate_zero, List.push_toArray, List.append_toArray, List.nil_append, List.cons_append]
    go_upto_region 1 with fail
    rw [← hW1]
    clear hW1
    go_wp2_with (first
      | (go_at_call 163; refine (hbeh _).mono ?_; rintro e wq ⟨rfl, bq⟩; have HQ := hide bq; have cq := cell_stays hcL1 bq; have hmay2 := hmay wq bq; clear bq; dsimp only)
      | (go_at_call 100; refine hmay2.mono ?_; rintro e w2 ⟨rfl, b2⟩; have H2 := hide (HQ.out.trans (b2.mono HQ.out.size)); clear b2; dsimp only))
    obtain ⟨b1, hJ0⟩ := HJ.out
    have b2 := b1.trans (H2.out.mono b1.size)
    refine ret_lv ?_
    dsimp only
    refine leave_unit rfl ?_
    exact ⟨⟨_, rfl⟩, w2.heap.size, b2.size, hJ0 _ w2 b2 (Nat.le_refl _)⟩
end Go.Proofs.YtkkpdgfllnbigaaGreat.Jo
