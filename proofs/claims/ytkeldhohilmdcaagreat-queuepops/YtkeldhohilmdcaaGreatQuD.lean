/-
  queue: going over a map by a closure of the package's own.
  queue: what gathers elements and texts.
  queue: its elements and its texts (68, 71).
-/
import Derived.Test.YtkeldhohilmdcaaGreatQuA
namespace Go.Proofs.YtkeldhohilmdcaaGreat.Qu
open Go.RowKit Go.Shelf
set_option linter.unusedSimpArgs false
attribute [local go_sem] Oper.semAt_some

set_option maxHeartbeats 8000000 in
set_option maxRecDepth 100000 in
theorem iterC159 (t : Pm.T) (L Lb Tb : Nat) (w : World) (ht : Pm.In w t) (hs : Pm.Srt t.list) (hk : ∀ x ∈ t.list, x.1.size ≤ 9223372036854775807) (hL : w.cell? ⟨L, 0, none⟩ = some t.ptr) :
    ∀ (D : Nat → Prop) (J : Nat → Nat → World → Prop) (W : World), Pm.Same (KA t L) w W → w.heap.size ≤ W.heap.size → (∀ j, D j → ¬ KA t L j) → (∀ j, D j → j < W.heap.size) →
    (∀ B c W1 W2, W.heap.size ≤ B → J B c W1 → Only (fun j => W.heap.size ≤ j ∧ j < B) W1 W2 → J B c W2) →
    (∀ B c x W1, W.heap.size ≤ B → (elsL t.list)[c]? = some x → J B c W1 → Pm.Same (KA t L) w W1 → B ≤ W1.heap.size → Calls Tryz.prog 159 #[svT x.1, .string x.2, .pointer (some ⟨Lb, 0, none⟩), .pointer (some ⟨Tb, 0, none⟩)] W1 (fun e W5 => e = .returned (.bool true) ∧ Only (fun j => D j ∨ B ≤ j) W1 W5 ∧ J B (c + 1) W5)) →
    (∀ B W1, Below W.heap.size W W1 → W1.heap.size ≤ B → J B 0 W1) →
    Calls Tryz.prog 126 #[.func (.func 159) #[] #[.pointer (some ⟨Lb, 0, none⟩), .pointer (some ⟨Tb, 0, none⟩)], .pointer (some ⟨L, 0, none⟩)] W fun e W' => (∃ v, e = .returned v) ∧ ∃ B, W.heap.size ≤ B ∧ J B (elsL t.list).length W' := by
  intro D J W hS hsz hDK hDlt hJB hY hJ0
  have hKw : ∀ j, KA t L j → j < w.heap.size := fun j hj => by
    rcases hj with rfl | hj
    · exact World.block_lt_of_cell? w _ hL
    · exact ht.blk_lt hj
  have hcL : W.cell? ⟨L, 0, none⟩ = some t.ptr := hS.cell (.inl rfl) hL
  have iW : Pm.In W t := Pm.In.same ht (fun j hj => hS j (.inr hj))
  obtain ⟨W1, hW1⟩ : ∃ W1, W1 = W.alloc (.cells #[.func (.func 159) #[] #[.pointer (some ⟨Lb, 0, none⟩), .pointer (some ⟨Tb, 0, none⟩)]] 79) := ⟨_, rfl⟩
  have y1 := heap_alloc_new W (.cells #[.func (.func 159) #[] #[.pointer (some ⟨Lb, 0, none⟩), .pointer (some ⟨Tb, 0, none⟩)]] 79)
  rw [← hW1] at y1
  have b1 : Below W.heap.size W W1 := by rw [hW1]; exact (Below.refl _ W).alloc (Nat.le_refl _) _
  have hmay := rMay_any t W1 (Pm.In.below b1 iW) hs hk
  have hcL1 : W1.cell? ⟨L, 0, none⟩ = some t.ptr := cell_stays hcL b1
  obtain ⟨a, ha⟩ := t.ptr_shape
  obtain ⟨Yb, hYb⟩ : ∃ Yb, Yb = W.heap.size := ⟨_, rfl⟩
  by_cases hm : mayL t.list = true
  · rw [hm] at hmay
    rw [elsL, if_pos hm] at hY ⊢
    have hAll := Pm.mAll_any t
    have HT := hide (And.intro hm (And.intro hk hs))
    unfold Pm.mv at hmay hAll
    rw [ha] at hmay hcL1
    have hcLd := hcL1
    have HA := hide ha
    have HJ := hide (And.intro hS (And.intro hsz (And.intro hDK (And.intro hDlt (And.intro hJB ((And.intro hY (And.intro hJ0 (And.intro hKw (And.intro iW (And.intro y1 (And.intro b1 ht))))))))))))
    simp only [ha] at hAll
    clear hS hsz hDK hDlt hJB hY hJ0 hKw hcL iW y1 ht hs hk hL ha hm
    have HYb := hide hYb
    refine calls_marks Tryz.func126 rfl ?_
    simp only [Tryz.ntmps126, List.size_toArray, List.length_cons, List.length_nil, Nat.reduceAdd, Nat.reduceSub, Array.replicate_succ, Array.replicate_zero, List.push_toArray, List.append_toArray, List.nil_append, List.cons_append]
    go_upto_region 1 with fail
    rw [← hW1]
    clear hW1
    rw [← hYb]
    clear hYb
    have HB1 := hide b1
    clear b1
    go_wp2_with (first
      | (go_at_call 70; refine hmay.mono ?_; rintro e w2 ⟨rfl, b2⟩; have H2 := hide b2; have c2 := cell_stays hcL1 b2; clear b2; dsimp only)
      | (go_at_call 111; refine (hAll _).mono ?_; rintro e wA ⟨rfl, hwA⟩; have H3 := hide hwA; clear hwA; dsimp only))
    obtain ⟨hS, hsz, hDK, hDlt, hJB, hY, hJ0, hKw, iW, y1, b1, ht⟩ := HJ.out
    obtain ⟨hm, hk, hs⟩ := HT.out
    have ha := HA.out
    have hYb := HYb.out
    have sA : wA.heap.size = w2.heap.size + 3 := by rw [H3.out]; simp
    have bA : Below w2.heap.size w2 wA := by rw [H3.out]; exact (new3r w2 _ _ _).2.2.2
    have cLA : wA.cell? ⟨w2.heap.size + 2, 0, none⟩ = some (.string ⟨#[]⟩) := by rw [H3.out]; exact (cell_of_row _ _ 0 _ 9 (0, 0) (new3r w2 _ _ _).2.2.1).trans rfl
    have cMA : wA.cell? ⟨w2.heap.size + 1, 0, none⟩ = some t.ptr := by rw [H3.out, ha]; exact (cell_of_row _ _ 0 _ 27 (0, 0) (new3r w2 _ _ _).2.1).trans rfl
    have b2 : Below W.heap.size W w2 := b1.trans (H2.out.mono b1.size)
    have bWA : Below W.heap.size W wA := b2.trans (bA.mono b2.size)
    have iA : Pm.In wA t := Pm.In.below bWA iW
    have hit := Pm.iter_from t ⟨#[]⟩ (w2.heap.size + 2) (w2.heap.size + 1) wA iA cLA cMA
    rw [Pm.all_is hs] at hit
    have hW2 := b2.size
    have hKlt : ∀ j, Pm.KF t (w2.heap.size + 2) (w2.heap.size + 1) j → j < wA.heap.size := fun j hj => by
      rcases hj with rfl | rfl | hj
      · omega
      · omega
      · exact iA.blk_lt hj
    have hDne : ∀ j, D j → ¬ Pm.KF t (w2.heap.size + 2) (w2.heap.size + 1) j := fun j d hj => by
      have := hDlt j d
      rcases hj with rfl | rfl | hj
      · omega
      · omega
      · exact hDK j d (.inr hj)
    have yA : wA.heap[Yb]? = some (.cells #[.func (.func 159) #[] #[.pointer (some ⟨Lb, 0, none⟩), .pointer (some ⟨Tb, 0, none⟩)]] 79 (0, 0)) := by
      rw [← hYb] at y1
      have hlt := (Array.getElem?_eq_some_iff.1 y1).1
      have y2 := (H2.out.block _ hlt).trans y1
      exact (bA.block _ (Nat.lt_of_lt_of_le hlt H2.out.size)).trans y2
    have sAA : Pm.Same (KA t L) w wA := hS.below hKw hsz bWA
    have hYlt : Yb < w2.heap.size := by
      have h1 := (Array.getElem?_eq_some_iff.1 y1).1
      have := H2.out.size
      omega
    have HZ : Hid (wA.heap.size = w2.heap.size + 3 ∧ W.heap.size ≤ w2.heap.size ∧ Yb = W.heap.size ∧ Yb < w2.heap.size ∧ w.heap.size ≤ W.heap.size) := hide ⟨sA, hW2, hYb, hYlt, hsz⟩
    clear y1 b1 H2 H3 c2 sA bA cLA cMA b2 iA hW2 hYlt hcL1 hcLd HB1 hAll hmay HJ HT hYb
    have hDout : ∀ j, wA.heap.size ≤ j → j < wA.heap.size + 4 → ¬ (D j ∨ wA.heap.size + 4 ≤ j) := fun j h1 h2 d => d.elim (fun d => by have := hDlt _ d; have := HZ.out; omega) (fun d => by omega)
    refine Pm.range_it (Q := _) 180 enters180 _ t.list (fun x => #[.string x.1, .string x.2]) _ hit rfl (fun _ _ => rfl) hKlt (fun j => D j ∨ wA.heap.size + 4 ≤ j) (fun j d => d.elim (hDne j) (fun d hj => by have := hKlt j hj; omega)) (hDout _ (by omega) (by omega)) (hDout _ (by omega) (by omega)) (hDout _ (by omega) (by omega)) (hDout _ (by omega) (by omega))
      (fun k W' => J (wA.heap.size + 4) k W' ∧ Pm.Same (KA t L) w W' ∧ W'.heap[Yb]? = some (.cells #[.func (.func 159) #[] #[.pointer (some ⟨Lb, 0, none⟩), .pointer (some ⟨Tb, 0, none⟩)]] 79 (0, 0))) (fun _ _ => False)
      (fun k A A' hi ho => ?hI) (fun c A A' hi ho => hi) ⟨hJ0 _ wA bWA (by omega), sAA, yA⟩ ?hround ?hdone ?hstop
    case hI =>
      have hlt := (Array.getElem?_eq_some_iff.1 hi.2.2).1
      exact ⟨hJB _ k A A' (by have := HZ.out; omega) hi.1 (ho.mono (fun j _ e => by have e' : j = wA.heap.size + 1 := e; have := HZ.out; exact ⟨by omega, by omega⟩)), hi.2.1.only hKw (by have := HZ.out; omega) ho (fun j e hj => by have e' : j = wA.heap.size + 1 := e; have := hKw j hj; have := HZ.out; omega), (ho.block _ hlt (by have := HZ.out; omega)).trans hi.2.2⟩
    case hdone =>
      rintro W' ⟨hj, -, -⟩ hlt hk0
      have o1 := only_putObj W' wA.heap.size (.deferred none)
      have hj' := hJB _ _ _ _ (by have := HZ.out; omega) hj (o1.mono (fun j _ e => by have e' : j = wA.heap.size := e; have := HZ.out; exact ⟨by omega, by omega⟩))
      have HX := hide (And.intro hk0 hj')
      have hB : W.heap.size ≤ wA.heap.size + 4 := by have := HZ.out; omega
      have HB := hide hB
      clear hit hKlt hDne hDout yA sAA bWA hS hsz hDK hDlt hJB hY hJ0 hKw iW ht hm hk hs ha hj hj' o1 hB hk0
      go_wp2
      refine leave_mark (fn := Tryz.f126) HX.out.1 (leave_unit rfl ⟨⟨_, rfl⟩, _, HB.out, ?_⟩)
      rw [elsM, List.length_map]
      exact HX.out.2
    case hstop => exact fun c W' hi => hi.elim
    case hround =>
      rintro c ⟨k, x⟩ W' hx ⟨hj, hsm, hyy⟩ hSame hsz'
      have hks := hk _ (List.mem_of_getElem? hx)
      have hxe : (elsM t.list)[c]? = some (ofT k, x) := by rw [elsM, List.getElem?_map, hx]; rfl
      have hok : okV k = true := by
        rw [mayL, List.all_eq_true] at hm
        have := hm _ (List.mem_of_getElem? hx)
        simp only [okKv, Bool.and_eq_true] at this
        exact this.1
      clear hit hKlt hDne hDout yA sAA hSame hJ0 hx hk
      dsimp only
      gi_wp2
      refine ⟨Only.refl _ _, fun W2 ho2 => ?_⟩
      have hylt := (Array.getElem?_eq_some_iff.1 hyy).1
      have j2 := hJB _ c W' W2 (by have := HZ.out; omega) hj (ho2.mono (fun j _ e => by have e' : j = wA.heap.size + 1 := e; have := HZ.out; exact ⟨by omega, by omega⟩))
      have s2 : Pm.Same (KA t L) w W2 := hsm.only hKw (by have := HZ.out; omega) ho2 (fun j e hj => by have e' : j = wA.heap.size + 1 := e; have := hKw j hj; have := HZ.out; omega)
      have y2 : W2.heap[Yb]? = some (.cells #[.func (.func 159) #[] #[.pointer (some ⟨Lb, 0, none⟩), .pointer (some ⟨Tb, 0, none⟩)]] 79 (0, 0)) := (ho2.block _ hylt (by have := HZ.out; omega)).trans hyy
      have z2 : wA.heap.size + 4 ≤ W2.heap.size := Nat.le_trans hsz' ho2.size
      have h85 := ofKeyT_any k W2 hks
      rw [if_pos hok] at h85
      clear hok
      have yl : ∀ W3, Below W2.heap.size W2 W3 → W3.cell? ⟨Yb, 0, none⟩ = some (.func (.func 159) #[] #[.pointer (some ⟨Lb, 0, none⟩), .pointer (some ⟨Tb, 0, none⟩)]) ∧ Calls Tryz.prog 159 #[svT (ofT k), .string x, .pointer (some ⟨Lb, 0, none⟩), .pointer (some ⟨Tb, 0, none⟩)] W3 (fun e W5 => e = .returned (.bool true) ∧ Only (fun j => D j ∨ wA.heap.size + 4 ≤ j) W2 W5 ∧ J (wA.heap.size + 4) (c + 1) W5 ∧ Pm.Same (KA t L) w W5 ∧ W5.heap[Yb]? = some (.cells #[.func (.func 159) #[] #[.pointer (some ⟨Lb, 0, none⟩), .pointer (some ⟨Tb, 0, none⟩)]] 79 (0, 0))) := fun W3 b3 => by
        have y3 := (b3.block _ (Array.getElem?_eq_some_iff.1 y2).1).trans y2
        have hz3 := b3.size
        have s3 : Pm.Same (KA t L) w W3 := s2.below hKw (by have := HZ.out; omega) b3
        refine ⟨(cell_of_row _ _ 0 _ 79 (0, 0) y3).trans rfl, (hY _ c _ W3 (by have := HZ.out; omega) hxe (hJB _ c W2 W3 (by have := HZ.out; omega) j2 (below_only b3)) s3 (by omega)).mono ?_⟩
        rintro e W5 ⟨he, ho, hj5⟩
        exact ⟨he, (below_only b3).next ho, hj5, s3.only hKw (by have := HZ.out; omega) ho (fun j d hj => d.elim (fun d => hDK j d hj) (fun d => by have := hKw j hj; have := HZ.out; omega)), (ho.block _ (Array.getElem?_eq_some_iff.1 y3).1 (fun d => d.elim (fun d => by have := hDlt _ d; have := HZ.out; omega) (fun d => by have := HZ.out; omega))).trans y3⟩
      have HY := hide yl
      obtain ⟨s, hs'⟩ : ∃ s, s = ofT k := ⟨_, rfl⟩
      rw [← hs'] at h85 HY
      obtain ⟨sg, sr, slb, sn, sx⟩ := s
      dsimp only [svT] at h85 HY
      clear hs' yl j2 s2 y2 z2 hylt hj hsm hyy hsz' hks hxe ho2 hS hsz hDK hDlt hJB hY hKw iW ht hm hs ha bWA
      have tk : True := trivial
      gi_wp2_with (first
        | (clear tk; refine ⟨trivial, CallsIn.inRound _ (callsIn_wide.2 (Calls.mono h85 ?_))⟩; rintro e w4 ⟨rfl, b4⟩; obtain ⟨cy, hya⟩ := HY.out (w4.alloc (.cells #[.int .i64 sg, .int .i64 sr, .string slb, .int .i64 sn, .int .i64 sx] 43)) (b4.trans (((Below.refl _ w4).alloc (Nat.le_refl _) _).mono b4.size)); clear b4; dsimp only)
        | (refine ⟨trivial, CallsIn.inRound _ (callsIn_wide.2 (Calls.mono hya ?_))⟩; rintro e W5 ⟨rfl, ho5, hj5⟩; have H5 := hide (And.intro ho5 hj5); clear ho5 hj5 hya cy; dsimp only))
      exact H5.out
  · have hm' : mayL t.list = false := by simpa using hm
    rw [hm'] at hmay
    rw [elsL, if_neg hm] at hY ⊢
    unfold Pm.mv at hmay
    rw [ha] at hmay hcL1
    have HJ := hide (And.intro b1 hJ0)
    clear hS hsz hDK hDlt hJB hY hJ0 hKw hcL iW y1 b1 ht hs hk hL ha
    refine calls_marks Tryz.func126 rfl ?_
    simp only [Tryz.ntmps126, List.size_toArray, List.length_cons, List.length_nil, Nat.reduceAdd, Nat.reduceSub, Array.replicate_succ, Array.replicate_zero, List.push_toArray, List.append_toArray, List.nil_append, List.cons_append]
    go_upto_region 1 with fail
    rw [← hW1]
    clear hW1
    go_wp2_with (go_at_call 70; refine hmay.mono ?_; rintro e w2 ⟨rfl, b2⟩; have H2 := hide b2; clear b2; dsimp only)
    obtain ⟨b1, hJ0⟩ := HJ.out
    have b2 := b1.trans (H2.out.mono b1.size)
    refine ret_lv ?_
    dsimp only
    refine leave_unit rfl ?_
    exact ⟨⟨_, rfl⟩, w2.heap.size, b2.size, hJ0 _ w2 b2 (Nat.le_refl _)⟩
set_option maxHeartbeats 8000000 in
set_option maxRecDepth 100000 in
theorem iterC160 (t : Pm.T) (L Lb Tb : Nat) (w : World) (ht : Pm.In w t) (hs : Pm.Srt t.list) (hk : ∀ x ∈ t.list, x.1.size ≤ 9223372036854775807) (hL : w.cell? ⟨L, 0, none⟩ = some t.ptr) :
    ∀ (D : Nat → Prop) (J : Nat → Nat → World → Prop) (W : World), Pm.Same (KA t L) w W → w.heap.size ≤ W.heap.size → (∀ j, D j → ¬ KA t L j) → (∀ j, D j → j < W.heap.size) →
    (∀ B c W1 W2, W.heap.size ≤ B → J B c W1 → Only (fun j => W.heap.size ≤ j ∧ j < B) W1 W2 → J B c W2) →
    (∀ B c x W1, W.heap.size ≤ B → (elsL t.list)[c]? = some x → J B c W1 → Pm.Same (KA t L) w W1 → B ≤ W1.heap.size → Calls Tryz.prog 160 #[svT x.1, .string x.2, .pointer (some ⟨Lb, 0, none⟩), .pointer (some ⟨Tb, 0, none⟩)] W1 (fun e W5 => e = .returned (.bool true) ∧ Only (fun j => D j ∨ B ≤ j) W1 W5 ∧ J B (c + 1) W5)) →
    (∀ B W1, Below W.heap.size W W1 → W1.heap.size ≤ B → J B 0 W1) →
    Calls Tryz.prog 126 #[.func (.func 160) #[] #[.pointer (some ⟨Lb, 0, none⟩), .pointer (some ⟨Tb, 0, none⟩)], .pointer (some ⟨L, 0, none⟩)] W fun e W' => (∃ v, e = .returned v) ∧ ∃ B, W.heap.size ≤ B ∧ J B (elsL t.list).length W' := by
  intro D J W hS hsz hDK hDlt hJB hY hJ0
  have hKw : ∀ j, KA t L j → j < w.heap.size := fun j hj => by
    rcases hj with rfl | hj
    · exact World.block_lt_of_cell? w _ hL
    · exact ht.blk_lt hj
  have hcL : W.cell? ⟨L, 0, none⟩ = some t.ptr := hS.cell (.inl rfl) hL
  have iW : Pm.In W t := Pm.In.same ht (fun j hj => hS j (.inr hj))
  obtain ⟨W1, hW1⟩ : ∃ W1, W1 = W.alloc (.cells #[.func (.func 160) #[] #[.pointer (some ⟨Lb, 0, none⟩), .pointer (some ⟨Tb, 0, none⟩)]] 79) := ⟨_, rfl⟩
  have y1 := heap_alloc_new W (.cells #[.func (.func 160) #[] #[.pointer (some ⟨Lb, 0, none⟩), .pointer (some ⟨Tb, 0, none⟩)]] 79)
  rw [← hW1] at y1
  have b1 : Below W.heap.size W W1 := by rw [hW1]; exact (Below.refl _ W).alloc (Nat.le_refl _) _
  have hmay := rMay_any t W1 (Pm.In.below b1 iW) hs hk
  have hcL1 : W1.cell? ⟨L, 0, none⟩ = some t.ptr := cell_stays hcL b1
  obtain ⟨a, ha⟩ := t.ptr_shape
  obtain ⟨Yb, hYb⟩ : ∃ Yb, Yb = W.heap.size := ⟨_, rfl⟩
  by_cases hm : mayL t.list = true
  · rw [hm] at hmay
    rw [elsL, if_pos hm] at hY ⊢
    have hAll := Pm.mAll_any t
    have HT := hide (And.intro hm (And.intro hk hs))
    unfold Pm.mv at hmay hAll
    rw [ha] at hmay hcL1
    have hcLd := hcL1
    have HA := hide ha
    have HJ := hide (And.intro hS (And.intro hsz (And.intro hDK (And.intro hDlt (And.intro hJB ((And.intro hY (And.intro hJ0 (And.intro hKw (And.intro iW (And.intro y1 (And.intro b1 ht))))))))))))
    simp only [ha] at hAll
    clear hS hsz hDK hDlt hJB hY hJ0 hKw hcL iW y1 ht hs hk hL ha hm
    have HYb := hide hYb
    refine calls_marks Tryz.func126 rfl ?_
    simp only [Tryz.ntmps126, List.size_toArray, List.length_cons, List.length_nil, Nat.reduceAdd, Nat.reduceSub, Array.replicate_succ, Array.replicate_zero, List.push_toArray, List.append_toArray, List.nil_append, List.cons_append]
    go_upto_region 1 with fail
    rw [← hW1]
    clear hW1
    rw [← hYb]
    clear hYb
    have HB1 := hide b1
    clear b1
    go_wp2_with (first
      | (go_at_call 70; refine hmay.mono ?_; rintro e w2 ⟨rfl, b2⟩; have H2 := hide b2; have c2 := cell_stays hcL1 b2; clear b2; dsimp only)
      | (go_at_call 111; refine (hAll _).mono ?_; rintro e wA ⟨rfl, hwA⟩; have H3 := hide hwA; clear hwA; dsimp only))
    obtain ⟨hS, hsz, hDK, hDlt, hJB, hY, hJ0, hKw, iW, y1, b1, ht⟩ := HJ.out
    obtain ⟨hm, hk, hs⟩ := HT.out
    have ha := HA.out
    have hYb := HYb.out
    have sA : wA.heap.size = w2.heap.size + 3 := by rw [H3.out]; simp
    have bA : Below w2.heap.size w2 wA := by rw [H3.out]; exact (new3r w2 _ _ _).2.2.2
    have cLA : wA.cell? ⟨w2.heap.size + 2, 0, none⟩ = some (.string ⟨#[]⟩) := by rw [H3.out]; exact (cell_of_row _ _ 0 _ 9 (0, 0) (new3r w2 _ _ _).2.2.1).trans rfl
    have cMA : wA.cell? ⟨w2.heap.size + 1, 0, none⟩ = some t.ptr := by rw [H3.out, ha]; exact (cell_of_row _ _ 0 _ 27 (0, 0) (new3r w2 _ _ _).2.1).trans rfl
    have b2 : Below W.heap.size W w2 := b1.trans (H2.out.mono b1.size)
    have bWA : Below W.heap.size W wA := b2.trans (bA.mono b2.size)
    have iA : Pm.In wA t := Pm.In.below bWA iW
    have hit := Pm.iter_from t ⟨#[]⟩ (w2.heap.size + 2) (w2.heap.size + 1) wA iA cLA cMA
    rw [Pm.all_is hs] at hit
    have hW2 := b2.size
    have hKlt : ∀ j, Pm.KF t (w2.heap.size + 2) (w2.heap.size + 1) j → j < wA.heap.size := fun j hj => by
      rcases hj with rfl | rfl | hj
      · omega
      · omega
      · exact iA.blk_lt hj
    have hDne : ∀ j, D j → ¬ Pm.KF t (w2.heap.size + 2) (w2.heap.size + 1) j := fun j d hj => by
      have := hDlt j d
      rcases hj with rfl | rfl | hj
      · omega
      · omega
      · exact hDK j d (.inr hj)
    have yA : wA.heap[Yb]? = some (.cells #[.func (.func 160) #[] #[.pointer (some ⟨Lb, 0, none⟩), .pointer (some ⟨Tb, 0, none⟩)]] 79 (0, 0)) := by
      rw [← hYb] at y1
      have hlt := (Array.getElem?_eq_some_iff.1 y1).1
      have y2 := (H2.out.block _ hlt).trans y1
      exact (bA.block _ (Nat.lt_of_lt_of_le hlt H2.out.size)).trans y2
    have sAA : Pm.Same (KA t L) w wA := hS.below hKw hsz bWA
    have hYlt : Yb < w2.heap.size := by
      have h1 := (Array.getElem?_eq_some_iff.1 y1).1
      have := H2.out.size
      omega
    have HZ : Hid (wA.heap.size = w2.heap.size + 3 ∧ W.heap.size ≤ w2.heap.size ∧ Yb = W.heap.size ∧ Yb < w2.heap.size ∧ w.heap.size ≤ W.heap.size) := hide ⟨sA, hW2, hYb, hYlt, hsz⟩
    clear y1 b1 H2 H3 c2 sA bA cLA cMA b2 iA hW2 hYlt hcL1 hcLd HB1 hAll hmay HJ HT hYb
    have hDout : ∀ j, wA.heap.size ≤ j → j < wA.heap.size + 4 → ¬ (D j ∨ wA.heap.size + 4 ≤ j) := fun j h1 h2 d => d.elim (fun d => by have := hDlt _ d; have := HZ.out; omega) (fun d => by omega)
    refine Pm.range_it (Q := _) 180 enters180 _ t.list (fun x => #[.string x.1, .string x.2]) _ hit rfl (fun _ _ => rfl) hKlt (fun j => D j ∨ wA.heap.size + 4 ≤ j) (fun j d => d.elim (hDne j) (fun d hj => by have := hKlt j hj; omega)) (hDout _ (by omega) (by omega)) (hDout _ (by omega) (by omega)) (hDout _ (by omega) (by omega)) (hDout _ (by omega) (by omega))
      (fun k W' => J (wA.heap.size + 4) k W' ∧ Pm.Same (KA t L) w W' ∧ W'.heap[Yb]? = some (.cells #[.func (.func 160) #[] #[.pointer (some ⟨Lb, 0, none⟩), .pointer (some ⟨Tb, 0, none⟩)]] 79 (0, 0))) (fun _ _ => False)
      (fun k A A' hi ho => ?hI) (fun c A A' hi ho => hi) ⟨hJ0 _ wA bWA (by omega), sAA, yA⟩ ?hround ?hdone ?hstop
    case hI =>
      have hlt := (Array.getElem?_eq_some_iff.1 hi.2.2).1
      exact ⟨hJB _ k A A' (by have := HZ.out; omega) hi.1 (ho.mono (fun j _ e => by have e' : j = wA.heap.size + 1 := e; have := HZ.out; exact ⟨by omega, by omega⟩)), hi.2.1.only hKw (by have := HZ.out; omega) ho (fun j e hj => by have e' : j = wA.heap.size + 1 := e; have := hKw j hj; have := HZ.out; omega), (ho.block _ hlt (by have := HZ.out; omega)).trans hi.2.2⟩
    case hdone =>
      rintro W' ⟨hj, -, -⟩ hlt hk0
      have o1 := only_putObj W' wA.heap.size (.deferred none)
      have hj' := hJB _ _ _ _ (by have := HZ.out; omega) hj (o1.mono (fun j _ e => by have e' : j = wA.heap.size := e; have := HZ.out; exact ⟨by omega, by omega⟩))
      have HX := hide (And.intro hk0 hj')
      have hB : W.heap.size ≤ wA.heap.size + 4 := by have := HZ.out; omega
      have HB := hide hB
      clear hit hKlt hDne hDout yA sAA bWA hS hsz hDK hDlt hJB hY hJ0 hKw iW ht hm hk hs ha hj hj' o1 hB hk0
      go_wp2
      refine leave_mark (fn := Tryz.f126) HX.out.1 (leave_unit rfl ⟨⟨_, rfl⟩, _, HB.out, ?_⟩)
      rw [elsM, List.length_map]
      exact HX.out.2
    case hstop => exact fun c W' hi => hi.elim
    case hround =>
      rintro c ⟨k, x⟩ W' hx ⟨hj, hsm, hyy⟩ hSame hsz'
      have hks := hk _ (List.mem_of_getElem? hx)
      have hxe : (elsM t.list)[c]? = some (ofT k, x) := by rw [elsM, List.getElem?_map, hx]; rfl
      have hok : okV k = true := by
        rw [mayL, List.all_eq_true] at hm
        have := hm _ (List.mem_of_getElem? hx)
        simp only [okKv, Bool.and_eq_true] at this
        exact this.1
      clear hit hKlt hDne hDout yA sAA hSame hJ0 hx hk
      dsimp only
      gi_wp2
      refine ⟨Only.refl _ _, fun W2 ho2 => ?_⟩
      have hylt := (Array.getElem?_eq_some_iff.1 hyy).1
      have j2 := hJB _ c W' W2 (by have := HZ.out; omega) hj (ho2.mono (fun j _ e => by have e' : j = wA.heap.size + 1 := e; have := HZ.out; exact ⟨by omega, by omega⟩))
      have s2 : Pm.Same (KA t L) w W2 := hsm.only hKw (by have := HZ.out; omega) ho2 (fun j e hj => by have e' : j = wA.heap.size + 1 := e; have := hKw j hj; have := HZ.out; omega)
      have y2 : W2.heap[Yb]? = some (.cells #[.func (.func 160) #[] #[.pointer (some ⟨Lb, 0, none⟩), .pointer (some ⟨Tb, 0, none⟩)]] 79 (0, 0)) := (ho2.block _ hylt (by have := HZ.out; omega)).trans hyy
      have z2 : wA.heap.size + 4 ≤ W2.heap.size := Nat.le_trans hsz' ho2.size
      have h85 := ofKeyT_any k W2 hks
      rw [if_pos hok] at h85
      clear hok
      have yl : ∀ W3, Below W2.heap.size W2 W3 → W3.cell? ⟨Yb, 0, none⟩ = some (.func (.func 160) #[] #[.pointer (some ⟨Lb, 0, none⟩), .pointer (some ⟨Tb, 0, none⟩)]) ∧ Calls Tryz.prog 160 #[svT (ofT k), .string x, .pointer (some ⟨Lb, 0, none⟩), .pointer (some ⟨Tb, 0, none⟩)] W3 (fun e W5 => e = .returned (.bool true) ∧ Only (fun j => D j ∨ wA.heap.size + 4 ≤ j) W2 W5 ∧ J (wA.heap.size + 4) (c + 1) W5 ∧ Pm.Same (KA t L) w W5 ∧ W5.heap[Yb]? = some (.cells #[.func (.func 160) #[] #[.pointer (some ⟨Lb, 0, none⟩), .pointer (some ⟨Tb, 0, none⟩)]] 79 (0, 0))) := fun W3 b3 => by
        have y3 := (b3.block _ (Array.getElem?_eq_some_iff.1 y2).1).trans y2
        have hz3 := b3.size
        have s3 : Pm.Same (KA t L) w W3 := s2.below hKw (by have := HZ.out; omega) b3
        refine ⟨(cell_of_row _ _ 0 _ 79 (0, 0) y3).trans rfl, (hY _ c _ W3 (by have := HZ.out; omega) hxe (hJB _ c W2 W3 (by have := HZ.out; omega) j2 (below_only b3)) s3 (by omega)).mono ?_⟩
        rintro e W5 ⟨he, ho, hj5⟩
        exact ⟨he, (below_only b3).next ho, hj5, s3.only hKw (by have := HZ.out; omega) ho (fun j d hj => d.elim (fun d => hDK j d hj) (fun d => by have := hKw j hj; have := HZ.out; omega)), (ho.block _ (Array.getElem?_eq_some_iff.1 y3).1 (fun d => d.elim (fun d => by have := hDlt _ d; have := HZ.out; omega) (fun d => by have := HZ.out; omega))).trans y3⟩
      have HY := hide yl
      obtain ⟨s, hs'⟩ : ∃ s, s = ofT k := ⟨_, rfl⟩
      rw [← hs'] at h85 HY
      obtain ⟨sg, sr, slb, sn, sx⟩ := s
      dsimp only [svT] at h85 HY
      clear hs' yl j2 s2 y2 z2 hylt hj hsm hyy hsz' hks hxe ho2 hS hsz hDK hDlt hJB hY hKw iW ht hm hs ha bWA
      have tk : True := trivial
      gi_wp2_with (first
        | (clear tk; refine ⟨trivial, CallsIn.inRound _ (callsIn_wide.2 (Calls.mono h85 ?_))⟩; rintro e w4 ⟨rfl, b4⟩; obtain ⟨cy, hya⟩ := HY.out (w4.alloc (.cells #[.int .i64 sg, .int .i64 sr, .string slb, .int .i64 sn, .int .i64 sx] 43)) (b4.trans (((Below.refl _ w4).alloc (Nat.le_refl _) _).mono b4.size)); clear b4; dsimp only)
        | (refine ⟨trivial, CallsIn.inRound _ (callsIn_wide.2 (Calls.mono hya ?_))⟩; rintro e W5 ⟨rfl, ho5, hj5⟩; have H5 := hide (And.intro ho5 hj5); clear ho5 hj5 hya cy; dsimp only))
      exact H5.out
  · have hm' : mayL t.list = false := by simpa using hm
    rw [hm'] at hmay
    rw [elsL, if_neg hm] at hY ⊢
    unfold Pm.mv at hmay
    rw [ha] at hmay hcL1
    have HJ := hide (And.intro b1 hJ0)
    clear hS hsz hDK hDlt hJB hY hJ0 hKw hcL iW y1 b1 ht hs hk hL ha
    refine calls_marks Tryz.func126 rfl ?_
    simp only [Tryz.ntmps126, List.size_toArray, List.length_cons, List.length_nil, Nat.reduceAdd, Nat.reduceSub, Array.replicate_succ, Array.replicate_zero, List.push_toArray, List.append_toArray, List.nil_append, List.cons_append]
    go_upto_region 1 with fail
    rw [← hW1]
    clear hW1
    go_wp2_with (go_at_call 70; refine hmay.mono ?_; rintro e w2 ⟨rfl, b2⟩; have H2 := hide b2; clear b2; dsimp only)
    obtain ⟨b1, hJ0⟩ := HJ.out
    have b2 := b1.trans (H2.out.mono b1.size)
    refine ret_lv ?_
    dsimp only
    refine leave_unit rfl ?_
    exact ⟨⟨_, rfl⟩, w2.heap.size, b2.size, hJ0 _ w2 b2 (Nat.le_refl _)⟩
end Go.Proofs.YtkeldhohilmdcaaGreat.Qu
namespace Go.Proofs.YtkeldhohilmdcaaGreat.Qu
open Go.RowKit Go.Shelf
set_option linter.unusedSimpArgs false
attribute [local go_sem] Oper.semAt_some

theorem tell123 (s : St) (x : ByteArray) (w : World) : Calls Tryz.prog 123 #[svT s, .string x] w fun e w' => e = .returned (ev (s, x)) ∧ Below w.heap.size w w' := by
  obtain ⟨g, r, l, n, i⟩ := s
  obtain ⟨m0, m1⟩ := new2 w (.cells #[.int .i64 g, .int .i64 r, .string l, .int .i64 n, .int .i64 i] 43) (.cells #[.int .i64 g, .int .i64 r, .string l, .int .i64 n, .int .i64 i, .string x] 53)
  have hb : Below w.heap.size w ((w.alloc (.cells #[.int .i64 g, .int .i64 r, .string l, .int .i64 n, .int .i64 i] 43)).alloc (.cells #[.int .i64 g, .int .i64 r, .string l, .int .i64 n, .int .i64 i, .string x] 53)) := ((Below.refl _ w).alloc (Nat.le_refl _) _).alloc (by simp) _
  have HM := hide (And.intro m1 hb)
  clear m0 m1 hb
  dsimp only [svT]
  go_enter Tryz.func123, Tryz.ntmps123
  go_wp2
  refine ret_row (w.heap.size + 1) (encE ((g, r, l, n, i), x)) rfl rfl Tryz.underlying53 rfl (by kernel_rfl) HM.out.1 rfl ?_
  exact ⟨rfl, HM.out.2⟩
theorem tell125 (s : St) (x : ByteArray) (w : World) : Calls Tryz.prog 125 #[svT s, .string x] w fun e w' => e = .returned (.string x) ∧ Below w.heap.size w w' := by
  obtain ⟨g, r, l, n, i⟩ := s
  dsimp only [svT]
  go_enter Tryz.func125, Tryz.ntmps125
  go_wp2
  go_ret
  exact ⟨rfl, (Below.refl _ w).alloc (Nat.le_refl _) _⟩
set_option maxHeartbeats 8000000 in
set_option maxRecDepth 100000 in
theorem gath159 {W2 : World} {Lb Tb B : Nat} {ao : Option Addr} {cp : Nat} (s : St) (x : ByteArray) (p : List El) (hbox : W2.heap[Lb]? = some (.cells #[.slice ao p.length cp] 22 (0, 0))) (htell : W2.heap[Tb]? = some (.cells #[.func (.func 123) #[] #[]] 144 (0, 0))) (hO : Oe W2 B (.slice ao p.length cp) p) (hLb : Lb < B) (hTb : Tb < B) (hne : Tb ≠ Lb) (hB : B ≤ W2.heap.size) (hp : p.length ≤ 100000) :
    Calls Tryz.prog 159 #[svT s, .string x, .pointer (some ⟨Lb, 0, none⟩), .pointer (some ⟨Tb, 0, none⟩)] W2 fun e W5 => e = .returned (.bool true) ∧ Only (fun j => j = Lb ∨ B ≤ j) W2 W5 ∧ ∃ a' c', W5.heap[Lb]? = some (.cells #[.slice a' (p.length + 1) c'] 22 (0, 0)) ∧ Oe W5 B (.slice a' (p.length + 1) c') (p ++ [(s, x)]) := by
  obtain ⟨sg, sr, sl, sn, si⟩ := s
  obtain ⟨N, hN⟩ : ∃ N, N = p.length := ⟨_, rfl⟩
  obtain ⟨W3, hW3⟩ : ∃ q, q = W2.alloc (.cells #[.int .i64 sg, .int .i64 sr, .string sl, .int .i64 sn, .int .i64 si] 43) := ⟨_, rfl⟩
  have r1 := heap_alloc_new W2 (.cells #[.int .i64 sg, .int .i64 sr, .string sl, .int .i64 sn, .int .i64 si] 43)
  have b1 : Below W2.heap.size W2 W3 := by rw [hW3]; exact (Below.refl _ W2).alloc (Nat.le_refl _) _
  rw [← hW3] at r1
  obtain ⟨Sb, hSb⟩ : ∃ q, q = W2.heap.size := ⟨_, rfl⟩
  rw [← hSb] at r1
  rw [← hN] at hp hbox ⊢
  have bx3 := (b1.block _ (Array.getElem?_eq_some_iff.1 hbox).1).trans hbox
  have tb3 := (b1.block _ (Array.getElem?_eq_some_iff.1 htell).1).trans htell
  have hS3 : Sb < W3.heap.size := (Array.getElem?_eq_some_iff.1 r1).1
  have hO3 := hO.below b1
  have HS : Hid (B ≤ Sb ∧ Sb < W3.heap.size ∧ Lb < B ∧ Tb < B ∧ Tb ≠ Lb ∧ B ≤ W3.heap.size) := hide ⟨by omega, hS3, hLb, hTb, hne, by have := b1.size; omega⟩
  have hown : ∀ k, (Value.slice ao N cp).ownBlock = some k → B ≤ k ∧ k < W2.heap.size := fun k hk => by rw [hN] at hk; exact World.ownsRow.lt hO k hk
  have qd : W3.drew.cell? ⟨Tb, 0, none⟩ = some (.func (.func 123) #[] #[]) ∧ W3.drew.cell? ⟨Sb, 0, none⟩ = some (.int .i64 sg) ∧ W3.drew.cell? ⟨Sb, 1, none⟩ = some (.int .i64 sr) ∧ W3.drew.cell? ⟨Sb, 2, none⟩ = some (.string sl) ∧ W3.drew.cell? ⟨Sb, 3, none⟩ = some (.int .i64 sn) ∧ W3.drew.cell? ⟨Sb, 4, none⟩ = some (.int .i64 si) := ⟨(cell_of_row W3.drew _ 0 _ 144 (0, 0) tb3).trans rfl, (cell_of_row W3.drew _ 0 _ 43 (0, 0) r1).trans rfl, (cell_of_row W3.drew _ 1 _ 43 (0, 0) r1).trans rfl, (cell_of_row W3.drew _ 2 _ 43 (0, 0) r1).trans rfl, (cell_of_row W3.drew _ 3 _ 43 (0, 0) r1).trans rfl, (cell_of_row W3.drew _ 4 _ 43 (0, 0) r1).trans rfl⟩
  have lc : W3.drew.cell? ⟨Lb, 0, none⟩ = some (.slice ao N cp) := (cell_of_row W3.drew _ 0 _ 22 (0, 0) bx3).trans rfl
  have hT := fun W' => tell123 (sg, sr, sl, sn, si) x W'
  dsimp only [svT] at hT
  have ends : ∀ w5 a' c' w7, Below W3.heap.size W3 w5 → Oe w7 B (.slice a' (N + 1) c') (p ++ [((sg, sr, sl, sn, si), x)]) → Only (fun k => (Value.slice ao N cp).ownBlock = some k) w5 w7 →
      (∀ y, (w7.setCell ⟨Lb, 0, none⟩ y).cell? ⟨Tb, 0, none⟩ = w5.cell? ⟨Tb, 0, none⟩ ∧ ∀ i, (w7.setCell ⟨Lb, 0, none⟩ y).cell? ⟨Sb, i, none⟩ = w5.cell? ⟨Sb, i, none⟩) ∧ w7.cell? ⟨Tb, 0, none⟩ = w5.cell? ⟨Tb, 0, none⟩ ∧ (∀ i, w7.cell? ⟨Sb, i, none⟩ = w5.cell? ⟨Sb, i, none⟩) ∧
      w7.cell? ⟨Lb, 0, none⟩ = some (.slice ao N cp) ∧ w7.frozen? ⟨Lb, 0, none⟩ = false ∧ Only (fun j => j = Lb ∨ B ≤ j) W2 (w7.setCell ⟨Lb, 0, none⟩ (.slice a' (N + 1) c')) ∧ (w7.setCell ⟨Lb, 0, none⟩ (.slice a' (N + 1) c')).heap[Lb]? = some (.cells #[.slice a' (N + 1) c'] 22 (0, 0)) ∧ Oe (w7.setCell ⟨Lb, 0, none⟩ (.slice a' (N + 1) c')) B (.slice a' (N + 1) c') (p ++ [((sg, sr, sl, sn, si), x)]) := fun w5 a' c' w7 b5 hO7 ho7 => by
    have hs := HS.out
    have hsz5 := b5.size
    have hsz7 := ho7.size
    have hlt3 := (Array.getElem?_eq_some_iff.1 bx3).1
    have hT7 : w7.cell? ⟨Tb, 0, none⟩ = w5.cell? ⟨Tb, 0, none⟩ := World.cell?_of_block (ho7.block Tb (by omega) (fun e => by have := hown Tb e; omega))
    have hS7 : ∀ i, w7.cell? ⟨Sb, i, none⟩ = w5.cell? ⟨Sb, i, none⟩ := fun i => World.cell?_of_block (ho7.block Sb (by omega) (fun e => by have := hown Sb e; omega))
    have bx5 := (b5.block _ hlt3).trans bx3
    have bx7 := (ho7.block Lb (by omega) (fun e => by have := hown Lb e; omega)).trans bx5
    obtain ⟨s9, o9⟩ := set_one (i := 0) (.slice a' (N + 1) c') bx7
    have o57 : Only (fun j => j = Lb ∨ B ≤ j) W2 w7 := (below_only (b1.trans (b5.mono b1.size))).next (ho7.mono (fun j _ e => .inr (hown j e).1))
    refine ⟨fun y => ?_, hT7, hS7, (cell_of_row _ _ 0 _ 22 (0, 0) bx7).trans rfl, frozen_of_row _ _ 0 _ 22 bx7, o57.next (o9.mono (fun j _ e => .inl e)), by simpa using s9, ?_⟩
    · obtain ⟨-, oy⟩ := set_one (i := 0) y bx7
      exact ⟨(World.cell?_of_block (oy.block Tb (by omega) (fun e => by have e' : Tb = Lb := e; omega))).trans hT7, fun i => (World.cell?_of_block (oy.block Sb (by omega) (fun e => by have e' : Sb = Lb := e; omega))).trans (hS7 i)⟩
    · exact hO7.only o9 (fun k hk e => by
        have := World.ownsRow.lt hO7 k hk
        have e' : k = Lb := e
        omega)
  have HE := hide ends
  have HO : Hid (∀ w5, Below W3.heap.size W3 w5 → Oe w5 B (.slice ao p.length cp) p) := hide (fun w5 b5 => hO3.below b5)
  have HN := hide hN
  have HNB := hide hp
  have HW3 := hide (And.intro hW3 hSb)
  have b0 : Below W3.heap.size W3 W3.drew := drew_below W3
  clear ends hO3 hO hbox htell hLb hTb hne hB hp hN hW3 r1 b1 hSb bx3 tb3 hS3 hown
  dsimp only [svT, sv]
  go_enter Tryz.func159, Tryz.ntmps159
  go_upto_region 1 with fail
  rw [← HW3.out.1, ← HW3.out.2]
  refine wp_region_held_drew (S := fun w' => w'.cell? ⟨Tb, 0, none⟩ = some (.func (.func 123) #[] #[]) ∧ w'.cell? ⟨Sb, 0, none⟩ = some (.int .i64 sg) ∧ w'.cell? ⟨Sb, 1, none⟩ = some (.int .i64 sr) ∧ w'.cell? ⟨Sb, 2, none⟩ = some (.string sl) ∧ w'.cell? ⟨Sb, 3, none⟩ = some (.int .i64 sn) ∧ w'.cell? ⟨Sb, 4, none⟩ = some (.int .i64 si)) (by kernel_rfl) qd (fun hHeld => ?_)
  clear qd
  try dsimp only at hHeld
  generalize W3.drew = Wd at hHeld lc b0 ⊢
  refine take_op (i := 1) (d := 8) (OP := Op.load 144 (Operand.tmp 3)) (T := 144) (v := ?vzg1) rfl rfl rfl rfl (by kernel_rfl) (by kernel_rfl) (by kernel_rfl) (fun _ _ _ h => h) (by rfl) ?hzg1 hHeld ?rzg1
  case hzg1 => (intro w' hSw; (try dsimp only at hSw); go_simp <;> with_reducible rfl)
  try simp only [Act.put, List.setIfInBounds_toArray, List.set_cons_zero, List.set_cons_succ]
  refine take_op (i := 2) (d := 9) (OP := Op.load 43 (Operand.tmp 4)) (T := 43) (v := ?vzg2) rfl rfl rfl rfl (by kernel_rfl) (by kernel_rfl) (by kernel_rfl) (fun _ _ _ h => h) (by rfl) ?hzg2 hHeld ?rzg2
  case hzg2 => (intro w' hSw; (try dsimp only at hSw); go_simp <;> with_reducible rfl)
  try simp only [Act.put, List.setIfInBounds_toArray, List.set_cons_zero, List.set_cons_succ]
  refine take_op (i := 3) (d := 10) (OP := Op.move (Operand.tmp 1)) (T := 9) (v := ?vzg3) rfl rfl rfl rfl (by kernel_rfl) (by kernel_rfl) (by kernel_rfl) (fun _ _ _ h => h) (by rfl) ?hzg3 hHeld ?rzg3
  case hzg3 => (intro w' hSw; (try dsimp only at hSw); go_simp <;> with_reducible rfl)
  try simp only [Act.put, List.setIfInBounds_toArray, List.set_cons_zero, List.set_cons_succ]
  refine load_call_op (i := 0) (di := 7) (OPi := Op.load 22 (Operand.tmp 2)) (Ti := 22) (j := 4) (dj := 11) (OPj := Op.call { callee := Callee.value (Operand.tmp 8), args := #[Operand.tmp 9, Operand.tmp 10], argTypes := #[43, 9] }) (Tj := 53) (f := 123) (args := #[.agg #[.int .i64 sg, .int .i64 sr, .string sl, .int .i64 sn, .int .i64 si], .string x]) (u := .slice ao N cp) rfl rfl rfl rfl rfl rfl rfl rfl (by kernel_rfl) (by rfl) (by rfl) (by go_simp) (by go_simp) hHeld ?_ ?_
  · try simp only [Act.put, List.setIfInBounds_toArray, List.set_cons_zero, List.set_cons_succ]
    refine call_op (i := 4) (d := 11) (OP := Op.call { callee := Callee.value (Operand.tmp 8), args := #[Operand.tmp 9, Operand.tmp 10], argTypes := #[43, 9] }) (T := 53) (f := 123) (args := #[.agg #[.int .i64 sg, .int .i64 sr, .string sl, .int .i64 sn, .int .i64 si], .string x]) rfl rfl rfl rfl (by kernel_rfl) (by rfl) (by go_simp) ?_
    refine (hT _).mono ?_
    rintro e z4 ⟨rfl, b4⟩
    have h4 : z4.cell? ⟨Tb, 0, none⟩ = some (.func (.func 123) #[] #[]) ∧ z4.cell? ⟨Sb, 0, none⟩ = some (.int .i64 sg) ∧ z4.cell? ⟨Sb, 1, none⟩ = some (.int .i64 sr) ∧ z4.cell? ⟨Sb, 2, none⟩ = some (.string sl) ∧ z4.cell? ⟨Sb, 3, none⟩ = some (.int .i64 sn) ∧ z4.cell? ⟨Sb, 4, none⟩ = some (.int .i64 si) := ⟨cell_stays hHeld.1 b4, cell_stays hHeld.2.1 b4, cell_stays hHeld.2.2.1 b4, cell_stays hHeld.2.2.2.1 b4, cell_stays hHeld.2.2.2.2.1 b4, cell_stays hHeld.2.2.2.2.2 b4⟩
    have lc4 := cell_stays lc b4
    have bb4 := b0.trans (b4.mono b0.size)
    refine ⟨_, rfl, h4, ?_⟩
    try simp only [Act.put, List.setIfInBounds_toArray, List.set_cons_zero, List.set_cons_succ]
    obtain ⟨z5, hz5⟩ : ∃ q, q = z4.alloc (.cells (encE ((sg, sr, sl, sn, si), x)).toArray 53) := ⟨_, rfl⟩
    have r5 := heap_alloc_new z4 (.cells (encE ((sg, sr, sl, sn, si), x)).toArray 53)
    rw [← hz5] at r5
    have b5 : Below z4.heap.size z4 z5 := by rw [hz5]; exact (Below.refl _ z4).alloc (Nat.le_refl _) _
    have h5 : z5.cell? ⟨Tb, 0, none⟩ = some (.func (.func 123) #[] #[]) ∧ z5.cell? ⟨Sb, 0, none⟩ = some (.int .i64 sg) ∧ z5.cell? ⟨Sb, 1, none⟩ = some (.int .i64 sr) ∧ z5.cell? ⟨Sb, 2, none⟩ = some (.string sl) ∧ z5.cell? ⟨Sb, 3, none⟩ = some (.int .i64 sn) ∧ z5.cell? ⟨Sb, 4, none⟩ = some (.int .i64 si) := ⟨cell_stays h4.1 b5, cell_stays h4.2.1 b5, cell_stays h4.2.2.1 b5, cell_stays h4.2.2.2.1 b5, cell_stays h4.2.2.2.2.1 b5, cell_stays h4.2.2.2.2.2 b5⟩
    have bz5 := bb4.trans (b5.mono bb4.size)
    have lc5 := cell_stays lc4 b5
    refine turn_op (i := 5) (d := 12) (OP := Op.buildSlice 22 1 #[(0, Operand.tmp 11)]) (T := 22) (v := .slice (some ⟨z4.heap.size, 0, none⟩) 1 1) (w' := z5) rfl rfl rfl rfl (by kernel_rfl) (by rfl) (by rw [hz5]; exact exec_bs53 rfl) h5 ?_
    try simp only [Act.put, List.setIfInBounds_toArray, List.set_cons_zero, List.set_cons_succ]
    obtain ⟨a', c', w7, hrun, hO7, ho7⟩ := push_Oe (y := ((sg, sr, sl, sn, si), x)) (HO.out z5 bz5) r5 (by rw [← HN.out]; have := HNB.out; omega) (by have := bz5.size; have := HS.out; omega)
    rw [← HN.out] at hrun hO7 ho7
    obtain ⟨e1, e2, e3, e4, e5, e6, e7⟩ := HE.out z5 a' c' w7 bz5 hO7 ho7
    refine turn_op (i := 6) (d := 13) (OP := Op.call { callee := Callee.builtin Builtin.append, args := #[Operand.tmp 7, Operand.tmp 12], argTypes := #[22, 22] }) (T := 22) (v := .slice a' (N + 1) c') (w' := w7) rfl rfl rfl rfl (by kernel_rfl) (by rfl) (exec_append rfl rfl hrun) ⟨e2.trans h5.1, (e3 0).trans h5.2.1, (e3 1).trans h5.2.2.1, (e3 2).trans h5.2.2.2.1, (e3 3).trans h5.2.2.2.2.1, (e3 4).trans h5.2.2.2.2.2⟩ ?_
    try simp only [Act.put, List.setIfInBounds_toArray, List.set_cons_zero, List.set_cons_succ]
    refine skip_op (i := 7) (OP := Op.store 22 (Operand.tmp 2) (Operand.tmp 13)) (T := 0) (w' := w7.setCell ⟨Lb, 0, none⟩ (.slice a' (N + 1) c')) rfl rfl rfl rfl (by kernel_rfl) (by rfl) (exec_st22 rfl rfl e4 e5) ⟨⟨((e1 _).1).trans h5.1, ((e1 _).2 0).trans h5.2.1, ((e1 _).2 1).trans h5.2.2.1, ((e1 _).2 2).trans h5.2.2.2.1, ((e1 _).2 3).trans h5.2.2.2.2.1, ((e1 _).2 4).trans h5.2.2.2.2.2⟩, ?_⟩
    try simp only [Act.put, List.setIfInBounds_toArray, List.set_cons_zero, List.set_cons_succ]
    refine wpAnyH_done (by kernel_rfl) ?_ _
    have HF := hide (And.intro e6 e7)
    clear e1 e2 e3 e4 e5 e6 e7 hrun hO7 ho7 h5 r5 bz5 HE HO hT lc
    go_wp2
    go_ret
    exact ⟨rfl, HF.out.1, _, _, HF.out.2⟩
  · skip
    refine (hT _).mono ?_
    rintro e z4 ⟨rfl, b4⟩
    have h4 : z4.cell? ⟨Tb, 0, none⟩ = some (.func (.func 123) #[] #[]) ∧ z4.cell? ⟨Sb, 0, none⟩ = some (.int .i64 sg) ∧ z4.cell? ⟨Sb, 1, none⟩ = some (.int .i64 sr) ∧ z4.cell? ⟨Sb, 2, none⟩ = some (.string sl) ∧ z4.cell? ⟨Sb, 3, none⟩ = some (.int .i64 sn) ∧ z4.cell? ⟨Sb, 4, none⟩ = some (.int .i64 si) := ⟨cell_stays hHeld.1 b4, cell_stays hHeld.2.1 b4, cell_stays hHeld.2.2.1 b4, cell_stays hHeld.2.2.2.1 b4, cell_stays hHeld.2.2.2.2.1 b4, cell_stays hHeld.2.2.2.2.2 b4⟩
    have lc4 := cell_stays lc b4
    have bb4 := b0.trans (b4.mono b0.size)
    refine ⟨_, rfl, h4, ?_⟩
    try simp only [Act.put, List.setIfInBounds_toArray, List.set_cons_zero, List.set_cons_succ]
    obtain ⟨z5, hz5⟩ : ∃ q, q = z4.alloc (.cells (encE ((sg, sr, sl, sn, si), x)).toArray 53) := ⟨_, rfl⟩
    have r5 := heap_alloc_new z4 (.cells (encE ((sg, sr, sl, sn, si), x)).toArray 53)
    rw [← hz5] at r5
    have b5 : Below z4.heap.size z4 z5 := by rw [hz5]; exact (Below.refl _ z4).alloc (Nat.le_refl _) _
    have h5 : z5.cell? ⟨Tb, 0, none⟩ = some (.func (.func 123) #[] #[]) ∧ z5.cell? ⟨Sb, 0, none⟩ = some (.int .i64 sg) ∧ z5.cell? ⟨Sb, 1, none⟩ = some (.int .i64 sr) ∧ z5.cell? ⟨Sb, 2, none⟩ = some (.string sl) ∧ z5.cell? ⟨Sb, 3, none⟩ = some (.int .i64 sn) ∧ z5.cell? ⟨Sb, 4, none⟩ = some (.int .i64 si) := ⟨cell_stays h4.1 b5, cell_stays h4.2.1 b5, cell_stays h4.2.2.1 b5, cell_stays h4.2.2.2.1 b5, cell_stays h4.2.2.2.2.1 b5, cell_stays h4.2.2.2.2.2 b5⟩
    have bz5 := bb4.trans (b5.mono bb4.size)
    have lc5 := cell_stays lc4 b5
    refine two_op (i := 0) (di := 7) (OPi := Op.load 22 (Operand.tmp 2)) (Ti := 22) (j := 5) (dj := 12) (OPj := Op.buildSlice 22 1 #[(0, Operand.tmp 11)]) (Tj := 22) (v := .slice ao N cp) (u := .slice (some ⟨z4.heap.size, 0, none⟩) 1 1) (w' := z5) rfl rfl rfl rfl rfl rfl rfl rfl (by kernel_rfl) (by rfl) (by rfl) (by go_simp) (by rw [hz5]; exact exec_bs53 rfl) h4 h5 ?_ ?_
    · try simp only [Act.put, List.setIfInBounds_toArray, List.set_cons_zero, List.set_cons_succ]
      refine turn_op (i := 5) (d := 12) (OP := Op.buildSlice 22 1 #[(0, Operand.tmp 11)]) (T := 22) (v := .slice (some ⟨z4.heap.size, 0, none⟩) 1 1) (w' := z5) rfl rfl rfl rfl (by kernel_rfl) (by rfl) (by rw [hz5]; exact exec_bs53 rfl) h5 ?_
      try simp only [Act.put, List.setIfInBounds_toArray, List.set_cons_zero, List.set_cons_succ]
      obtain ⟨a', c', w7, hrun, hO7, ho7⟩ := push_Oe (y := ((sg, sr, sl, sn, si), x)) (HO.out z5 bz5) r5 (by rw [← HN.out]; have := HNB.out; omega) (by have := bz5.size; have := HS.out; omega)
      rw [← HN.out] at hrun hO7 ho7
      obtain ⟨e1, e2, e3, e4, e5, e6, e7⟩ := HE.out z5 a' c' w7 bz5 hO7 ho7
      refine turn_op (i := 6) (d := 13) (OP := Op.call { callee := Callee.builtin Builtin.append, args := #[Operand.tmp 7, Operand.tmp 12], argTypes := #[22, 22] }) (T := 22) (v := .slice a' (N + 1) c') (w' := w7) rfl rfl rfl rfl (by kernel_rfl) (by rfl) (exec_append rfl rfl hrun) ⟨e2.trans h5.1, (e3 0).trans h5.2.1, (e3 1).trans h5.2.2.1, (e3 2).trans h5.2.2.2.1, (e3 3).trans h5.2.2.2.2.1, (e3 4).trans h5.2.2.2.2.2⟩ ?_
      try simp only [Act.put, List.setIfInBounds_toArray, List.set_cons_zero, List.set_cons_succ]
      refine skip_op (i := 7) (OP := Op.store 22 (Operand.tmp 2) (Operand.tmp 13)) (T := 0) (w' := w7.setCell ⟨Lb, 0, none⟩ (.slice a' (N + 1) c')) rfl rfl rfl rfl (by kernel_rfl) (by rfl) (exec_st22 rfl rfl e4 e5) ⟨⟨((e1 _).1).trans h5.1, ((e1 _).2 0).trans h5.2.1, ((e1 _).2 1).trans h5.2.2.1, ((e1 _).2 2).trans h5.2.2.2.1, ((e1 _).2 3).trans h5.2.2.2.2.1, ((e1 _).2 4).trans h5.2.2.2.2.2⟩, ?_⟩
      try simp only [Act.put, List.setIfInBounds_toArray, List.set_cons_zero, List.set_cons_succ]
      refine wpAnyH_done (by kernel_rfl) ?_ _
      have HF := hide (And.intro e6 e7)
      clear e1 e2 e3 e4 e5 e6 e7 hrun hO7 ho7 h5 r5 bz5 HE HO hT lc
      go_wp2
      go_ret
      exact ⟨rfl, HF.out.1, _, _, HF.out.2⟩
    · try simp only [Act.put, List.setIfInBounds_toArray, List.set_cons_zero, List.set_cons_succ]
      clear hz5
      refine turn_op (i := 0) (d := 7) (OP := Op.load 22 (Operand.tmp 2)) (T := 22) (v := .slice ao N cp) (w' := z5) rfl rfl rfl rfl (by kernel_rfl) (by rfl) (by go_simp) h5 ?_
      try simp only [Act.put, List.setIfInBounds_toArray, List.set_cons_zero, List.set_cons_succ]
      obtain ⟨a', c', w7, hrun, hO7, ho7⟩ := push_Oe (y := ((sg, sr, sl, sn, si), x)) (HO.out z5 bz5) r5 (by rw [← HN.out]; have := HNB.out; omega) (by have := bz5.size; have := HS.out; omega)
      rw [← HN.out] at hrun hO7 ho7
      obtain ⟨e1, e2, e3, e4, e5, e6, e7⟩ := HE.out z5 a' c' w7 bz5 hO7 ho7
      refine turn_op (i := 6) (d := 13) (OP := Op.call { callee := Callee.builtin Builtin.append, args := #[Operand.tmp 7, Operand.tmp 12], argTypes := #[22, 22] }) (T := 22) (v := .slice a' (N + 1) c') (w' := w7) rfl rfl rfl rfl (by kernel_rfl) (by rfl) (exec_append rfl rfl hrun) ⟨e2.trans h5.1, (e3 0).trans h5.2.1, (e3 1).trans h5.2.2.1, (e3 2).trans h5.2.2.2.1, (e3 3).trans h5.2.2.2.2.1, (e3 4).trans h5.2.2.2.2.2⟩ ?_
      try simp only [Act.put, List.setIfInBounds_toArray, List.set_cons_zero, List.set_cons_succ]
      refine skip_op (i := 7) (OP := Op.store 22 (Operand.tmp 2) (Operand.tmp 13)) (T := 0) (w' := w7.setCell ⟨Lb, 0, none⟩ (.slice a' (N + 1) c')) rfl rfl rfl rfl (by kernel_rfl) (by rfl) (exec_st22 rfl rfl e4 e5) ⟨⟨((e1 _).1).trans h5.1, ((e1 _).2 0).trans h5.2.1, ((e1 _).2 1).trans h5.2.2.1, ((e1 _).2 2).trans h5.2.2.2.1, ((e1 _).2 3).trans h5.2.2.2.2.1, ((e1 _).2 4).trans h5.2.2.2.2.2⟩, ?_⟩
      try simp only [Act.put, List.setIfInBounds_toArray, List.set_cons_zero, List.set_cons_succ]
      refine wpAnyH_done (by kernel_rfl) ?_ _
      have HF := hide (And.intro e6 e7)
      clear e1 e2 e3 e4 e5 e6 e7 hrun hO7 ho7 h5 r5 bz5 HE HO hT lc
      go_wp2
      go_ret
      exact ⟨rfl, HF.out.1, _, _, HF.out.2⟩
set_option maxHeartbeats 8000000 in
set_option maxRecDepth 100000 in
theorem gath160 {W2 : World} {Lb Tb B : Nat} {ao : Option Addr} {cp : Nat} (s : St) (x : ByteArray) (p : List ByteArray) (hbox : W2.heap[Lb]? = some (.cells #[.slice ao p.length cp] 63 (0, 0))) (htell : W2.heap[Tb]? = some (.cells #[.func (.func 125) #[] #[]] 146 (0, 0))) (hO : Ot W2 B (.slice ao p.length cp) p) (hLb : Lb < B) (hTb : Tb < B) (hne : Tb ≠ Lb) (hB : B ≤ W2.heap.size) (hp : p.length ≤ 100000) :
    Calls Tryz.prog 160 #[svT s, .string x, .pointer (some ⟨Lb, 0, none⟩), .pointer (some ⟨Tb, 0, none⟩)] W2 fun e W5 => e = .returned (.bool true) ∧ Only (fun j => j = Lb ∨ B ≤ j) W2 W5 ∧ ∃ a' c', W5.heap[Lb]? = some (.cells #[.slice a' (p.length + 1) c'] 63 (0, 0)) ∧ Ot W5 B (.slice a' (p.length + 1) c') (p ++ [x]) := by
  obtain ⟨sg, sr, sl, sn, si⟩ := s
  obtain ⟨N, hN⟩ : ∃ N, N = p.length := ⟨_, rfl⟩
  obtain ⟨W3, hW3⟩ : ∃ q, q = W2.alloc (.cells #[.int .i64 sg, .int .i64 sr, .string sl, .int .i64 sn, .int .i64 si] 43) := ⟨_, rfl⟩
  have r1 := heap_alloc_new W2 (.cells #[.int .i64 sg, .int .i64 sr, .string sl, .int .i64 sn, .int .i64 si] 43)
  have b1 : Below W2.heap.size W2 W3 := by rw [hW3]; exact (Below.refl _ W2).alloc (Nat.le_refl _) _
  rw [← hW3] at r1
  obtain ⟨Sb, hSb⟩ : ∃ q, q = W2.heap.size := ⟨_, rfl⟩
  rw [← hSb] at r1
  rw [← hN] at hp hbox ⊢
  have bx3 := (b1.block _ (Array.getElem?_eq_some_iff.1 hbox).1).trans hbox
  have tb3 := (b1.block _ (Array.getElem?_eq_some_iff.1 htell).1).trans htell
  have hS3 : Sb < W3.heap.size := (Array.getElem?_eq_some_iff.1 r1).1
  have hO3 := hO.below b1
  have HS : Hid (B ≤ Sb ∧ Sb < W3.heap.size ∧ Lb < B ∧ Tb < B ∧ Tb ≠ Lb ∧ B ≤ W3.heap.size) := hide ⟨by omega, hS3, hLb, hTb, hne, by have := b1.size; omega⟩
  have hown : ∀ k, (Value.slice ao N cp).ownBlock = some k → B ≤ k ∧ k < W2.heap.size := fun k hk => by rw [hN] at hk; exact World.ownsRow.lt hO k hk
  have qd : W3.drew.cell? ⟨Tb, 0, none⟩ = some (.func (.func 125) #[] #[]) ∧ W3.drew.cell? ⟨Sb, 0, none⟩ = some (.int .i64 sg) ∧ W3.drew.cell? ⟨Sb, 1, none⟩ = some (.int .i64 sr) ∧ W3.drew.cell? ⟨Sb, 2, none⟩ = some (.string sl) ∧ W3.drew.cell? ⟨Sb, 3, none⟩ = some (.int .i64 sn) ∧ W3.drew.cell? ⟨Sb, 4, none⟩ = some (.int .i64 si) := ⟨(cell_of_row W3.drew _ 0 _ 146 (0, 0) tb3).trans rfl, (cell_of_row W3.drew _ 0 _ 43 (0, 0) r1).trans rfl, (cell_of_row W3.drew _ 1 _ 43 (0, 0) r1).trans rfl, (cell_of_row W3.drew _ 2 _ 43 (0, 0) r1).trans rfl, (cell_of_row W3.drew _ 3 _ 43 (0, 0) r1).trans rfl, (cell_of_row W3.drew _ 4 _ 43 (0, 0) r1).trans rfl⟩
  have lc : W3.drew.cell? ⟨Lb, 0, none⟩ = some (.slice ao N cp) := (cell_of_row W3.drew _ 0 _ 63 (0, 0) bx3).trans rfl
  have hT := fun W' => tell125 (sg, sr, sl, sn, si) x W'
  dsimp only [svT] at hT
  have ends : ∀ w5 a' c' w7, Below W3.heap.size W3 w5 → Ot w7 B (.slice a' (N + 1) c') (p ++ [x]) → Only (fun k => (Value.slice ao N cp).ownBlock = some k) w5 w7 →
      (∀ y, (w7.setCell ⟨Lb, 0, none⟩ y).cell? ⟨Tb, 0, none⟩ = w5.cell? ⟨Tb, 0, none⟩ ∧ ∀ i, (w7.setCell ⟨Lb, 0, none⟩ y).cell? ⟨Sb, i, none⟩ = w5.cell? ⟨Sb, i, none⟩) ∧ w7.cell? ⟨Tb, 0, none⟩ = w5.cell? ⟨Tb, 0, none⟩ ∧ (∀ i, w7.cell? ⟨Sb, i, none⟩ = w5.cell? ⟨Sb, i, none⟩) ∧
      w7.cell? ⟨Lb, 0, none⟩ = some (.slice ao N cp) ∧ w7.frozen? ⟨Lb, 0, none⟩ = false ∧ Only (fun j => j = Lb ∨ B ≤ j) W2 (w7.setCell ⟨Lb, 0, none⟩ (.slice a' (N + 1) c')) ∧ (w7.setCell ⟨Lb, 0, none⟩ (.slice a' (N + 1) c')).heap[Lb]? = some (.cells #[.slice a' (N + 1) c'] 63 (0, 0)) ∧ Ot (w7.setCell ⟨Lb, 0, none⟩ (.slice a' (N + 1) c')) B (.slice a' (N + 1) c') (p ++ [x]) := fun w5 a' c' w7 b5 hO7 ho7 => by
    have hs := HS.out
    have hsz5 := b5.size
    have hsz7 := ho7.size
    have hlt3 := (Array.getElem?_eq_some_iff.1 bx3).1
    have hT7 : w7.cell? ⟨Tb, 0, none⟩ = w5.cell? ⟨Tb, 0, none⟩ := World.cell?_of_block (ho7.block Tb (by omega) (fun e => by have := hown Tb e; omega))
    have hS7 : ∀ i, w7.cell? ⟨Sb, i, none⟩ = w5.cell? ⟨Sb, i, none⟩ := fun i => World.cell?_of_block (ho7.block Sb (by omega) (fun e => by have := hown Sb e; omega))
    have bx5 := (b5.block _ hlt3).trans bx3
    have bx7 := (ho7.block Lb (by omega) (fun e => by have := hown Lb e; omega)).trans bx5
    obtain ⟨s9, o9⟩ := set_one (i := 0) (.slice a' (N + 1) c') bx7
    have o57 : Only (fun j => j = Lb ∨ B ≤ j) W2 w7 := (below_only (b1.trans (b5.mono b1.size))).next (ho7.mono (fun j _ e => .inr (hown j e).1))
    refine ⟨fun y => ?_, hT7, hS7, (cell_of_row _ _ 0 _ 63 (0, 0) bx7).trans rfl, frozen_of_row _ _ 0 _ 63 bx7, o57.next (o9.mono (fun j _ e => .inl e)), by simpa using s9, ?_⟩
    · obtain ⟨-, oy⟩ := set_one (i := 0) y bx7
      exact ⟨(World.cell?_of_block (oy.block Tb (by omega) (fun e => by have e' : Tb = Lb := e; omega))).trans hT7, fun i => (World.cell?_of_block (oy.block Sb (by omega) (fun e => by have e' : Sb = Lb := e; omega))).trans (hS7 i)⟩
    · exact hO7.only o9 (fun k hk e => by
        have := World.ownsRow.lt hO7 k hk
        have e' : k = Lb := e
        omega)
  have HE := hide ends
  have HO : Hid (∀ w5, Below W3.heap.size W3 w5 → Ot w5 B (.slice ao p.length cp) p) := hide (fun w5 b5 => hO3.below b5)
  have HN := hide hN
  have HNB := hide hp
  have HW3 := hide (And.intro hW3 hSb)
  have b0 : Below W3.heap.size W3 W3.drew := drew_below W3
  clear ends hO3 hO hbox htell hLb hTb hne hB hp hN hW3 r1 b1 hSb bx3 tb3 hS3 hown
  dsimp only [svT, sv]
  go_enter Tryz.func160, Tryz.ntmps160
  go_upto_region 1 with fail
  rw [← HW3.out.1, ← HW3.out.2]
  refine wp_region_held_drew (S := fun w' => w'.cell? ⟨Tb, 0, none⟩ = some (.func (.func 125) #[] #[]) ∧ w'.cell? ⟨Sb, 0, none⟩ = some (.int .i64 sg) ∧ w'.cell? ⟨Sb, 1, none⟩ = some (.int .i64 sr) ∧ w'.cell? ⟨Sb, 2, none⟩ = some (.string sl) ∧ w'.cell? ⟨Sb, 3, none⟩ = some (.int .i64 sn) ∧ w'.cell? ⟨Sb, 4, none⟩ = some (.int .i64 si)) (by kernel_rfl) qd (fun hHeld => ?_)
  clear qd
  try dsimp only at hHeld
  generalize W3.drew = Wd at hHeld lc b0 ⊢
  refine take_op (i := 1) (d := 8) (OP := Op.load 146 (Operand.tmp 3)) (T := 146) (v := ?vzg4) rfl rfl rfl rfl (by kernel_rfl) (by kernel_rfl) (by kernel_rfl) (fun _ _ _ h => h) (by rfl) ?hzg4 hHeld ?rzg4
  case hzg4 => (intro w' hSw; (try dsimp only at hSw); go_simp <;> with_reducible rfl)
  try simp only [Act.put, List.setIfInBounds_toArray, List.set_cons_zero, List.set_cons_succ]
  refine take_op (i := 2) (d := 9) (OP := Op.load 43 (Operand.tmp 4)) (T := 43) (v := ?vzg5) rfl rfl rfl rfl (by kernel_rfl) (by kernel_rfl) (by kernel_rfl) (fun _ _ _ h => h) (by rfl) ?hzg5 hHeld ?rzg5
  case hzg5 => (intro w' hSw; (try dsimp only at hSw); go_simp <;> with_reducible rfl)
  try simp only [Act.put, List.setIfInBounds_toArray, List.set_cons_zero, List.set_cons_succ]
  refine take_op (i := 3) (d := 10) (OP := Op.move (Operand.tmp 1)) (T := 9) (v := ?vzg6) rfl rfl rfl rfl (by kernel_rfl) (by kernel_rfl) (by kernel_rfl) (fun _ _ _ h => h) (by rfl) ?hzg6 hHeld ?rzg6
  case hzg6 => (intro w' hSw; (try dsimp only at hSw); go_simp <;> with_reducible rfl)
  try simp only [Act.put, List.setIfInBounds_toArray, List.set_cons_zero, List.set_cons_succ]
  refine load_call_op (i := 0) (di := 7) (OPi := Op.load 63 (Operand.tmp 2)) (Ti := 63) (j := 4) (dj := 11) (OPj := Op.call { callee := Callee.value (Operand.tmp 8), args := #[Operand.tmp 9, Operand.tmp 10], argTypes := #[43, 9] }) (Tj := 9) (f := 125) (args := #[.agg #[.int .i64 sg, .int .i64 sr, .string sl, .int .i64 sn, .int .i64 si], .string x]) (u := .slice ao N cp) rfl rfl rfl rfl rfl rfl rfl rfl (by kernel_rfl) (by rfl) (by rfl) (by go_simp) (by go_simp) hHeld ?_ ?_
  · try simp only [Act.put, List.setIfInBounds_toArray, List.set_cons_zero, List.set_cons_succ]
    refine call_op (i := 4) (d := 11) (OP := Op.call { callee := Callee.value (Operand.tmp 8), args := #[Operand.tmp 9, Operand.tmp 10], argTypes := #[43, 9] }) (T := 9) (f := 125) (args := #[.agg #[.int .i64 sg, .int .i64 sr, .string sl, .int .i64 sn, .int .i64 si], .string x]) rfl rfl rfl rfl (by kernel_rfl) (by rfl) (by go_simp) ?_
    refine (hT _).mono ?_
    rintro e z4 ⟨rfl, b4⟩
    have h4 : z4.cell? ⟨Tb, 0, none⟩ = some (.func (.func 125) #[] #[]) ∧ z4.cell? ⟨Sb, 0, none⟩ = some (.int .i64 sg) ∧ z4.cell? ⟨Sb, 1, none⟩ = some (.int .i64 sr) ∧ z4.cell? ⟨Sb, 2, none⟩ = some (.string sl) ∧ z4.cell? ⟨Sb, 3, none⟩ = some (.int .i64 sn) ∧ z4.cell? ⟨Sb, 4, none⟩ = some (.int .i64 si) := ⟨cell_stays hHeld.1 b4, cell_stays hHeld.2.1 b4, cell_stays hHeld.2.2.1 b4, cell_stays hHeld.2.2.2.1 b4, cell_stays hHeld.2.2.2.2.1 b4, cell_stays hHeld.2.2.2.2.2 b4⟩
    have lc4 := cell_stays lc b4
    have bb4 := b0.trans (b4.mono b0.size)
    refine ⟨_, rfl, h4, ?_⟩
    try simp only [Act.put, List.setIfInBounds_toArray, List.set_cons_zero, List.set_cons_succ]
    obtain ⟨z5, hz5⟩ : ∃ q, q = z4.alloc (.cells #[.string x] 9) := ⟨_, rfl⟩
    have r5 := heap_alloc_new z4 (.cells #[.string x] 9)
    rw [← hz5] at r5
    have b5 : Below z4.heap.size z4 z5 := by rw [hz5]; exact (Below.refl _ z4).alloc (Nat.le_refl _) _
    have h5 : z5.cell? ⟨Tb, 0, none⟩ = some (.func (.func 125) #[] #[]) ∧ z5.cell? ⟨Sb, 0, none⟩ = some (.int .i64 sg) ∧ z5.cell? ⟨Sb, 1, none⟩ = some (.int .i64 sr) ∧ z5.cell? ⟨Sb, 2, none⟩ = some (.string sl) ∧ z5.cell? ⟨Sb, 3, none⟩ = some (.int .i64 sn) ∧ z5.cell? ⟨Sb, 4, none⟩ = some (.int .i64 si) := ⟨cell_stays h4.1 b5, cell_stays h4.2.1 b5, cell_stays h4.2.2.1 b5, cell_stays h4.2.2.2.1 b5, cell_stays h4.2.2.2.2.1 b5, cell_stays h4.2.2.2.2.2 b5⟩
    have bz5 := bb4.trans (b5.mono bb4.size)
    have lc5 := cell_stays lc4 b5
    refine turn_op (i := 5) (d := 12) (OP := Op.buildSlice 63 1 #[(0, Operand.tmp 11)]) (T := 63) (v := .slice (some ⟨z4.heap.size, 0, none⟩) 1 1) (w' := z5) rfl rfl rfl rfl (by kernel_rfl) (by rfl) (by rw [hz5]; exact exec_bs9 rfl) h5 ?_
    try simp only [Act.put, List.setIfInBounds_toArray, List.set_cons_zero, List.set_cons_succ]
    obtain ⟨a', c', w7, hrun, hO7, ho7⟩ := push_Ot (y := x) (HO.out z5 bz5) r5 (by rw [← HN.out]; have := HNB.out; omega) (by have := bz5.size; have := HS.out; omega)
    rw [← HN.out] at hrun hO7 ho7
    obtain ⟨e1, e2, e3, e4, e5, e6, e7⟩ := HE.out z5 a' c' w7 bz5 hO7 ho7
    refine turn_op (i := 6) (d := 13) (OP := Op.call { callee := Callee.builtin Builtin.append, args := #[Operand.tmp 7, Operand.tmp 12], argTypes := #[63, 63] }) (T := 63) (v := .slice a' (N + 1) c') (w' := w7) rfl rfl rfl rfl (by kernel_rfl) (by rfl) (exec_append rfl rfl hrun) ⟨e2.trans h5.1, (e3 0).trans h5.2.1, (e3 1).trans h5.2.2.1, (e3 2).trans h5.2.2.2.1, (e3 3).trans h5.2.2.2.2.1, (e3 4).trans h5.2.2.2.2.2⟩ ?_
    try simp only [Act.put, List.setIfInBounds_toArray, List.set_cons_zero, List.set_cons_succ]
    refine skip_op (i := 7) (OP := Op.store 63 (Operand.tmp 2) (Operand.tmp 13)) (T := 0) (w' := w7.setCell ⟨Lb, 0, none⟩ (.slice a' (N + 1) c')) rfl rfl rfl rfl (by kernel_rfl) (by rfl) (exec_st63 rfl rfl e4 e5) ⟨⟨((e1 _).1).trans h5.1, ((e1 _).2 0).trans h5.2.1, ((e1 _).2 1).trans h5.2.2.1, ((e1 _).2 2).trans h5.2.2.2.1, ((e1 _).2 3).trans h5.2.2.2.2.1, ((e1 _).2 4).trans h5.2.2.2.2.2⟩, ?_⟩
    try simp only [Act.put, List.setIfInBounds_toArray, List.set_cons_zero, List.set_cons_succ]
    refine wpAnyH_done (by kernel_rfl) ?_ _
    have HF := hide (And.intro e6 e7)
    clear e1 e2 e3 e4 e5 e6 e7 hrun hO7 ho7 h5 r5 bz5 HE HO hT lc
    go_wp2
    go_ret
    exact ⟨rfl, HF.out.1, _, _, HF.out.2⟩
  · skip
    refine (hT _).mono ?_
    rintro e z4 ⟨rfl, b4⟩
    have h4 : z4.cell? ⟨Tb, 0, none⟩ = some (.func (.func 125) #[] #[]) ∧ z4.cell? ⟨Sb, 0, none⟩ = some (.int .i64 sg) ∧ z4.cell? ⟨Sb, 1, none⟩ = some (.int .i64 sr) ∧ z4.cell? ⟨Sb, 2, none⟩ = some (.string sl) ∧ z4.cell? ⟨Sb, 3, none⟩ = some (.int .i64 sn) ∧ z4.cell? ⟨Sb, 4, none⟩ = some (.int .i64 si) := ⟨cell_stays hHeld.1 b4, cell_stays hHeld.2.1 b4, cell_stays hHeld.2.2.1 b4, cell_stays hHeld.2.2.2.1 b4, cell_stays hHeld.2.2.2.2.1 b4, cell_stays hHeld.2.2.2.2.2 b4⟩
    have lc4 := cell_stays lc b4
    have bb4 := b0.trans (b4.mono b0.size)
    refine ⟨_, rfl, h4, ?_⟩
    try simp only [Act.put, List.setIfInBounds_toArray, List.set_cons_zero, List.set_cons_succ]
    obtain ⟨z5, hz5⟩ : ∃ q, q = z4.alloc (.cells #[.string x] 9) := ⟨_, rfl⟩
    have r5 := heap_alloc_new z4 (.cells #[.string x] 9)
    rw [← hz5] at r5
    have b5 : Below z4.heap.size z4 z5 := by rw [hz5]; exact (Below.refl _ z4).alloc (Nat.le_refl _) _
    have h5 : z5.cell? ⟨Tb, 0, none⟩ = some (.func (.func 125) #[] #[]) ∧ z5.cell? ⟨Sb, 0, none⟩ = some (.int .i64 sg) ∧ z5.cell? ⟨Sb, 1, none⟩ = some (.int .i64 sr) ∧ z5.cell? ⟨Sb, 2, none⟩ = some (.string sl) ∧ z5.cell? ⟨Sb, 3, none⟩ = some (.int .i64 sn) ∧ z5.cell? ⟨Sb, 4, none⟩ = some (.int .i64 si) := ⟨cell_stays h4.1 b5, cell_stays h4.2.1 b5, cell_stays h4.2.2.1 b5, cell_stays h4.2.2.2.1 b5, cell_stays h4.2.2.2.2.1 b5, cell_stays h4.2.2.2.2.2 b5⟩
    have bz5 := bb4.trans (b5.mono bb4.size)
    have lc5 := cell_stays lc4 b5
    refine two_op (i := 0) (di := 7) (OPi := Op.load 63 (Operand.tmp 2)) (Ti := 63) (j := 5) (dj := 12) (OPj := Op.buildSlice 63 1 #[(0, Operand.tmp 11)]) (Tj := 63) (v := .slice ao N cp) (u := .slice (some ⟨z4.heap.size, 0, none⟩) 1 1) (w' := z5) rfl rfl rfl rfl rfl rfl rfl rfl (by kernel_rfl) (by rfl) (by rfl) (by go_simp) (by rw [hz5]; exact exec_bs9 rfl) h4 h5 ?_ ?_
    · try simp only [Act.put, List.setIfInBounds_toArray, List.set_cons_zero, List.set_cons_succ]
      refine turn_op (i := 5) (d := 12) (OP := Op.buildSlice 63 1 #[(0, Operand.tmp 11)]) (T := 63) (v := .slice (some ⟨z4.heap.size, 0, none⟩) 1 1) (w' := z5) rfl rfl rfl rfl (by kernel_rfl) (by rfl) (by rw [hz5]; exact exec_bs9 rfl) h5 ?_
      try simp only [Act.put, List.setIfInBounds_toArray, List.set_cons_zero, List.set_cons_succ]
      obtain ⟨a', c', w7, hrun, hO7, ho7⟩ := push_Ot (y := x) (HO.out z5 bz5) r5 (by rw [← HN.out]; have := HNB.out; omega) (by have := bz5.size; have := HS.out; omega)
      rw [← HN.out] at hrun hO7 ho7
      obtain ⟨e1, e2, e3, e4, e5, e6, e7⟩ := HE.out z5 a' c' w7 bz5 hO7 ho7
      refine turn_op (i := 6) (d := 13) (OP := Op.call { callee := Callee.builtin Builtin.append, args := #[Operand.tmp 7, Operand.tmp 12], argTypes := #[63, 63] }) (T := 63) (v := .slice a' (N + 1) c') (w' := w7) rfl rfl rfl rfl (by kernel_rfl) (by rfl) (exec_append rfl rfl hrun) ⟨e2.trans h5.1, (e3 0).trans h5.2.1, (e3 1).trans h5.2.2.1, (e3 2).trans h5.2.2.2.1, (e3 3).trans h5.2.2.2.2.1, (e3 4).trans h5.2.2.2.2.2⟩ ?_
      try simp only [Act.put, List.setIfInBounds_toArray, List.set_cons_zero, List.set_cons_succ]
      refine skip_op (i := 7) (OP := Op.store 63 (Operand.tmp 2) (Operand.tmp 13)) (T := 0) (w' := w7.setCell ⟨Lb, 0, none⟩ (.slice a' (N + 1) c')) rfl rfl rfl rfl (by kernel_rfl) (by rfl) (exec_st63 rfl rfl e4 e5) ⟨⟨((e1 _).1).trans h5.1, ((e1 _).2 0).trans h5.2.1, ((e1 _).2 1).trans h5.2.2.1, ((e1 _).2 2).trans h5.2.2.2.1, ((e1 _).2 3).trans h5.2.2.2.2.1, ((e1 _).2 4).trans h5.2.2.2.2.2⟩, ?_⟩
      try simp only [Act.put, List.setIfInBounds_toArray, List.set_cons_zero, List.set_cons_succ]
      refine wpAnyH_done (by kernel_rfl) ?_ _
      have HF := hide (And.intro e6 e7)
      clear e1 e2 e3 e4 e5 e6 e7 hrun hO7 ho7 h5 r5 bz5 HE HO hT lc
      go_wp2
      go_ret
      exact ⟨rfl, HF.out.1, _, _, HF.out.2⟩
    · try simp only [Act.put, List.setIfInBounds_toArray, List.set_cons_zero, List.set_cons_succ]
      clear hz5
      refine turn_op (i := 0) (d := 7) (OP := Op.load 63 (Operand.tmp 2)) (T := 63) (v := .slice ao N cp) (w' := z5) rfl rfl rfl rfl (by kernel_rfl) (by rfl) (by go_simp) h5 ?_
      try simp only [Act.put, List.setIfInBounds_toArray, List.set_cons_zero, List.set_cons_succ]
      obtain ⟨a', c', w7, hrun, hO7, ho7⟩ := push_Ot (y := x) (HO.out z5 bz5) r5 (by rw [← HN.out]; have := HNB.out; omega) (by have := bz5.size; have := HS.out; omega)
      rw [← HN.out] at hrun hO7 ho7
      obtain ⟨e1, e2, e3, e4, e5, e6, e7⟩ := HE.out z5 a' c' w7 bz5 hO7 ho7
      refine turn_op (i := 6) (d := 13) (OP := Op.call { callee := Callee.builtin Builtin.append, args := #[Operand.tmp 7, Operand.tmp 12], argTypes := #[63, 63] }) (T := 63) (v := .slice a' (N + 1) c') (w' := w7) rfl rfl rfl rfl (by kernel_rfl) (by rfl) (exec_append rfl rfl hrun) ⟨e2.trans h5.1, (e3 0).trans h5.2.1, (e3 1).trans h5.2.2.1, (e3 2).trans h5.2.2.2.1, (e3 3).trans h5.2.2.2.2.1, (e3 4).trans h5.2.2.2.2.2⟩ ?_
      try simp only [Act.put, List.setIfInBounds_toArray, List.set_cons_zero, List.set_cons_succ]
      refine skip_op (i := 7) (OP := Op.store 63 (Operand.tmp 2) (Operand.tmp 13)) (T := 0) (w' := w7.setCell ⟨Lb, 0, none⟩ (.slice a' (N + 1) c')) rfl rfl rfl rfl (by kernel_rfl) (by rfl) (exec_st63 rfl rfl e4 e5) ⟨⟨((e1 _).1).trans h5.1, ((e1 _).2 0).trans h5.2.1, ((e1 _).2 1).trans h5.2.2.1, ((e1 _).2 2).trans h5.2.2.2.1, ((e1 _).2 3).trans h5.2.2.2.2.1, ((e1 _).2 4).trans h5.2.2.2.2.2⟩, ?_⟩
      try simp only [Act.put, List.setIfInBounds_toArray, List.set_cons_zero, List.set_cons_succ]
      refine wpAnyH_done (by kernel_rfl) ?_ _
      have HF := hide (And.intro e6 e7)
      clear e1 e2 e3 e4 e5 e6 e7 hrun hO7 ho7 h5 r5 bz5 HE HO hT lc
      go_wp2
      go_ret
      exact ⟨rfl, HF.out.1, _, _, HF.out.2⟩
end Go.Proofs.YtkeldhohilmdcaaGreat.Qu
namespace Go.Proofs.YtkeldhohilmdcaaGreat.Qu
open Go.RowKit Go.Shelf
set_option linter.unusedSimpArgs false
attribute [local go_sem] Oper.semAt_some

set_option maxHeartbeats 8000000 in
set_option maxRecDepth 100000 in
theorem gathQ122 (t : Pm.T) (w : World) (ht : Pm.In w t) (hs : Pm.Srt t.list) (hk : ∀ x ∈ t.list, x.1.size ≤ 9223372036854775807) (hn : t.n ≤ 100000) :
    Calls Tryz.prog 122 #[Pm.mv t, .func (.func 123) #[] #[]] w fun e w' => ∃ ao c, e = .returned (.tuple #[.slice ao (elsL t.list).length c, .int .i64 (if mayL t.list then 0 else 2)]) ∧ Oe w' w.heap.size (.slice ao (elsL t.list).length c) (elsL t.list) ∧ Below w.heap.size w w' := by
  obtain ⟨a, ha⟩ := t.ptr_shape
  obtain ⟨w1, hw1⟩ : ∃ w1, w1 = ((w.alloc (.cells #[.pointer a] 27)).alloc (.cells #[.func (.func 123) #[] #[]] 144)).alloc (.cells #[.slice none 0 0] 22) := ⟨_, rfl⟩
  obtain ⟨m0, m1, m2, b1⟩ := new3r w (.cells #[.pointer a] 27) (.cells #[.func (.func 123) #[] #[]] 144) (.cells #[.slice none 0 0] 22)
  rw [← hw1] at m0 m1 m2 b1
  have s1 : w1.heap.size = w.heap.size + 3 := by rw [hw1]; simp
  have hAll := rAll_any t w1
  obtain ⟨wA, hwA⟩ : ∃ wA, wA = w1.alloc (.cells #[t.ptr] 27) := ⟨_, rfl⟩
  rw [← hwA] at hAll
  have sA : wA.heap.size = w1.heap.size + 1 := by rw [hwA]; simp
  have bA : Below w1.heap.size w1 wA := by rw [hwA]; exact (Below.refl _ w1).alloc (Nat.le_refl _) _
  have bWA : Below w.heap.size w wA := b1.trans (bA.mono b1.size)
  have cL : wA.cell? ⟨w1.heap.size, 0, none⟩ = some t.ptr := by rw [hwA]; exact (cell_of_row _ _ 0 _ 27 (0, 0) (heap_alloc_new w1 _)).trans rfl
  have iA : Pm.In wA t := Pm.In.below bWA ht
  obtain ⟨Tb, hT0⟩ : ∃ q, q = w.heap.size + 1 := ⟨_, rfl⟩
  obtain ⟨Lb, hLb⟩ : ∃ q, q = w.heap.size + 1 + 1 := ⟨_, rfl⟩
  obtain ⟨Mb, hMb⟩ : ∃ q, q = w.heap.size := ⟨_, rfl⟩
  have hit := iterC159 t w1.heap.size Lb Tb wA iA hs hk cL
  obtain ⟨xs, hxs⟩ : ∃ xs, xs = elsL t.list := ⟨_, rfl⟩
  rw [← hxs] at hit ⊢
  have hxl : xs.length ≤ 100000 := by
    rw [hxs, elsL]
    split
    · rw [elsM, List.length_map, Pm.T.n_eq]; exact hn
    · simp
  have m0A : wA.heap[Mb]? = some (.cells #[.pointer a] 27 (0, 0)) := by rw [hMb]; exact (bA.block _ (by omega)).trans m0
  have m1A : wA.heap[Tb]? = some (.cells #[.func (.func 123) #[] #[]] 144 (0, 0)) := by rw [hT0]; exact (bA.block _ (by omega)).trans m1
  have m2A : wA.heap[Lb]? = some (.cells #[.slice none 0 0] 22 (0, 0)) := by rw [hLb]; exact (bA.block _ (by omega)).trans m2
  have HZ : Hid (wA.heap.size = w.heap.size + 4 ∧ Mb = w.heap.size ∧ Tb = w.heap.size + 1 ∧ Lb = w.heap.size + 2 ∧ w1.heap.size = w.heap.size + 3) := hide ⟨by omega, hMb, hT0, hLb, s1⟩
  have hKlt : ∀ j, KA t w1.heap.size j → j < wA.heap.size ∧ j ≠ Lb := fun j hj => by
    rcases hj with rfl | hj
    · omega
    · have := ht.blk_lt hj; omega
  have hgo := hit (fun j => j = Lb) (fun B k W => k ≤ xs.length ∧ GIE wA Lb B ((xs.take k)) W) wA (fun j _ => rfl) (Nat.le_refl _) (fun j e hj => (hKlt j hj).2 e) (fun j e => by have := HZ.out; have e' : j = Lb := e; omega)
    (fun B c W1 W2 hB hi ho => by
      obtain ⟨h1, h2⟩ := hi
      obtain ⟨ao, c', hb, hO⟩ := h2.box
      have hz := HZ.out
      exact ⟨h1, h2.only.trans ho (fun j hj e => by have e' : wA.heap.size ≤ j ∧ j < B := e; omega), ao, c', (ho.block _ (Array.getElem?_eq_some_iff.1 hb).1 (fun e => by have e' : wA.heap.size ≤ Lb ∧ Lb < B := e; omega)).trans hb, hO.only ho (fun k hk e => by have := World.ownsRow.lt hO k hk; have e' : wA.heap.size ≤ k ∧ k < B := e; omega)⟩)
    (fun B c x W1 hB hx hi _ hsz => by
      obtain ⟨h1, h2⟩ := hi
      obtain ⟨ao, c', hb, hO⟩ := h2.box
      have hz := HZ.out
      have htk : (xs.take (c + 1)) = (xs.take c) ++ [x] := by rw [List.take_add_one, hx]; rfl
      have tb := (h2.only.block _ (Array.getElem?_eq_some_iff.1 m1A).1 (fun e => by have e' : Tb = Lb ∨ B ≤ Tb := e; omega)).trans m1A
      refine (gath159 x.1 x.2 _ hb tb hO (by omega) (by omega) (by omega) hsz (by simp; omega)).mono ?_
      rintro e W5 ⟨he, ho, a', c2, hb5, hO5⟩
      refine ⟨he, ho, by have := (List.getElem?_eq_some_iff.1 hx).1; omega, h2.only.next ho, a', c2, ?_, ?_⟩
      · rw [htk, List.length_append, List.length_singleton]; exact hb5
      · rw [htk, List.length_append, List.length_singleton]; exact hO5)
    (fun B W1 hb hB => by
      have hz := HZ.out
      refine ⟨Nat.zero_le _, below_only hb, none, 0, ?_, ?_⟩
      · simp only [List.take_zero, List.map_nil, List.length_nil]
        exact (hb.block _ (by omega)).trans m2A
      · simp only [List.take_zero, List.map_nil, List.length_nil]
        exact Oe.nil _ _)
  obtain ⟨ec, hec⟩ : ∃ ec : Int, ec = (if mayL t.list then 0 else 2) := ⟨_, rfl⟩
  rw [← hec]
  have HEC := hide hec
  clear hec
  obtain ⟨pl, hpl⟩ : ∃ pl, pl = xs := ⟨_, rfl⟩
  rw [← hpl]
  have HPL := hide hpl
  have HB : Hid (Below w.heap.size w wA ∧ Pm.In w t ∧ t.n ≤ 100000 ∧ xs = elsL t.list ∧ wA.heap[Mb]? = some (.cells #[.pointer a] 27 (0, 0))) := hide ⟨bWA, ht, hn, hxs, m0A⟩
  have HP := hide ha
  have HW1 := hide hw1
  have HM := hide (And.intro hMb (And.intro hT0 hLb))
  have HXL := hide hxl
  unfold Pm.mv at hAll ⊢
  rw [ha] at hAll ⊢
  have c0 : w1.cell? ⟨Mb, 0, none⟩ = some (.pointer a) := by rw [hMb]; exact (cell_of_row _ _ 0 _ 27 (0, 0) m0).trans rfl
  clear m0 m1 m2 b1 s1 sA bA bWA cL iA hw1 hwA hMb hT0 hLb ht hs hk hn hxs ha hit hKlt m0A m1A m2A hpl hxl
  go_enter Tryz.func122, Tryz.ntmps122
  go_upto_region 3 with fail
  rw [← HW1.out]
  rw [← HM.out.2.2, ← HM.out.2.1, ← HM.out.1]
  go_upto_region 4 with (first
    | (go_at_call 77; refine hAll.mono ?_; rintro e w' ⟨rfl, hw'⟩; obtain rfl : wA = w' := hw'.symm; clear hw'; dsimp only)
    | (go_at_call 126; refine hgo.mono ?_; rintro e W ⟨⟨vv, rfl⟩, B, hB, hle, hi⟩; have HI := hide (And.intro hB hi); clear hB hle hi; dsimp only))
  obtain ⟨hB, hi⟩ := HI.out
  rw [List.take_length, ← HPL.out] at hi
  obtain ⟨ao, c, hbx, hO⟩ := hi.box
  have lc : W.cell? ⟨Lb, 0, none⟩ = some (.slice ao (pl).length c) := (cell_of_row _ _ 0 _ 22 (0, 0) hbx).trans rfl
  obtain ⟨bw, iw, hn, hxs, m0A⟩ := HB.out
  have mb := (hi.only.block _ (by have := HZ.out; omega) (fun e => by have := HZ.out; have e' : Mb = Lb ∨ B ≤ Mb := e; omega)).trans m0A
  have mc : W.cell? ⟨Mb, 0, none⟩ = some (.pointer a) := (cell_of_row _ _ 0 _ 27 (0, 0) mb).trans rfl
  have iW : Pm.In W t := Pm.In.only hi.only (Pm.In.below bw iw) (fun p hp hd he => by
    have hblk : p < w.heap.size := iw.blk_lt (j := p) he
    have := HZ.out
    have hd' : p = Lb ∨ B ≤ p := hd
    omega)
  have bW : Below w.heap.size w W := Below.only bw hi.only bw.size (fun j e => by have := HZ.out; have e' : j = Lb ∨ B ≤ j := e; omega)
  have hlen : ∀ W', Below W.heap.size W W' → Calls Tryz.prog 17 #[.agg #[.pointer a]] W' fun e w' => e = .returned (.int .i64 (t.n : Nat)) ∧ Below W'.heap.size W' w' := fun W' hW => by
    have := Pm.mLen_any t W' (Pm.In.below hW iW)
    unfold Pm.mv at this
    rw [HP.out] at this
    exact this
  have hcmp : (mayL t.list = true ∧ (pl).length = t.n) ∨ (mayL t.list = false ∧ (pl).length = 0 ∧ 0 < t.n ∧ pl = []) := by
    by_cases hm : mayL t.list = true
    · left
      refine ⟨hm, ?_⟩
      rw [HPL.out, hxs, elsL, if_pos hm]
      simp [elsM, Pm.T.n_eq]
    · right
      have hm' : mayL t.list = false := by simpa using hm
      refine ⟨hm', ?_, ?_, ?_⟩
      · rw [HPL.out]; simp [hxs, elsL, hm]
      · rcases Nat.eq_zero_or_pos t.n with h0 | h0
        · exfalso
          rw [← Pm.T.n_eq, List.length_eq_zero_iff] at h0
          rw [h0] at hm'
          cases hm'
        · exact h0
      · rw [HPL.out]; simp [hxs, elsL, hm]
  have hlow : w.heap.size ≤ B := by have := HZ.out; omega
  have HF : Hid (∀ W', Below W.heap.size W W' → Oe W' w.heap.size (.slice ao (pl).length c) (pl) ∧ Below w.heap.size w W') := hide (fun W' hW => ⟨(hO.below hW).lift hlow, bW.trans (hW.mono bW.size)⟩)
  have qd : W.drew.cell? ⟨Lb, 0, none⟩ = some (.slice ao (pl).length c) ∧ W.drew.cell? ⟨Mb, 0, none⟩ = some (.pointer a) ∧ Hid (Below W.heap.size W W.drew) := ⟨lc, mc, hide (drew_below W)⟩
  clear hi hbx hO lc mb mc bw iw hn hxs iW bW hlow m0A hB hgo hAll c0
  obtain ⟨N, hN⟩ : ∃ N, N = (pl).length := ⟨_, rfl⟩
  rw [← hN] at hcmp qd
  have HN := hide hN
  rw [← hN] at HF
  clear hN
  refine wp_region_held_drew (S := fun w' => w'.cell? ⟨Lb, 0, none⟩ = some (.slice ao N c) ∧ w'.cell? ⟨Mb, 0, none⟩ = some (.pointer a) ∧ Hid (Below W.heap.size W w')) (by kernel_rfl) qd (fun hHeld => ?_)
  clear qd
  refine take_op (i := 0) (d := 13) (OP := Op.load 22 (Operand.tmp 6)) (T := 22) (v := ?vzz1) rfl rfl rfl rfl (by kernel_rfl) (by kernel_rfl) (by kernel_rfl) (fun _ _ _ h => h) (by rfl) ?hzz1 hHeld ?rzz1
  case hzz1 => (intro w' hSw; (try dsimp only at hSw); go_simp <;> with_reducible rfl)
  try simp only [Act.put, List.setIfInBounds_toArray, List.set_cons_zero, List.set_cons_succ]
  refine take_op (i := 1) (d := 14) (OP := Op.call { callee := Callee.builtin Builtin.len, args := #[Operand.tmp 13], argTypes := #[22] }) (T := 3) (v := ?vzz2) rfl rfl rfl rfl (by kernel_rfl) (by kernel_rfl) (by kernel_rfl) (fun _ _ _ h => h) (by rfl) ?hzz2 hHeld ?rzz2
  case hzz2 => (intro w' hSw; (try dsimp only at hSw); go_simp <;> with_reducible rfl)
  try simp only [Act.put, List.setIfInBounds_toArray, List.set_cons_zero, List.set_cons_succ]
  refine take_op (i := 2) (d := 15) (OP := Op.load 27 (Operand.tmp 2)) (T := 27) (v := ?vzz3) rfl rfl rfl rfl (by kernel_rfl) (by kernel_rfl) (by kernel_rfl) (fun _ _ _ h => h) (by rfl) ?hzz3 hHeld ?rzz3
  case hzz3 => (intro w' hSw; (try dsimp only at hSw); go_simp <;> with_reducible rfl)
  try simp only [Act.put, List.setIfInBounds_toArray, List.set_cons_zero, List.set_cons_succ]
  refine call_op (i := 3) (d := 16) (OP := Op.call { callee := Callee.value (Operand.func 17), args := #[Operand.tmp 15], argTypes := #[27] }) (T := 3) (f := 17) (args := #[.agg #[.pointer a]]) rfl rfl rfl rfl (by kernel_rfl) (by rfl) (by go_simp) ?_
  refine (hlen _ hHeld.2.2.out).mono ?_
  rintro e z1 ⟨rfl, bz⟩
  have qz : z1.cell? ⟨Lb, 0, none⟩ = some (.slice ao N c) ∧ z1.cell? ⟨Mb, 0, none⟩ = some (.pointer a) ∧ Hid (Below W.heap.size W z1) := ⟨cell_stays hHeld.1 bz, cell_stays hHeld.2.1 bz, hide (hHeld.2.2.out.trans (bz.mono hHeld.2.2.out.size))⟩
  refine ⟨_, rfl, qz, ?_⟩
  clear bz
  replace hHeld := qz
  clear qz
  try simp only [Act.put, List.setIfInBounds_toArray, List.set_cons_zero, List.set_cons_succ]
  refine take_op (i := 4) (d := 17) (OP := Op.binOp BinOp.lss 3 (Operand.tmp 14) (Operand.tmp 16) 3) (T := 4) (v := ?vzz4) rfl rfl rfl rfl (by kernel_rfl) (by kernel_rfl) (by kernel_rfl) (fun _ _ _ h => h) (by rfl) ?hzz4 hHeld ?rzz4
  case hzz4 => (intro w' hSw; (try dsimp only at hSw); go_simp <;> with_reducible rfl)
  try simp only [Act.put, List.setIfInBounds_toArray, List.set_cons_zero, List.set_cons_succ]
  refine wpAnyH_done (by kernel_rfl) ?_ _
  obtain ⟨lz, -, HBZ⟩ := hHeld
  clear hlen
  rcases hcmp with ⟨hm, hNn⟩ | ⟨hm, hN0, hn0, hnil⟩
  · have d1 : decide ((N : Int) < (t.n : Int)) = false := by simp; omega
    have d2 : ¬ (N : Int) < (t.n : Int) := by omega
    have HX := hide hm
    clear hm hNn
    go_wp2
    go_ret2
    exact ⟨ao, c, by rw [HEC.out, HX.out, ← HN.out]; rfl, by rw [← HN.out]; exact HF.out z1 HBZ.out⟩
  · have d1 : decide ((N : Int) < (t.n : Int)) = true := by simp; omega
    have d2 : (N : Int) < (t.n : Int) := by omega
    have HX := hide (And.intro hm (And.intro hnil hN0))
    clear hm hN0 hn0 hnil
    go_wp2
    go_ret2
    refine ⟨none, 0, by rw [HEC.out, HX.out.1, ← HN.out, HX.out.2.2]; rfl, ?_, (HF.out z1 HBZ.out).2⟩
    rw [← HN.out, HX.out.2.2, HX.out.2.1]
    exact Oe.nil _ _
set_option maxHeartbeats 8000000 in
set_option maxRecDepth 100000 in
theorem gathQ124 (t : Pm.T) (w : World) (ht : Pm.In w t) (hs : Pm.Srt t.list) (hk : ∀ x ∈ t.list, x.1.size ≤ 9223372036854775807) (hn : t.n ≤ 100000) :
    Calls Tryz.prog 124 #[Pm.mv t, .func (.func 125) #[] #[]] w fun e w' => ∃ ao c, e = .returned (.tuple #[.slice ao ((elsL t.list).map Prod.snd).length c, .int .i64 (if mayL t.list then 0 else 2)]) ∧ Ot w' w.heap.size (.slice ao ((elsL t.list).map Prod.snd).length c) ((elsL t.list).map Prod.snd) ∧ Below w.heap.size w w' := by
  obtain ⟨a, ha⟩ := t.ptr_shape
  obtain ⟨w1, hw1⟩ : ∃ w1, w1 = ((w.alloc (.cells #[.pointer a] 27)).alloc (.cells #[.func (.func 125) #[] #[]] 146)).alloc (.cells #[.slice none 0 0] 63) := ⟨_, rfl⟩
  obtain ⟨m0, m1, m2, b1⟩ := new3r w (.cells #[.pointer a] 27) (.cells #[.func (.func 125) #[] #[]] 146) (.cells #[.slice none 0 0] 63)
  rw [← hw1] at m0 m1 m2 b1
  have s1 : w1.heap.size = w.heap.size + 3 := by rw [hw1]; simp
  have hAll := rAll_any t w1
  obtain ⟨wA, hwA⟩ : ∃ wA, wA = w1.alloc (.cells #[t.ptr] 27) := ⟨_, rfl⟩
  rw [← hwA] at hAll
  have sA : wA.heap.size = w1.heap.size + 1 := by rw [hwA]; simp
  have bA : Below w1.heap.size w1 wA := by rw [hwA]; exact (Below.refl _ w1).alloc (Nat.le_refl _) _
  have bWA : Below w.heap.size w wA := b1.trans (bA.mono b1.size)
  have cL : wA.cell? ⟨w1.heap.size, 0, none⟩ = some t.ptr := by rw [hwA]; exact (cell_of_row _ _ 0 _ 27 (0, 0) (heap_alloc_new w1 _)).trans rfl
  have iA : Pm.In wA t := Pm.In.below bWA ht
  obtain ⟨Tb, hT0⟩ : ∃ q, q = w.heap.size + 1 := ⟨_, rfl⟩
  obtain ⟨Lb, hLb⟩ : ∃ q, q = w.heap.size + 1 + 1 := ⟨_, rfl⟩
  obtain ⟨Mb, hMb⟩ : ∃ q, q = w.heap.size := ⟨_, rfl⟩
  have hit := iterC160 t w1.heap.size Lb Tb wA iA hs hk cL
  obtain ⟨xs, hxs⟩ : ∃ xs, xs = elsL t.list := ⟨_, rfl⟩
  rw [← hxs] at hit ⊢
  have hxl : xs.length ≤ 100000 := by
    rw [hxs, elsL]
    split
    · rw [elsM, List.length_map, Pm.T.n_eq]; exact hn
    · simp
  have m0A : wA.heap[Mb]? = some (.cells #[.pointer a] 27 (0, 0)) := by rw [hMb]; exact (bA.block _ (by omega)).trans m0
  have m1A : wA.heap[Tb]? = some (.cells #[.func (.func 125) #[] #[]] 146 (0, 0)) := by rw [hT0]; exact (bA.block _ (by omega)).trans m1
  have m2A : wA.heap[Lb]? = some (.cells #[.slice none 0 0] 63 (0, 0)) := by rw [hLb]; exact (bA.block _ (by omega)).trans m2
  have HZ : Hid (wA.heap.size = w.heap.size + 4 ∧ Mb = w.heap.size ∧ Tb = w.heap.size + 1 ∧ Lb = w.heap.size + 2 ∧ w1.heap.size = w.heap.size + 3) := hide ⟨by omega, hMb, hT0, hLb, s1⟩
  have hKlt : ∀ j, KA t w1.heap.size j → j < wA.heap.size ∧ j ≠ Lb := fun j hj => by
    rcases hj with rfl | hj
    · omega
    · have := ht.blk_lt hj; omega
  have hgo := hit (fun j => j = Lb) (fun B k W => k ≤ xs.length ∧ GIS wA Lb B ((xs.take k).map Prod.snd) W) wA (fun j _ => rfl) (Nat.le_refl _) (fun j e hj => (hKlt j hj).2 e) (fun j e => by have := HZ.out; have e' : j = Lb := e; omega)
    (fun B c W1 W2 hB hi ho => by
      obtain ⟨h1, h2⟩ := hi
      obtain ⟨ao, c', hb, hO⟩ := h2.box
      have hz := HZ.out
      exact ⟨h1, h2.only.trans ho (fun j hj e => by have e' : wA.heap.size ≤ j ∧ j < B := e; omega), ao, c', (ho.block _ (Array.getElem?_eq_some_iff.1 hb).1 (fun e => by have e' : wA.heap.size ≤ Lb ∧ Lb < B := e; omega)).trans hb, hO.only ho (fun k hk e => by have := World.ownsRow.lt hO k hk; have e' : wA.heap.size ≤ k ∧ k < B := e; omega)⟩)
    (fun B c x W1 hB hx hi _ hsz => by
      obtain ⟨h1, h2⟩ := hi
      obtain ⟨ao, c', hb, hO⟩ := h2.box
      have hz := HZ.out
      have htk : (xs.take (c + 1)).map Prod.snd = (xs.take c).map Prod.snd ++ [x.2] := by rw [List.take_add_one, hx]; simp
      have tb := (h2.only.block _ (Array.getElem?_eq_some_iff.1 m1A).1 (fun e => by have e' : Tb = Lb ∨ B ≤ Tb := e; omega)).trans m1A
      refine (gath160 x.1 x.2 _ hb tb hO (by omega) (by omega) (by omega) hsz (by simp; omega)).mono ?_
      rintro e W5 ⟨he, ho, a', c2, hb5, hO5⟩
      refine ⟨he, ho, by have := (List.getElem?_eq_some_iff.1 hx).1; omega, h2.only.next ho, a', c2, ?_, ?_⟩
      · rw [htk, List.length_append, List.length_singleton]; exact hb5
      · rw [htk, List.length_append, List.length_singleton]; exact hO5)
    (fun B W1 hb hB => by
      have hz := HZ.out
      refine ⟨Nat.zero_le _, below_only hb, none, 0, ?_, ?_⟩
      · simp only [List.take_zero, List.map_nil, List.length_nil]
        exact (hb.block _ (by omega)).trans m2A
      · simp only [List.take_zero, List.map_nil, List.length_nil]
        exact Ot.nil _ _)
  obtain ⟨ec, hec⟩ : ∃ ec : Int, ec = (if mayL t.list then 0 else 2) := ⟨_, rfl⟩
  rw [← hec]
  have HEC := hide hec
  clear hec
  obtain ⟨pl, hpl⟩ : ∃ pl, pl = xs.map Prod.snd := ⟨_, rfl⟩
  rw [← hpl]
  have HPL := hide hpl
  have HB : Hid (Below w.heap.size w wA ∧ Pm.In w t ∧ t.n ≤ 100000 ∧ xs = elsL t.list ∧ wA.heap[Mb]? = some (.cells #[.pointer a] 27 (0, 0))) := hide ⟨bWA, ht, hn, hxs, m0A⟩
  have HP := hide ha
  have HW1 := hide hw1
  have HM := hide (And.intro hMb (And.intro hT0 hLb))
  have HXL := hide hxl
  unfold Pm.mv at hAll ⊢
  rw [ha] at hAll ⊢
  have c0 : w1.cell? ⟨Mb, 0, none⟩ = some (.pointer a) := by rw [hMb]; exact (cell_of_row _ _ 0 _ 27 (0, 0) m0).trans rfl
  clear m0 m1 m2 b1 s1 sA bA bWA cL iA hw1 hwA hMb hT0 hLb ht hs hk hn hxs ha hit hKlt m0A m1A m2A hpl hxl
  go_enter Tryz.func124, Tryz.ntmps124
  go_upto_region 3 with fail
  rw [← HW1.out]
  rw [← HM.out.2.2, ← HM.out.2.1, ← HM.out.1]
  go_upto_region 4 with (first
    | (go_at_call 77; refine hAll.mono ?_; rintro e w' ⟨rfl, hw'⟩; obtain rfl : wA = w' := hw'.symm; clear hw'; dsimp only)
    | (go_at_call 126; refine hgo.mono ?_; rintro e W ⟨⟨vv, rfl⟩, B, hB, hle, hi⟩; have HI := hide (And.intro hB hi); clear hB hle hi; dsimp only))
  obtain ⟨hB, hi⟩ := HI.out
  rw [List.take_length, ← HPL.out] at hi
  obtain ⟨ao, c, hbx, hO⟩ := hi.box
  have lc : W.cell? ⟨Lb, 0, none⟩ = some (.slice ao (pl).length c) := (cell_of_row _ _ 0 _ 63 (0, 0) hbx).trans rfl
  obtain ⟨bw, iw, hn, hxs, m0A⟩ := HB.out
  have mb := (hi.only.block _ (by have := HZ.out; omega) (fun e => by have := HZ.out; have e' : Mb = Lb ∨ B ≤ Mb := e; omega)).trans m0A
  have mc : W.cell? ⟨Mb, 0, none⟩ = some (.pointer a) := (cell_of_row _ _ 0 _ 27 (0, 0) mb).trans rfl
  have iW : Pm.In W t := Pm.In.only hi.only (Pm.In.below bw iw) (fun p hp hd he => by
    have hblk : p < w.heap.size := iw.blk_lt (j := p) he
    have := HZ.out
    have hd' : p = Lb ∨ B ≤ p := hd
    omega)
  have bW : Below w.heap.size w W := Below.only bw hi.only bw.size (fun j e => by have := HZ.out; have e' : j = Lb ∨ B ≤ j := e; omega)
  have hlen : ∀ W', Below W.heap.size W W' → Calls Tryz.prog 17 #[.agg #[.pointer a]] W' fun e w' => e = .returned (.int .i64 (t.n : Nat)) ∧ Below W'.heap.size W' w' := fun W' hW => by
    have := Pm.mLen_any t W' (Pm.In.below hW iW)
    unfold Pm.mv at this
    rw [HP.out] at this
    exact this
  have hcmp : (mayL t.list = true ∧ (pl).length = t.n) ∨ (mayL t.list = false ∧ (pl).length = 0 ∧ 0 < t.n ∧ pl = []) := by
    by_cases hm : mayL t.list = true
    · left
      refine ⟨hm, ?_⟩
      rw [HPL.out, hxs, elsL, if_pos hm]
      simp [elsM, Pm.T.n_eq]
    · right
      have hm' : mayL t.list = false := by simpa using hm
      refine ⟨hm', ?_, ?_, ?_⟩
      · rw [HPL.out]; simp [hxs, elsL, hm]
      · rcases Nat.eq_zero_or_pos t.n with h0 | h0
        · exfalso
          rw [← Pm.T.n_eq, List.length_eq_zero_iff] at h0
          rw [h0] at hm'
          cases hm'
        · exact h0
      · rw [HPL.out]; simp [hxs, elsL, hm]
  have hlow : w.heap.size ≤ B := by have := HZ.out; omega
  have HF : Hid (∀ W', Below W.heap.size W W' → Ot W' w.heap.size (.slice ao (pl).length c) (pl) ∧ Below w.heap.size w W') := hide (fun W' hW => ⟨(hO.below hW).lift hlow, bW.trans (hW.mono bW.size)⟩)
  have qd : W.drew.cell? ⟨Lb, 0, none⟩ = some (.slice ao (pl).length c) ∧ W.drew.cell? ⟨Mb, 0, none⟩ = some (.pointer a) ∧ Hid (Below W.heap.size W W.drew) := ⟨lc, mc, hide (drew_below W)⟩
  clear hi hbx hO lc mb mc bw iw hn hxs iW bW hlow m0A hB hgo hAll c0
  obtain ⟨N, hN⟩ : ∃ N, N = (pl).length := ⟨_, rfl⟩
  rw [← hN] at hcmp qd
  have HN := hide hN
  rw [← hN] at HF
  clear hN
  refine wp_region_held_drew (S := fun w' => w'.cell? ⟨Lb, 0, none⟩ = some (.slice ao N c) ∧ w'.cell? ⟨Mb, 0, none⟩ = some (.pointer a) ∧ Hid (Below W.heap.size W w')) (by kernel_rfl) qd (fun hHeld => ?_)
  clear qd
  refine take_op (i := 0) (d := 13) (OP := Op.load 63 (Operand.tmp 6)) (T := 63) (v := ?vzz5) rfl rfl rfl rfl (by kernel_rfl) (by kernel_rfl) (by kernel_rfl) (fun _ _ _ h => h) (by rfl) ?hzz5 hHeld ?rzz5
  case hzz5 => (intro w' hSw; (try dsimp only at hSw); go_simp <;> with_reducible rfl)
  try simp only [Act.put, List.setIfInBounds_toArray, List.set_cons_zero, List.set_cons_succ]
  refine take_op (i := 1) (d := 14) (OP := Op.call { callee := Callee.builtin Builtin.len, args := #[Operand.tmp 13], argTypes := #[63] }) (T := 3) (v := ?vzz6) rfl rfl rfl rfl (by kernel_rfl) (by kernel_rfl) (by kernel_rfl) (fun _ _ _ h => h) (by rfl) ?hzz6 hHeld ?rzz6
  case hzz6 => (intro w' hSw; (try dsimp only at hSw); go_simp <;> with_reducible rfl)
  try simp only [Act.put, List.setIfInBounds_toArray, List.set_cons_zero, List.set_cons_succ]
  refine take_op (i := 2) (d := 15) (OP := Op.load 27 (Operand.tmp 2)) (T := 27) (v := ?vzz7) rfl rfl rfl rfl (by kernel_rfl) (by kernel_rfl) (by kernel_rfl) (fun _ _ _ h => h) (by rfl) ?hzz7 hHeld ?rzz7
  case hzz7 => (intro w' hSw; (try dsimp only at hSw); go_simp <;> with_reducible rfl)
  try simp only [Act.put, List.setIfInBounds_toArray, List.set_cons_zero, List.set_cons_succ]
  refine call_op (i := 3) (d := 16) (OP := Op.call { callee := Callee.value (Operand.func 17), args := #[Operand.tmp 15], argTypes := #[27] }) (T := 3) (f := 17) (args := #[.agg #[.pointer a]]) rfl rfl rfl rfl (by kernel_rfl) (by rfl) (by go_simp) ?_
  refine (hlen _ hHeld.2.2.out).mono ?_
  rintro e z1 ⟨rfl, bz⟩
  have qz : z1.cell? ⟨Lb, 0, none⟩ = some (.slice ao N c) ∧ z1.cell? ⟨Mb, 0, none⟩ = some (.pointer a) ∧ Hid (Below W.heap.size W z1) := ⟨cell_stays hHeld.1 bz, cell_stays hHeld.2.1 bz, hide (hHeld.2.2.out.trans (bz.mono hHeld.2.2.out.size))⟩
  refine ⟨_, rfl, qz, ?_⟩
  clear bz
  replace hHeld := qz
  clear qz
  try simp only [Act.put, List.setIfInBounds_toArray, List.set_cons_zero, List.set_cons_succ]
  refine take_op (i := 4) (d := 17) (OP := Op.binOp BinOp.lss 3 (Operand.tmp 14) (Operand.tmp 16) 3) (T := 4) (v := ?vzz8) rfl rfl rfl rfl (by kernel_rfl) (by kernel_rfl) (by kernel_rfl) (fun _ _ _ h => h) (by rfl) ?hzz8 hHeld ?rzz8
  case hzz8 => (intro w' hSw; (try dsimp only at hSw); go_simp <;> with_reducible rfl)
  try simp only [Act.put, List.setIfInBounds_toArray, List.set_cons_zero, List.set_cons_succ]
  refine wpAnyH_done (by kernel_rfl) ?_ _
  obtain ⟨lz, -, HBZ⟩ := hHeld
  clear hlen
  rcases hcmp with ⟨hm, hNn⟩ | ⟨hm, hN0, hn0, hnil⟩
  · have d1 : decide ((N : Int) < (t.n : Int)) = false := by simp; omega
    have d2 : ¬ (N : Int) < (t.n : Int) := by omega
    have HX := hide hm
    clear hm hNn
    go_wp2
    go_ret2
    exact ⟨ao, c, by rw [HEC.out, HX.out, ← HN.out]; rfl, by rw [← HN.out]; exact HF.out z1 HBZ.out⟩
  · have d1 : decide ((N : Int) < (t.n : Int)) = true := by simp; omega
    have d2 : (N : Int) < (t.n : Int) := by omega
    have HX := hide (And.intro hm (And.intro hnil hN0))
    clear hm hN0 hn0 hnil
    go_wp2
    go_ret2
    refine ⟨none, 0, by rw [HEC.out, HX.out.1, ← HN.out, HX.out.2.2]; rfl, ?_, (HF.out z1 HBZ.out).2⟩
    rw [← HN.out, HX.out.2.2, HX.out.2.1]
    exact Ot.nil _ _
theorem qElements_any (t : Pm.T) (w : World) (ht : Pm.In w t) (hs : Pm.Srt t.list) (hk : ∀ x ∈ t.list, x.1.size ≤ 9223372036854775807) (hn : t.n ≤ 100000) :
    Calls Tryz.prog 68 #[Pm.mv t] w fun e w' => ∃ ao c, e = .returned (.tuple #[.slice ao (elsL t.list).length c, .int .i64 (if mayL t.list then 0 else 2)]) ∧ Oe w' w.heap.size (.slice ao (elsL t.list).length c) (elsL t.list) ∧ Below w.heap.size w w' := by
  obtain ⟨a, ha⟩ := t.ptr_shape
  have hb : Below w.heap.size w (w.alloc (.cells #[t.ptr] 27)) := (Below.refl _ w).alloc (Nat.le_refl _) _
  have hg := gathQ122 t _ (Pm.In.below hb ht) hs hk hn
  have HB := hide hb
  clear hb
  obtain ⟨N, hN⟩ : ∃ N, N = (elsL t.list).length := ⟨_, rfl⟩
  obtain ⟨ec, hec⟩ : ∃ ec : Int, ec = (if mayL t.list then 0 else 2) := ⟨_, rfl⟩
  rw [← hN, ← hec] at hg ⊢
  generalize elsL t.list = L at *
  clear hN hec
  unfold Pm.mv at hg ⊢
  rw [ha] at hg HB ⊢
  clear ht hs hk hn ha
  go_enter Tryz.func68, Tryz.ntmps68
  go_wp2_with (go_at_call 122; refine hg.mono ?_; rintro e w1 ⟨ao, c, rfl, hO, b1⟩; have H1 := hide (And.intro hO b1); clear hO b1; dsimp only)
  go_ret2
  have b0 := HB.out
  refine ⟨ao, c, rfl, H1.out.1.lift b0.size, b0.trans (H1.out.2.mono b0.size)⟩
theorem qTexts_any (t : Pm.T) (w : World) (ht : Pm.In w t) (hs : Pm.Srt t.list) (hk : ∀ x ∈ t.list, x.1.size ≤ 9223372036854775807) (hn : t.n ≤ 100000) :
    Calls Tryz.prog 71 #[Pm.mv t] w fun e w' => ∃ ao c, e = .returned (.tuple #[.slice ao ((elsL t.list).map Prod.snd).length c, .int .i64 (if mayL t.list then 0 else 2)]) ∧ Ot w' w.heap.size (.slice ao ((elsL t.list).map Prod.snd).length c) ((elsL t.list).map Prod.snd) ∧ Below w.heap.size w w' := by
  obtain ⟨a, ha⟩ := t.ptr_shape
  have hb : Below w.heap.size w (w.alloc (.cells #[t.ptr] 27)) := (Below.refl _ w).alloc (Nat.le_refl _) _
  have hg := gathQ124 t _ (Pm.In.below hb ht) hs hk hn
  have HB := hide hb
  clear hb
  obtain ⟨N, hN⟩ : ∃ N, N = ((elsL t.list).map Prod.snd).length := ⟨_, rfl⟩
  obtain ⟨ec, hec⟩ : ∃ ec : Int, ec = (if mayL t.list then 0 else 2) := ⟨_, rfl⟩
  rw [← hN, ← hec] at hg ⊢
  generalize (elsL t.list).map Prod.snd = L at *
  clear hN hec
  unfold Pm.mv at hg ⊢
  rw [ha] at hg HB ⊢
  clear ht hs hk hn ha
  go_enter Tryz.func71, Tryz.ntmps71
  go_wp2_with (go_at_call 124; refine hg.mono ?_; rintro e w1 ⟨ao, c, rfl, hO, b1⟩; have H1 := hide (And.intro hO b1); clear hO b1; dsimp only)
  go_ret2
  have b0 := HB.out
  refine ⟨ao, c, rfl, H1.out.1.lift b0.size, b0.trans (H1.out.2.mono b0.size)⟩

end Go.Proofs.YtkeldhohilmdcaaGreat.Qu
