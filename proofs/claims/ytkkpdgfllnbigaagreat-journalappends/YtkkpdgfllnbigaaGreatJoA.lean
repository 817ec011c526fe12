/-
  journal: May, Of and others, as for queue.
-/
import Derived.Test.YtkkpdgfllnbigaaGreatMg15
import Derived.Test.YtkkpdgfllnbigaaGreatMg16
import Derived.Test.YtkkpdgfllnbigaaGreatMg17
namespace Go.Proofs.YtkkpdgfllnbigaaGreat.Jo
open Go.RowKit Go.Shelf
set_option linter.unusedSimpArgs false
attribute [local go_sem] Oper.semAt_some

theorem jmayText_any (s : ByteArray) (w : World) : Calls Tryz.prog 155 #[.string s] w fun e w' => e = .returned (.bool (txtB s)) ∧ w' = w := by
  unfold txtB
  by_cases h : s.size ≤ 256
  · have h1 : (s.size : Int) ≤ 256 := by omega
    have h2 : decide ((s.size : Int) ≤ 256) = true := by simpa using h1
    have h3 : decide (s.size ≤ 256) = true := by simpa using h
    rw [h3]
    go_enter Tryz.func155, Tryz.ntmps155
    go_wp2
    go_ret
    exact ⟨rfl, rfl⟩
  · have h1 : ¬ (s.size : Int) ≤ 256 := by omega
    have h2 : decide ((s.size : Int) ≤ 256) = false := by simpa using h1
    have h3 : decide (s.size ≤ 256) = false := by simpa using h
    rw [h3]
    go_enter Tryz.func155, Tryz.ntmps155
    go_wp2
    go_ret
    exact ⟨rfl, rfl⟩
set_option maxHeartbeats 4000000 in
set_option maxRecDepth 100000 in
theorem jrMay_any (t : Pm.T) (w : World) (ht : Pm.In w t) (hs : Pm.Srt t.list) (hk : ∀ x ∈ t.list, x.1.size ≤ 9223372036854775807) :
    Calls Tryz.prog 100 #[Pm.mv t] w fun e w' => e = .returned (.bool (mayL t.list)) ∧ Below w.heap.size w w' := by
  obtain ⟨l, hl⟩ : ∃ l, l = t.list := ⟨_, rfl⟩
  obtain ⟨a, ha⟩ := t.ptr_shape
  obtain ⟨w1, hw1⟩ : ∃ w1, w1 = (w.alloc (.cells #[.pointer a] 27)).alloc (.cells #[.bool true] 4) := ⟨_, rfl⟩
  obtain ⟨m0, m1⟩ := new2 w (.cells #[.pointer a] 27) (.cells #[.bool true] 4)
  rw [← hw1] at m0 m1
  have b1 : Below w.heap.size w w1 := by rw [hw1]; exact ((Below.refl _ w).alloc (Nat.le_refl _) _).alloc (by simp) _
  have hAll := Pm.mAll_any t w1
  obtain ⟨wA, hwA⟩ : ∃ wA, wA = ((w1.alloc (.cells #[t.ptr] 27)).alloc (.cells #[t.ptr] 27)).alloc (.cells #[.string ⟨#[]⟩] 9) := ⟨_, rfl⟩
  rw [← hwA] at hAll
  have sA : wA.heap.size = w1.heap.size + 3 := by rw [hwA]; simp
  have s1 : w1.heap.size = w.heap.size + 2 := by rw [hw1]; simp
  have bA : Below w1.heap.size w1 wA := by rw [hwA]; exact (new3r w1 _ _ _).2.2.2
  have cL : wA.cell? ⟨w1.heap.size + 2, 0, none⟩ = some (.string ⟨#[]⟩) := by rw [hwA]; exact (cell_of_row _ _ 0 _ 9 (0, 0) (new3r w1 _ _ _).2.2.1).trans rfl
  have cM : wA.cell? ⟨w1.heap.size + 1, 0, none⟩ = some t.ptr := by rw [hwA]; exact (cell_of_row _ _ 0 _ 27 (0, 0) (new3r w1 _ _ _).2.1).trans rfl
  have iA : Pm.In wA t := Pm.In.below (b1.trans (bA.mono b1.size)) ht
  have hit := Pm.iter_from t ⟨#[]⟩ (w1.heap.size + 2) (w1.heap.size + 1) wA iA cL cM
  rw [Pm.all_is hs, ← hl] at hit
  rw [← hl] at hk ⊢
  have hKlt : ∀ j, Pm.KF t (w1.heap.size + 2) (w1.heap.size + 1) j → j < wA.heap.size := fun j hj => by
    rcases hj with rfl | rfl | hj
    · omega
    · omega
    · exact iA.blk_lt hj
  have hKne : ∀ j, Pm.KF t (w1.heap.size + 2) (w1.heap.size + 1) j → j ≠ w.heap.size + 1 := fun j hj => by
    rcases hj with rfl | rfl | hj
    · omega
    · omega
    · have := ht.blk_lt hj; omega
  have c0 : w1.cell? ⟨w.heap.size, 0, none⟩ = some (.pointer a) := (cell_of_row _ _ 0 _ 27 (0, 0) m0).trans rfl
  have i0 : BI wA (w.heap.size + 1) true wA := ⟨Only.refl _ _, (bA.block _ (by omega)).trans m1⟩
  have HBW : Hid (Below w.heap.size w wA ∧ wA.heap.size = w.heap.size + 5) := hide ⟨b1.trans (bA.mono b1.size), by omega⟩
  unfold Pm.mv at hAll ⊢
  rw [ha] at hAll ⊢
  have HW1 := hide hw1
  obtain ⟨Mb, hMb⟩ : ∃ Mb, Mb = w.heap.size + 1 := ⟨_, rfl⟩
  have HM : Hid (Mb = w.heap.size + 1) := hide hMb
  rw [← hMb] at hKne i0
  have hfin : ∀ (b : Bool) (W : World) (fn : Func) (tmps : Array Value), fn.results = #[.tmp 2] → tmps.getD 2 undef = .bool b → W.heap[wA.heap.size]? = some (.deferred (some [])) → BI wA Mb b W → mayL l = b →
      LeavesInM Fence.wide 6 Tryz.prog fn tmps (fun e w' => e = .returned (.bool (mayL l)) ∧ Below w.heap.size w w') ({ target := .collected wA.heap.size, args := #[] } :: []) .returning W := fun b W fn tmps hres hp hKk hi hb => by
    have ho := only_putObj W wA.heap.size (.deferred none)
    have hB := Below.only HBW.out.1 hi.1 HBW.out.1.size (fun j e => by have := HM.out; omega)
    have := HBW.out.2
    exact leave_mark hKk (leave_tmp hres hp ⟨by rw [hb], Below.only hB ho hB.size (fun j e => by have e' : j = wA.heap.size := e; omega)⟩)
  have HFIN := hide hfin
  clear m0 m1 b1 hMb sA s1 bA cL cM iA hw1 hwA ht hs hl ha hfin
  refine calls_marks Tryz.func100 rfl ?_
  simp only [Tryz.ntmps100, List.size_toArray, List.length_cons, List.length_nil, Nat.reduceAdd, Nat.reduceSub, Array.replicate_succ, Array.replicate_zero, List.push_toArray, List.append_toArray, List.nil_append, List.cons_append]
  go_wp2
  refine wp_scope_straight ?_
  go_wp2
  refine wp_label ?_
  rw [← HW1.out]
  go_wp2_with (first | (refine wp_label ?_) | (go_at_call 139; refine hAll.mono ?_; rintro e w' ⟨rfl, hw'⟩; obtain rfl : wA = w' := hw'.symm; clear hw'; dsimp only))
  clear hAll c0
  refine range_mb (Q := _) 0 202 enters202 _ l (fun x => #[.string x.1, .string x.2]) _ hit rfl (fun _ _ => rfl) hKlt (fun j => j = Mb) (fun j e hj => hKne j hj e) (fun j e => by have := HM.out; have := HBW.out.2; omega)
    (fun k W => BI wA Mb true W ∧ AllOk l k) (fun W => BI wA Mb false W ∧ mayL l = false) (fun W => ∃ b, BI wA Mb b W ∧ mayL l = b)
    (fun k W W' hi ho => ⟨hi.1.other (by have := HM.out; have := HBW.out.2; omega) ho, hi.2⟩) (fun W W' hi ho => ⟨hi.1.other (by have := HM.out; have := HBW.out.2; omega) ho, hi.2⟩) ⟨i0, fun j x hj => by omega⟩ ?hround (fun _ _ h => h) (fun W h => ⟨true, h.1, ?hall⟩) (fun W h => ⟨false, h⟩) ?hdone
  case hall =>
    rw [mayL, List.all_eq_true]
    intro x hx
    obtain ⟨j, hj, rfl⟩ := List.getElem_of_mem hx
    exact h.2 j _ hj (List.getElem?_eq_getElem hj)
  case hdone =>
    rintro W ⟨b, hi, hb⟩ hlt hk'
    have c1 : W.cell? ⟨Mb, 0, none⟩ = some (.bool b) := (cell_of_row _ _ 0 _ 4 (0, 0) hi.2).trans rfl
    have HX := hide (And.intro hk' (And.intro hi hb))
    have hMb : w.heap.size + 1 = Mb := HM.out.symm
    clear hit hKlt hKne i0 hk hi hk' hb
    rw [hMb]
    clear hMb
    go_wp2
    refine noGoto_ret ?_
    exact HFIN.out b W Tryz.f100 _ rfl rfl HX.out.1 HX.out.2.1 HX.out.2.2
  case hround =>
    rintro c ⟨k, x⟩ W hx ⟨hi, hall⟩ hSame hsz
    have hks := hk _ (List.mem_of_getElem? hx)
    have HX := hide (And.intro hx hall)
    clear hit hKlt hKne i0 hk hSame hx hall HFIN
    have hMb : w.heap.size + 1 = Mb := HM.out.symm
    have HSZ : Hid (Mb < wA.heap.size ∧ w.heap.size ≤ Mb) := hide (by have := HM.out; have := HBW.out.2; omega)
    rw [hMb]
    clear hMb
    dsimp only
    gi_wp2
    refine ⟨Only.refl _ _, fun W2 ho2 => ?_⟩
    have hi2 := hi.other HSZ.out.1 ho2
    have h85 := ofKeyT_any k W2 hks
    have h81 := fun W => jmayText_any x W
    obtain ⟨s, hs⟩ : ∃ s, s = ofT k := ⟨_, rfl⟩
    rw [← hs] at h85
    clear hs hi ho2 hsz hks
    obtain ⟨g, r, lb, n, ix⟩ := s
    dsimp only [svT] at h85
    have fin : ∀ W3, Below W2.heap.size W2 W3 → Only (fun j => j = Mb) W2 W3 ∧ BI wA Mb true W3 := fun W3 h3 => ⟨below_only h3, hi2.1.next (below_only h3), (h3.block _ (gI hi2.2).1).trans hi2.2⟩
    have bad : ∀ W3, Below W2.heap.size W2 W3 → W3.cell? ⟨Mb, 0, none⟩ = some (.bool true) ∧ W3.frozen? ⟨Mb, 0, none⟩ = false ∧ Hid (Only (fun j => j = Mb) W2 (W3.setCell ⟨Mb, 0, none⟩ (.bool false)) ∧ BI wA Mb false (W3.setCell ⟨Mb, 0, none⟩ (.bool false))) := fun W3 h3 => by
      obtain ⟨o3, b3⟩ := fin W3 h3
      obtain ⟨s4, o4⟩ := set_one (i := 0) (.bool false) b3.2
      exact ⟨(cell_of_row _ _ 0 _ 4 (0, 0) b3.2).trans rfl, frozen_of_row _ _ 0 _ 4 b3.2, hide ⟨o3.next o4, b3.1.next o4, by simpa using s4⟩⟩
    have HF := hide (And.intro fin bad)
    clear fin bad hi2
    have up : ∀ w3, Below W2.heap.size W2 w3 → Below W2.heap.size W2 (w3.alloc (.cells #[.int .i64 g, .int .i64 r, .string lb, .int .i64 n, .int .i64 ix] 43)) := fun w3 b3 => b3.trans (((Below.refl _ w3).alloc (Nat.le_refl _) _).mono b3.size)
    have HUP := hide up
    clear up
    have neverL : okKv (k, x) = false → mayL l = false := fun hn => by
      rw [Bool.eq_false_iff]
      intro hm
      rw [mayL, List.all_eq_true] at hm
      rw [hm _ (List.mem_of_getElem? HX.out.1)] at hn
      cases hn
    have HN := hide neverL
    clear neverL
    by_cases hv : okV k = true
    · rw [if_pos hv] at h85
      have HV := hide hv
      clear hv
      by_cases ht : txtB x = true
      · rw [ht] at h81
        have HT := hide ht
        clear ht
        gi_wp2_with (first
          | (refine ⟨trivial, CallsIn.inRound _ (callsIn_wide.2 (Calls.mono h85 ?_))⟩; rintro e w3 ⟨rfl, b3⟩; have HB := hide (HUP.out w3 b3); clear b3; dsimp only)
          | (refine ⟨trivial, CallsIn.inRound _ (callsIn_wide.2 (Calls.mono (h81 _) ?_))⟩; rintro e w4 ⟨rfl, hw4⟩; replace hw4 := hw4.symm; subst hw4; dsimp only))
        refine ⟨(HF.out.1 _ HB.out).1, (HF.out.1 _ HB.out).2, fun j y hj hy => ?_⟩
        by_cases hjc : j = c
        · subst hjc
          rw [HX.out.1] at hy
          cases hy
          simp [okKv, HV.out, HT.out]
        · exact HX.out.2 j y (by omega) hy
      · have ht' : txtB x = false := by simpa using ht
        rw [ht'] at h81
        have HT := hide ht'
        clear ht ht'
        gi_wp2_with (first
          | (refine ⟨trivial, CallsIn.inRound _ (callsIn_wide.2 (Calls.mono h85 ?_))⟩; rintro e w3 ⟨rfl, b3⟩; obtain ⟨cx, fx, HB⟩ := HF.out.2 _ (HUP.out w3 b3); clear b3; dsimp only)
          | (refine ⟨trivial, CallsIn.inRound _ (callsIn_wide.2 (Calls.mono (h81 _) ?_))⟩; rintro e w4 ⟨rfl, hw4⟩; replace hw4 := hw4.symm; subst hw4; dsimp only))
        exact ⟨HB.out.1, rfl, HB.out.2, HN.out (by simp [okKv, HT.out])⟩
    · rw [if_neg hv] at h85
      have HV := hide hv
      clear hv h81
      gi_wp2_with (first
          | (refine ⟨trivial, CallsIn.inRound _ (callsIn_wide.2 (Calls.mono h85 ?_))⟩; rintro e w3 ⟨rfl, b3⟩; obtain ⟨cx, fx, HB⟩ := HF.out.2 _ (HUP.out w3 b3); clear b3; dsimp only))
      exact ⟨HB.out.1, rfl, HB.out.2, HN.out (by simp [okKv, Bool.eq_false_iff.2 HV.out])⟩
set_option maxHeartbeats 8000000 in
set_option maxRecDepth 100000 in
theorem jrOf_any {w : World} {ao : Option Addr} {c : Nat} (l : List El) (h : Re w ao l) (hl : l.length ≤ 400) : Calls Tryz.prog 85 #[.slice ao l.length c] w (OfE w l) := by
  obtain ⟨w0, hw0⟩ : ∃ w0, w0 = w.alloc (.cells #[.pointer none] 27) := ⟨_, rfl⟩
  have m0 := heap_alloc_new w (.cells #[.pointer none] 27)
  rw [← hw0] at m0
  have b0 : Below w.heap.size w w0 := by rw [hw0]; exact (Below.refl _ w).alloc (Nat.le_refl _) _
  have s0 : w0.heap.size = w.heap.size + 1 := by rw [hw0]; simp
  have h0 : Re w0 ao l := h.below b0
  obtain ⟨N, hN⟩ : ∃ N, N = l.length := ⟨_, rfl⟩
  obtain ⟨Rb, hRb⟩ : ∃ Rb, Rb = w.heap.size := ⟨_, rfl⟩
  have HS : Hid (w0.heap.size = w.heap.size + 1 ∧ Rb = w.heap.size ∧ N = l.length ∧ l.length ≤ 400) := hide ⟨s0, hRb, hN, hl⟩
  rw [← hN]
  rw [← hRb] at m0
  have HM : Hid (w0.heap[Rb]? = some (.cells #[.pointer none] 27 (0, 0)) ∧ Below w.heap.size w w0 ∧ Re w0 ao l) := hide ⟨m0, b0, h0⟩
  have hNb : N ≤ 400 := by omega
  -- where it is refused
  have bad : ∀ W, Below w0.heap.size w0 W → W.cell? ⟨Rb, 0, none⟩ = some (.pointer none) ∧ W.frozen? ⟨Rb, 0, none⟩ = false ∧ Hid ((W.setCell ⟨Rb, 0, none⟩ (.pointer none)).heap[Rb]? = some (.cells #[.pointer none] 27 (0, 0)) ∧ (goodL l = false → OfE w l (.returned (.tuple #[.agg #[.pointer none], .int .i64 2])) (W.setCell ⟨Rb, 0, none⟩ (.pointer none)))) := fun W hW => by
    have q2 := (hW.block _ (gI m0).1).trans m0
    have q3 := b0.trans (hW.mono b0.size)
    obtain ⟨u, o⟩ := set_one (i := 0) (.pointer none) q2
    refine ⟨(cell_of_row _ _ 0 _ 27 (0, 0) q2).trans rfl, frozen_of_row _ _ 0 _ 27 q2, hide ⟨by simpa using u, fun hg => ⟨.nil, ?_, Mg.nil _, Below.only q3 o q3.size (fun j e => by have e' : j = Rb := e; omega), fun hc => ?_, fun _ => rfl, Pm.T.over_nil⟩⟩⟩
    · rw [hg]; rfl
    · rw [hg] at hc; cases hc
  have HBAD := hide bad
  have htx := fun (x : ByteArray) W => jmayText_any x W
  have hky := fun (s : St) W => keyT_any s W
  have HW0 := hide hw0
  clear m0 b0 s0 h0 hN hRb h hl bad hw0
  go_enter Tryz.func85, Tryz.ntmps85
  go_upto_region 1 with fail
  rw [← HW0.out]
  rw [show w.heap.size = Rb from HS.out.2.1.symm]
  go_wp2
  go_loopw [4, 5, 12] (fun v4 v5 v12 wr => ∃ j : Nat, j ≤ N ∧ v12 = .int .i64 (j : Nat) ∧ Hid (OI w0 w0.heap.size ((l.take j).map fun x => keyT x.1) ((l.take j).map Prod.snd) v4 v5 wr ∧ (l.take j).all okEl = true)) (fun _ _ v12 _ => N - (intOf v12).toNat)
  case atStart => exact ⟨0, Nat.zero_le _, rfl, hide ⟨⟨Below.refl _ _, Ot.nil _ _, Ot.nil _ _, fun j hj => by cases hj⟩, rfl⟩⟩
  case round =>
    obtain ⟨j, hj, rfl, HI⟩ := hrel
    by_cases hlt : j < N
    · have z1 : (j : Int) < (N : Int) := by omega
      have z2 : decide ((j : Int) < (N : Int)) = true := by simpa using z1
      obtain ⟨x, hx⟩ : ∃ x, l[j]? = some x := ⟨_, List.getElem?_eq_getElem (by rw [← HS.out.2.2.1]; exact hlt)⟩
      have hre : Re wr ao l := HM.out.2.2.below HI.out.1.low
      obtain ⟨b, off, hao, c0, c1, c2, c3, c4, c5⟩ := hre.cells hx
      obtain ⟨⟨g, r, lb, n, ix⟩, xt⟩ := x
      dsimp only at c0 c1 c2 c3 c4 c5
      have HAO := hide hao
      have hEb : wr.heap.size = wr.heap.size := rfl
      obtain ⟨Eb, hEbb⟩ : ∃ Eb, Eb = wr.heap.size := ⟨_, rfl⟩
      obtain ⟨wE, hwE⟩ : ∃ wE, wE = wr.alloc (.cells #[.int .i64 g, .int .i64 r, .string lb, .int .i64 n, .int .i64 ix, .string xt] 53) := ⟨_, rfl⟩
      have rE : wE.heap[Eb]? = some (.cells #[.int .i64 g, .int .i64 r, .string lb, .int .i64 n, .int .i64 ix, .string xt] 53 (0, 0)) := by rw [hwE, hEbb]; exact heap_alloc_new wr _
      have bE : Below wr.heap.size wr wE := by rw [hwE]; exact (Below.refl _ wr).alloc (Nat.le_refl _) _
      have hk80 := hky (g, r, lb, n, ix) wE
      have htx1 := fun W => htx xt W
      have hlow : Below w0.heap.size w0 wE := HI.out.1.low.trans (bE.mono HI.out.1.low.size)
      have HB80 : Hid (∀ W, Below wE.heap.size wE W → Below w0.heap.size w0 W ∧ W.heap[Eb]? = some (.cells #[.int .i64 g, .int .i64 r, .string lb, .int .i64 n, .int .i64 ix, .string xt] 53 (0, 0)) ∧ OI w0 w0.heap.size ((l.take j).map fun x => keyT x.1) ((l.take j).map Prod.snd) u4 u5 W) := hide (fun W hW => ⟨hlow.trans (hW.mono hlow.size), (hW.block _ (gI rE).1).trans rE, (HI.out.1.below HI.out.1.low.size bE).below (by have := HI.out.1.low.size; have := bE.size; omega) hW⟩)
      have q53 : ∀ W, Below wE.heap.size wE W → W.cell? ⟨Eb, 0, none⟩ = some (.int .i64 g) ∧ W.cell? ⟨Eb, 1, none⟩ = some (.int .i64 r) ∧ W.cell? ⟨Eb, 2, none⟩ = some (.string lb) ∧ W.cell? ⟨Eb, 3, none⟩ = some (.int .i64 n) ∧ W.cell? ⟨Eb, 4, none⟩ = some (.int .i64 ix) ∧ W.cell? ⟨Eb, 5, none⟩ = some (.string xt) := fun W hW => by
        have := (HB80.out W hW).2.1
        exact ⟨(cell_of_row _ _ 0 _ 53 (0, 0) this).trans rfl, (cell_of_row _ _ 1 _ 53 (0, 0) this).trans rfl, (cell_of_row _ _ 2 _ 53 (0, 0) this).trans rfl, (cell_of_row _ _ 3 _ 53 (0, 0) this).trans rfl, (cell_of_row _ _ 4 _ 53 (0, 0) this).trans rfl, (cell_of_row _ _ 5 _ 53 (0, 0) this).trans rfl⟩
      obtain ⟨e0, e1, e2, e3, e4, e5⟩ := q53 wE (Below.refl _ _)
      have HQ := hide q53
      have HWE := hide hwE
      have HEB := hide hEbb
      have HX := hide hx
      have HJ : Hid (j < N ∧ N ≤ 400 ∧ N = l.length) := hide ⟨hlt, hNb, HS.out.2.2.1⟩
      have hbad : okEl ((g, r, lb, n, ix), xt) = false → goodL l = false := fun ho => by
        have hm : ((g, r, lb, n, ix), xt) ∈ l := List.mem_of_getElem? HX.out
        have : l.all okEl = false := by
          rw [Bool.eq_false_iff]
          intro ha
          rw [List.all_eq_true] at ha
          rw [ha _ hm] at ho
          cases ho
        rw [goodL, this]; rfl
      have HBD := hide hbad
      subst hao
      clear hx hre hEbb hwE rE bE hlow q53 hbad hEb hky htx hj
      obtain ⟨V, hV⟩ : ∃ V, V = stV (g, r, lb, n, ix) := ⟨_, rfl⟩
      rw [← hV] at hk80
      have HV := hide hV
      dsimp only [svT] at hk80
      obtain ⟨TX, hTX⟩ : ∃ TX, TX = txtB xt := ⟨_, rfl⟩
      rw [← hTX] at htx1
      have HTX := hide hTX
      obtain ⟨xk, hxk⟩ : ∃ xk, xk = keyT (g, r, lb, n, ix) := ⟨_, rfl⟩
      rw [← hxk] at hk80
      have HXK := hide hxk
      clear hV hTX hxk
      cases V with
      | false =>
        go_upto_region 5 with fail
        rw [← HEB.out, ← HWE.out]
        go_wp2_with (go_at_call 135; refine hk80.mono ?_; rintro e w1 ⟨rfl, b1⟩; obtain ⟨y1, y2, HY⟩ := HBAD.out w1 (HB80.out w1 b1).1; clear b1; dsimp only)
        refine ret_row_tmp Rb [.pointer none] rfl rfl rfl Tryz.underlying27 rfl T27 HY.out.1 rfl ?_
        exact HY.out.2 (HBD.out (by simp [okEl, ← HV.out]))
      | true =>
        cases TX with
        | false =>
          go_upto_region 5 with fail
          rw [← HEB.out, ← HWE.out]
          go_wp2_with (first
            | (go_at_call 135; refine hk80.mono ?_; rintro e w1 ⟨rfl, b1⟩; obtain ⟨y1, y2, HY⟩ := HBAD.out w1 (HB80.out w1 b1).1; obtain ⟨f0, f1, f2, f3, f4, f5⟩ := HQ.out w1 b1; clear b1; dsimp only)
            | (go_at_call 155; refine (htx1 _).mono ?_; rintro e w3 ⟨rfl, hw3⟩; replace hw3 := hw3.symm; subst hw3; dsimp only))
          refine ret_row_tmp Rb [.pointer none] rfl rfl rfl Tryz.underlying27 rfl T27 HY.out.1 rfl ?_
          exact HY.out.2 (HBD.out (by simp [okEl, ← HTX.out]))
        | true =>
          go_upto_region 5 with fail
          rw [← HEB.out, ← HWE.out]
          go_upto_region 8 with (first
            | (go_at_call 135; refine hk80.mono ?_; rintro e w1 ⟨rfl, b1⟩; obtain ⟨f0, f1, f2, f3, f4, f5⟩ := HQ.out w1 b1; have H1 := hide (HB80.out w1 b1); clear b1; dsimp only)
            | (go_at_call 155; refine (htx1 _).mono ?_; rintro e w3 ⟨rfl, hw3⟩; replace hw3 := hw3.symm; subst hw3; dsimp only))
          obtain ⟨ks, hks⟩ : ∃ ks, ks = (l.take j).map (fun x => keyT x.1) := ⟨_, rfl⟩
          obtain ⟨ts, hts⟩ : ∃ ts, ts = (l.take j).map Prod.snd := ⟨_, rfl⟩
          have I1 : OI w0 w0.heap.size ks ts u4 u5 w1 := by rw [hks, hts]; exact H1.out.2.2
          have HLN : Hid (ks.length ≤ 400 ∧ ts.length ≤ 400) := hide (by rw [hks, hts]; simp; omega)
          have HNE : Hid (¬ u4.ownBlock = some Eb ∧ ¬ u5.ownBlock = some Eb) := hide ⟨HI.out.1.notK (by rw [HEB.out]; exact Nat.le_refl _), HI.out.1.notT (by rw [HEB.out]; exact Nat.le_refl _)⟩
          have HNX : Hid (∀ kv' tv' W', OI w0 w0.heap.size (ks ++ [xk]) (ts ++ [xt]) kv' tv' W' → OI w0 w0.heap.size ((l.take (j + 1)).map fun x => keyT x.1) ((l.take (j + 1)).map Prod.snd) kv' tv' W' ∧ (l.take (j + 1)).all okEl = true) := hide (fun kv' tv' W' h => by
            rw [List.take_add_one, HX.out]
            refine ⟨?_, ?_⟩
            · simp only [Option.toList, List.map_append, List.map_cons, List.map_nil]
              rw [← hks, ← hts, ← HXK.out]
              exact h
            · simp only [Option.toList, List.all_append, List.all_cons, List.all_nil, Bool.and_true, Bool.and_eq_true]
              exact ⟨HI.out.2, by simp [okEl, ← HV.out, ← HTX.out]⟩)
          obtain ⟨Wd, hWd⟩ : ∃ Wd, Wd = w1.drew := ⟨_, rfl⟩
          have I0 : OI w0 w0.heap.size ks ts u4 u5 Wd := by rw [hWd]; exact I1.below I1.low.size (drew_below w1)
          have HNW : Hid ((∀ q, Wd.heap.size ≤ q → ¬ u4.ownBlock = some q) ∧ (∀ q, Wd.heap.size ≤ q → ¬ u5.ownBlock = some q)) := hide ⟨fun q hq => I0.notK hq, fun q hq => I0.notT hq⟩
          have qd : w1.drew.cell? ⟨Eb, 5, none⟩ = some (.string xt) := f5
          clear hk80 htx1 e0 e1 e2 e3 e4 e5 f0 f1 f2 f3 f4 f5 I1 hks hts c0 c1 c2 c3 c4 c5 HQ H1 HBD HBAD HB80 hlt
          refine wp_region_held_drew (S := fun w' => w'.cell? ⟨Eb, 5, none⟩ = some (.string xt)) (by kernel_rfl) qd (fun hHeld => ?_)
          clear qd
          rw [← hWd] at hHeld ⊢
          clear hWd
          refine take_op (i := 0) (d := 31) (OP := Op.move (Operand.tmp 4)) (T := 63) (v := ?v1) rfl rfl rfl rfl (by kernel_rfl) (by kernel_rfl) (by kernel_rfl) (fun _ _ _ h => h) (by rfl) ?h1 hHeld ?r1
          case h1 => (intro w' hSw; (try dsimp only at hSw); go_simp <;> with_reducible rfl)
          try simp only [Act.put, sI, sZ, sS]
          refine take_op (i := 1) (d := 32) (OP := Op.move (Operand.tmp 8)) (T := 9) (v := ?v2) rfl rfl rfl rfl (by kernel_rfl) (by kernel_rfl) (by kernel_rfl) (fun _ _ _ h => h) (by rfl) ?h2 hHeld ?r2
          case h2 => (intro w' hSw; (try dsimp only at hSw); go_simp <;> with_reducible rfl)
          try simp only [Act.put, sI, sZ, sS]
          refine take_op (i := 4) (d := 35) (OP := Op.move (Operand.tmp 5)) (T := 63) (v := ?v3) rfl rfl rfl rfl (by kernel_rfl) (by kernel_rfl) (by kernel_rfl) (fun _ _ _ h => h) (by rfl) ?h3 hHeld ?r3
          case h3 => (intro w' hSw; (try dsimp only at hSw); go_simp <;> with_reducible rfl)
          try simp only [Act.put, sI, sZ, sS]
          refine take_op (i := 5) (d := 36) (OP := Op.fieldAddr 53 (Operand.tmp 7) 1) (T := 0) (v := ?v4) rfl rfl rfl rfl (by kernel_rfl) (by kernel_rfl) (by kernel_rfl) (fun _ _ _ h => h) (by rfl) ?h4 hHeld ?r4
          case h4 => (intro w' hSw; (try dsimp only at hSw); go_simp <;> with_reducible rfl)
          try simp only [Act.put, sI, sZ, sS]
          refine take_op (i := 6) (d := 37) (OP := Op.load 9 (Operand.tmp 36)) (T := 9) (v := ?v5) rfl rfl rfl rfl (by kernel_rfl) (by kernel_rfl) (by kernel_rfl) (fun _ _ _ h => h) (by rfl) ?h5 hHeld ?r5
          case h5 => (intro w' hSw; (try dsimp only at hSw); go_simp <;> with_reducible rfl)
          try simp only [Act.put, sI, sZ, sS]
          obtain ⟨z1, hz1⟩ : ∃ q, q = Wd.alloc (.cells #[.string xk] 9) := ⟨_, rfl⟩
          have rz1 : z1.heap[Wd.heap.size]? = some (.cells #[.string xk] 9 (0, 0)) := by rw [hz1]; exact heap_alloc_new Wd _
          have bz1 : Below Wd.heap.size Wd z1 := by rw [hz1]; exact (Below.refl _ Wd).alloc (Nat.le_refl _) _
          have iz1 := I0.below (by have := I0.low.size; omega) bz1
          have sz1 : z1.cell? ⟨Eb, 5, none⟩ = some (.string xt) := cell_stays hHeld bz1
          obtain ⟨y1, hy1⟩ : ∃ q, q = Wd.alloc (.cells #[.string xt] 9) := ⟨_, rfl⟩
          have ry1 : y1.heap[Wd.heap.size]? = some (.cells #[.string xt] 9 (0, 0)) := by rw [hy1]; exact heap_alloc_new Wd _
          have by1 : Below Wd.heap.size Wd y1 := by rw [hy1]; exact (Below.refl _ Wd).alloc (Nat.le_refl _) _
          have iy1 := I0.below (by have := I0.low.size; omega) by1
          have sy1 : y1.cell? ⟨Eb, 5, none⟩ = some (.string xt) := cell_stays hHeld by1
          refine turn2_op (i := 2) (di := 33) (OPi := Op.buildSlice 63 1 #[(0, Operand.tmp 32)]) (Ti := 63) (j := 7) (dj := 38) (OPj := Op.buildSlice 63 1 #[(0, Operand.tmp 37)]) (Tj := 63) (v := .slice (some ⟨Wd.heap.size, 0, none⟩) 1 1) (u := .slice (some ⟨Wd.heap.size, 0, none⟩) 1 1) (wi := z1) (wj := y1) rfl rfl rfl rfl rfl rfl rfl rfl (by kernel_rfl) (by rfl) (by rfl) (by rw [hz1]; exact exec_bs9 rfl) (by rw [hy1]; exact exec_bs9 rfl) sz1 sy1 ?_ ?_
          · try simp only [Act.put, sI, sZ, sS]
            obtain ⟨Ka, Kc, z2, hrz2, iz2, oz2⟩ := iz1.pushK (by have := iz1.low.size; omega) (by have := HLN.out; omega) rz1
            have sz2 : z2.cell? ⟨Eb, 5, none⟩ = some (.string xt) := (World.cell?_of_block (oz2.block Eb (World.block_lt_of_cell? _ _ sz1) (HNE.out.1))).trans sz1
            obtain ⟨y2, hy2⟩ : ∃ q, q = z1.alloc (.cells #[.string xt] 9) := ⟨_, rfl⟩
            have ry2 : y2.heap[z1.heap.size]? = some (.cells #[.string xt] 9 (0, 0)) := by rw [hy2]; exact heap_alloc_new z1 _
            have by2 : Below z1.heap.size z1 y2 := by rw [hy2]; exact (Below.refl _ z1).alloc (Nat.le_refl _) _
            have iy2 := iz1.below (by have := iz1.low.size; omega) by2
            have sy2 : y2.cell? ⟨Eb, 5, none⟩ = some (.string xt) := cell_stays sz1 by2
            refine turn2_op (i := 3) (di := 34) (OPi := Op.call { callee := Callee.builtin Builtin.append, args := #[Operand.tmp 31, Operand.tmp 33], argTypes := #[63, 63] }) (Ti := 63) (j := 7) (dj := 38) (OPj := Op.buildSlice 63 1 #[(0, Operand.tmp 37)]) (Tj := 63) (v := .slice Ka (ks.length + 1) Kc) (u := .slice (some ⟨z1.heap.size, 0, none⟩) 1 1) (wi := z2) (wj := y2) rfl rfl rfl rfl rfl rfl rfl rfl (by kernel_rfl) (by rfl) (by rfl) (exec_append rfl rfl hrz2) (by rw [hy2]; exact exec_bs9 rfl) sz2 sy2 ?_ ?_
            · try simp only [Act.put, sI, sZ, sS]
              obtain ⟨z3, hz3⟩ : ∃ q, q = z2.alloc (.cells #[.string xt] 9) := ⟨_, rfl⟩
              have rz3 : z3.heap[z2.heap.size]? = some (.cells #[.string xt] 9 (0, 0)) := by rw [hz3]; exact heap_alloc_new z2 _
              have bz3 : Below z2.heap.size z2 z3 := by rw [hz3]; exact (Below.refl _ z2).alloc (Nat.le_refl _) _
              have iz3 := iz2.below (by have := iz2.low.size; omega) bz3
              have sz3 : z3.cell? ⟨Eb, 5, none⟩ = some (.string xt) := cell_stays sz2 bz3
              refine turn_op (i := 7) (d := 38) (OP := Op.buildSlice 63 1 #[(0, Operand.tmp 37)]) (T := 63) (v := .slice (some ⟨z2.heap.size, 0, none⟩) 1 1) (w' := z3) rfl rfl rfl rfl (by kernel_rfl) (by rfl) (by rw [hz3]; exact exec_bs9 rfl) sz3 ?_
              try simp only [Act.put, sI, sZ, sS]
              obtain ⟨Ta, Tc, z4, hrz4, iz4, oz4⟩ := iz3.pushT (by have := iz3.low.size; omega) (by have := HLN.out; omega) rz3
              have sz4 : z4.cell? ⟨Eb, 5, none⟩ = some (.string xt) := (World.cell?_of_block (oz4.block Eb (World.block_lt_of_cell? _ _ sz3) (HNE.out.2))).trans sz3
              refine turn_op (i := 8) (d := 39) (OP := Op.call { callee := Callee.builtin Builtin.append, args := #[Operand.tmp 35, Operand.tmp 38], argTypes := #[63, 63] }) (T := 63) (v := .slice Ta (ts.length + 1) Tc) (w' := z4) rfl rfl rfl rfl (by kernel_rfl) (by rfl) (exec_append rfl rfl hrz4) sz4 ?_
              try simp only [Act.put, sI, sZ, sS]
              refine take_op (i := 9) (d := 4) (OP := Op.assign (Operand.tmp 34)) (T := 63) (v := ?v6) rfl rfl rfl rfl (by kernel_rfl) (by kernel_rfl) (by kernel_rfl) (fun _ _ _ h => h) (by rfl) ?h6 sz4 ?r6
              case h6 => (intro w' hSw; (try dsimp only at hSw); go_simp <;> with_reducible rfl)
              try simp only [Act.put, sI, sZ, sS]
              refine take_op (i := 10) (d := 5) (OP := Op.assign (Operand.tmp 39)) (T := 63) (v := ?v7) rfl rfl rfl rfl (by kernel_rfl) (by kernel_rfl) (by kernel_rfl) (fun _ _ _ h => h) (by rfl) ?h7 sz4 ?r7
              case h7 => (intro w' hSw; (try dsimp only at hSw); go_simp <;> with_reducible rfl)
              try simp only [Act.put, sI, sZ, sS]
              refine wpAnyH_done (by kernel_rfl) ?_ _
              have HEND := hide (HNX.out _ _ _ iz4)
              clear hHeld HNE I0
              go_wp2
              go_roundw
              case rel => exact ⟨j + 1, by have := HJ.out; omega, by go_num, HEND⟩
              case measure => have := HJ.out; simp [intOf]; omega
            · try simp only [Act.put, sI, sZ, sS]
              have rk2 := (by2.block _ (gI rz1).1).trans rz1
              obtain ⟨La, Lc, z5, hrz5, iz5, oz5⟩ := iy2.pushK (by have := iy2.low.size; omega) (by have := HLN.out; omega) rk2
              have sz5 : z5.cell? ⟨Eb, 5, none⟩ = some (.string xt) := (World.cell?_of_block (oz5.block Eb (World.block_lt_of_cell? _ _ sy2) (HNE.out.1))).trans sy2
              refine turn_op (i := 3) (d := 34) (OP := Op.call { callee := Callee.builtin Builtin.append, args := #[Operand.tmp 31, Operand.tmp 33], argTypes := #[63, 63] }) (T := 63) (v := .slice La (ks.length + 1) Lc) (w' := z5) rfl rfl rfl rfl (by kernel_rfl) (by rfl) (exec_append rfl rfl hrz5) sz5 ?_
              try simp only [Act.put, sI, sZ, sS]
              have rt5 := (oz5.block _ (gI ry2).1 (HNW.out.1 _ (by have := bz1.size; omega))).trans ry2
              obtain ⟨Ta, Tc, z6, hrz6, iz6, oz6⟩ := iz5.pushT (by have := iz5.low.size; omega) (by have := HLN.out; omega) rt5
              have sz6 : z6.cell? ⟨Eb, 5, none⟩ = some (.string xt) := (World.cell?_of_block (oz6.block Eb (World.block_lt_of_cell? _ _ sz5) (HNE.out.2))).trans sz5
              refine turn_op (i := 8) (d := 39) (OP := Op.call { callee := Callee.builtin Builtin.append, args := #[Operand.tmp 35, Operand.tmp 38], argTypes := #[63, 63] }) (T := 63) (v := .slice Ta (ts.length + 1) Tc) (w' := z6) rfl rfl rfl rfl (by kernel_rfl) (by rfl) (exec_append rfl rfl hrz6) sz6 ?_
              try simp only [Act.put, sI, sZ, sS]
              refine take_op (i := 9) (d := 4) (OP := Op.assign (Operand.tmp 34)) (T := 63) (v := ?v8) rfl rfl rfl rfl (by kernel_rfl) (by kernel_rfl) (by kernel_rfl) (fun _ _ _ h => h) (by rfl) ?h8 sz6 ?r8
              case h8 => (intro w' hSw; (try dsimp only at hSw); go_simp <;> with_reducible rfl)
              try simp only [Act.put, sI, sZ, sS]
              refine take_op (i := 10) (d := 5) (OP := Op.assign (Operand.tmp 39)) (T := 63) (v := ?v9) rfl rfl rfl rfl (by kernel_rfl) (by kernel_rfl) (by kernel_rfl) (fun _ _ _ h => h) (by rfl) ?h9 sz6 ?r9
              case h9 => (intro w' hSw; (try dsimp only at hSw); go_simp <;> with_reducible rfl)
              try simp only [Act.put, sI, sZ, sS]
              refine wpAnyH_done (by kernel_rfl) ?_ _
              have HEND := hide (HNX.out _ _ _ iz6)
              clear hHeld HNE I0
              go_wp2
              go_roundw
              case rel => exact ⟨j + 1, by have := HJ.out; omega, by go_num, HEND⟩
              case measure => have := HJ.out; simp [intOf]; omega
          · try simp only [Act.put, sI, sZ, sS]
            obtain ⟨y3, hy3⟩ : ∃ q, q = y1.alloc (.cells #[.string xk] 9) := ⟨_, rfl⟩
            have ry3 : y3.heap[y1.heap.size]? = some (.cells #[.string xk] 9 (0, 0)) := by rw [hy3]; exact heap_alloc_new y1 _
            have by3 : Below y1.heap.size y1 y3 := by rw [hy3]; exact (Below.refl _ y1).alloc (Nat.le_refl _) _
            have iy3 := iy1.below (by have := iy1.low.size; omega) by3
            have sy3 : y3.cell? ⟨Eb, 5, none⟩ = some (.string xt) := cell_stays sy1 by3
            refine turn_op (i := 2) (d := 33) (OP := Op.buildSlice 63 1 #[(0, Operand.tmp 32)]) (T := 63) (v := .slice (some ⟨y1.heap.size, 0, none⟩) 1 1) (w' := y3) rfl rfl rfl rfl (by kernel_rfl) (by rfl) (by rw [hy3]; exact exec_bs9 rfl) sy3 ?_
            try simp only [Act.put, sI, sZ, sS]
            obtain ⟨Ka, Kc, y4, hry4, iy4, oy4⟩ := iy3.pushK (by have := iy3.low.size; omega) (by have := HLN.out; omega) ry3
            have sy4 : y4.cell? ⟨Eb, 5, none⟩ = some (.string xt) := (World.cell?_of_block (oy4.block Eb (World.block_lt_of_cell? _ _ sy3) (HNE.out.1))).trans sy3
            refine turn_op (i := 3) (d := 34) (OP := Op.call { callee := Callee.builtin Builtin.append, args := #[Operand.tmp 31, Operand.tmp 33], argTypes := #[63, 63] }) (T := 63) (v := .slice Ka (ks.length + 1) Kc) (w' := y4) rfl rfl rfl rfl (by kernel_rfl) (by rfl) (exec_append rfl rfl hry4) sy4 ?_
            try simp only [Act.put, sI, sZ, sS]
            have rt3 := (by3.block _ (gI ry1).1).trans ry1
            have rt4 := (oy4.block _ (gI rt3).1 (HNW.out.1 _ (Nat.le_refl _))).trans rt3
            obtain ⟨Ta, Tc, y5, hry5, iy5, oy5⟩ := iy4.pushT (by have := iy4.low.size; omega) (by have := HLN.out; omega) rt4
            have sy5 : y5.cell? ⟨Eb, 5, none⟩ = some (.string xt) := (World.cell?_of_block (oy5.block Eb (World.block_lt_of_cell? _ _ sy4) (HNE.out.2))).trans sy4
            refine turn_op (i := 8) (d := 39) (OP := Op.call { callee := Callee.builtin Builtin.append, args := #[Operand.tmp 35, Operand.tmp 38], argTypes := #[63, 63] }) (T := 63) (v := .slice Ta (ts.length + 1) Tc) (w' := y5) rfl rfl rfl rfl (by kernel_rfl) (by rfl) (exec_append rfl rfl hry5) sy5 ?_
            try simp only [Act.put, sI, sZ, sS]
            refine take_op (i := 9) (d := 4) (OP := Op.assign (Operand.tmp 34)) (T := 63) (v := ?v10) rfl rfl rfl rfl (by kernel_rfl) (by kernel_rfl) (by kernel_rfl) (fun _ _ _ h => h) (by rfl) ?h10 sy5 ?r10
            case h10 => (intro w' hSw; (try dsimp only at hSw); go_simp <;> with_reducible rfl)
            try simp only [Act.put, sI, sZ, sS]
            refine take_op (i := 10) (d := 5) (OP := Op.assign (Operand.tmp 39)) (T := 63) (v := ?v11) rfl rfl rfl rfl (by kernel_rfl) (by kernel_rfl) (by kernel_rfl) (fun _ _ _ h => h) (by rfl) ?h11 sy5 ?r11
            case h11 => (intro w' hSw; (try dsimp only at hSw); go_simp <;> with_reducible rfl)
            try simp only [Act.put, sI, sZ, sS]
            refine wpAnyH_done (by kernel_rfl) ?_ _
            have HEND := hide (HNX.out _ _ _ iy5)
            clear hHeld HNE I0
            go_wp2
            go_roundw
            case rel => exact ⟨j + 1, by have := HJ.out; omega, by go_num, HEND⟩
            case measure => have := HJ.out; simp [intOf]; omega
    · have hjN : j = N := by omega
      have z1 : ¬ (j : Int) < (N : Int) := by omega
      have z2 : decide ((j : Int) < (N : Int)) = false := by simpa using z1
      obtain ⟨hoi, hall⟩ := HI.out
      have htl : l.take j = l := by rw [hjN, HS.out.2.2.1, List.take_length]
      rw [htl] at hoi hall
      have hof := of_good (w := wr) rfl rfl hall (by have := HS.out; omega) hoi.k.cs hoi.t.cs
      have HLOW := hide hoi.low
      obtain ⟨ec0, hec0⟩ : ∃ ec0 : Int, ec0 = 0 := ⟨_, rfl⟩
      clear hoi hall htl HI hjN hec0 hky htx
      go_wp2_with (go_at_call 110; refine hof.mono ?_; rintro e w5 ⟨t, ec, pt, hpt, rfl, b5, hec, hmg, hp1, hp2⟩; obtain ⟨y1, y2, -⟩ := HBAD.out w5 (HLOW.out.trans (b5.mono HLOW.out.size)); have H5 := hide (And.intro hpt (And.intro b5 (And.intro hec (And.intro hmg (And.intro hp1 hp2))))); clear hpt b5 hec hmg hp1 hp2; dsimp only)
      obtain ⟨hpt, b5, hec, hmg, hp1, hp2⟩ := H5.out
      have bl := HLOW.out.trans (b5.mono HLOW.out.size)
      have q2 := (bl.block _ (gI HM.out.1).1).trans HM.out.1
      have q3 := HM.out.2.1.trans (bl.mono HM.out.2.1.size)
      obtain ⟨u, o⟩ := set_one (i := 0) (.pointer pt) q2
      refine ret_row_tmp Rb [.pointer pt] rfl rfl rfl Tryz.underlying27 rfl T27 (by simpa using u) rfl ?_
      refine ⟨t, ?_, ⟨Pm.In.aside q2 o hmg.inn, hmg.srt, hmg.bal, hmg.few, hmg.key⟩, Below.only q3 o q3.size (fun k e => by have e' : k = Rb := e; have := HS.out; omega), hp1, hp2.1, hp2.2.mono (Nat.le_trans HM.out.2.1.size HLOW.out.size)⟩
      unfold Pm.mv
      rw [hpt, ← hec]
      rfl
theorem jnum35 (n : Int) (w : World) : Calls Tryz.prog 87 #[.int .i64 n] w fun e w' => e = .returned (.int .i64 n) ∧ w' = w := by
  go_enter Tryz.func87, Tryz.ntmps87
  go_wp2
  go_ret
  exact ⟨rfl, rfl⟩
theorem jat46 (g : Int) (x : ByteArray) (w : World) : Calls Tryz.prog 102 #[.int .i64 g, .string x] w fun e w' => e = .returned (.agg #[.int .i64 g, .int .i64 0, .string ⟨#[97]⟩, .int .i64 1, .int .i64 0, .string x]) ∧ Below w.heap.size w w' := by
  have m := heap_alloc_new w (.cells #[.int .i64 g, .int .i64 0, .string ⟨#[97]⟩, .int .i64 1, .int .i64 0, .string x] 53)
  have hb : Below w.heap.size w (w.alloc (.cells #[.int .i64 g, .int .i64 0, .string ⟨#[97]⟩, .int .i64 1, .int .i64 0, .string x] 53)) := (Below.refl _ w).alloc (Nat.le_refl _) _
  have HM := hide (And.intro m hb)
  clear m hb
  go_enter Tryz.func102, Tryz.ntmps102
  go_wp2
  refine ret_row w.heap.size [.int .i64 g, .int .i64 0, .string ⟨#[97]⟩, .int .i64 1, .int .i64 0, .string x] rfl rfl Tryz.underlying53 rfl (by kernel_rfl) HM.out.1 rfl ?_
  exact ⟨rfl, HM.out.2⟩
/-- Of, answered by a pointer. -/
theorem jofP {w : World} {ao : Option Addr} {c : Nat} (l : List El) (h : Re w ao l) (hl : l.length ≤ 400) : Calls Tryz.prog 85 #[.slice ao l.length c] w fun e w' => ∃ t pt, t.ptr = .pointer pt ∧ e = .returned (.tuple #[.agg #[.pointer pt], .int .i64 (if goodL l = true then 0 else 2)]) ∧ Mg w' t ∧ (goodL l = true → t.list.Perm (l.map kvE)) ∧ (goodL l = false → t = .nil) ∧ Below w.heap.size w w' := (jrOf_any l h hl).mono fun e w' hh => by
  obtain ⟨t, he, hm, hb, h1, h2, -⟩ := hh
  obtain ⟨pt, hpt⟩ := t.ptr_shape
  exact ⟨t, pt, hpt, by rw [he]; unfold Pm.mv; rw [hpt], hm, h1, h2, hb⟩
/-- Three, where one of the maps may not be. -/
theorem jmayP {w : World} {t : Pm.T} {p : Option Addr} (h : Mg w t) (hp : t.ptr = .pointer p) : ∀ W, Below w.heap.size w W → Calls Tryz.prog 100 #[.agg #[.pointer p]] W fun e w' => e = .returned (.bool (mayL t.list)) ∧ Below W.heap.size W w' := fun W hW => by
  have := jrMay_any t W (h.below hW).inn (h.below hW).srt (h.below hW).key
  unfold Pm.mv at this
  rw [hp] at this
  exact this
set_option maxHeartbeats 2000000 in
theorem jfits39 (s : St) (x : ByteArray) (w : World) (hs : s.2.2.1.size ≤ 9223372036854775807) : Calls Tryz.prog 91 #[svT s, .string x] w fun e w' => e = .returned (.bool (stV s && txtB x)) ∧ Below w.heap.size w w' := by
  obtain ⟨g, r, l, n, i⟩ := s
  obtain ⟨w0, hw0⟩ : ∃ q, q = w.alloc (.cells #[.int .i64 g, .int .i64 r, .string l, .int .i64 n, .int .i64 i] 43) := ⟨_, rfl⟩
  have m := heap_alloc_new w (.cells #[.int .i64 g, .int .i64 r, .string l, .int .i64 n, .int .i64 i] 43)
  have b0 : Below w.heap.size w (w.alloc (.cells #[.int .i64 g, .int .i64 r, .string l, .int .i64 n, .int .i64 i] 43)) := (Below.refl _ w).alloc (Nat.le_refl _) _
  rw [← hw0] at m b0
  have hst := refStamp_any g r l n i w0 hs
  have htx := fun W => refText_any x W
  have hV : stampV g r l n i = stV (g, r, l, n, i) := rfl
  rw [hV] at hst
  have c0 := (cell_of_row _ _ 0 _ 43 (0, 0) m).trans rfl
  have c1 := (cell_of_row _ _ 1 _ 43 (0, 0) m).trans rfl
  have c2 := (cell_of_row _ _ 2 _ 43 (0, 0) m).trans rfl
  have c3 := (cell_of_row _ _ 3 _ 43 (0, 0) m).trans rfl
  have c4 := (cell_of_row _ _ 4 _ 43 (0, 0) m).trans rfl
  have HB := hide b0
  have HW0 := hide hw0
  dsimp only [svT, sv] at hst ⊢
  generalize stV (g, r, l, n, i) = V at *
  generalize txtB x = TX at *
  clear hV m b0 hw0
  cases V with
  | false =>
    go_enter Tryz.func91, Tryz.ntmps91
    go_upto_region 1 with fail
    rw [← HW0.out]
    go_wp2_with (go_at_call 112; refine hst.mono ?_; rintro e w1 ⟨rfl, b1⟩; replace HB := hide (HB.out.trans (b1.mono HB.out.size)); clear b1; dsimp only)
    go_ret
    exact ⟨rfl, HB.out⟩
  | true =>
    go_enter Tryz.func91, Tryz.ntmps91
    go_upto_region 1 with fail
    rw [← HW0.out]
    go_wp2_with (first
      | (go_at_call 112; refine hst.mono ?_; rintro e w1 ⟨rfl, b1⟩; replace HB := hide (HB.out.trans (b1.mono HB.out.size)); clear b1; dsimp only)
      | (go_at_call 111; refine (htx _).mono ?_; rintro e w2 ⟨rfl, rfl⟩; dsimp only))
    go_ret
    exact ⟨rfl, HB.out⟩
set_option maxHeartbeats 2000000 in
theorem jtexts82 {w : World} {ao : Option Addr} {c : Nat} (l : List El) (h : Re w ao l) (hl : l.length ≤ 100000) : Calls Tryz.prog 156 #[.slice ao l.length c] w fun e w' => ∃ v, e = .returned v ∧ Ot w' w.heap.size v (l.map Prod.snd) ∧ Below w.heap.size w w' := by
  obtain ⟨N, hN⟩ : ∃ N, N = l.length := ⟨_, rfl⟩
  rw [← hN] at hl ⊢
  have H := hide (And.intro hN h)
  clear hN h
  go_enter Tryz.func156, Tryz.ntmps156
  go_wp2
  go_loopw [3, 4] (fun v iv wr => ∃ i : Nat, i ≤ N ∧ iv = .int .i64 i ∧ Hid (Ot wr w.heap.size v ((l.take i).map Prod.snd) ∧ Below w.heap.size w wr)) (fun _ iv _ => N - (intOf iv).toNat)
  case atStart => exact ⟨0, by omega, rfl, hide ⟨Ot.nil _ _, Below.refl _ _⟩⟩
  case round =>
    obtain ⟨i, hi, rfl, HI⟩ := hrel
    by_cases h1 : i < N
    · have z1 : (i : Int) < (N : Int) := by omega
      have d1 : decide (i < N) = true := by simpa using h1
      obtain ⟨x, hx⟩ : ∃ x, l[i]? = some x := ⟨_, List.getElem?_eq_getElem (by rw [← H.out.1]; exact h1)⟩
      obtain ⟨b, off, hao, -, -, -, -, -, q5⟩ := (H.out.2.below HI.out.2).cells hx
      obtain ⟨s, y⟩ := x
      dsimp only at q5
      subst hao
      obtain ⟨a1, c1, w2, run1, o1, on1⟩ := push_Ot (b := wr.heap.size) (y := y) (HI.out.1.below ((Below.refl _ wr).alloc (Nat.le_refl _) (.cells #[.string y] 9))) (heap_alloc_new wr _) (by simp; omega) (by have := HI.out.2.size; simp; omega)
      obtain ⟨KV, hKV⟩ : ∃ q, q = Value.slice a1 ((List.map Prod.snd (List.take i l)).length + 1) c1 := ⟨_, rfl⟩
      rw [← hKV] at run1 o1
      have b2 : Below w.heap.size w w2 := by
        have ba := HI.out.2.alloc HI.out.2.size (.cells #[.string y] 9)
        exact Below.only ba on1 ba.size (fun j e => (World.ownsRow.lt HI.out.1 j e).1)
      have HO := hide (And.intro o1 b2)
      have HX := hide hx
      clear hKV o1 b2 on1 hx
      go_wp2_with (at_builtin; refine wpList_app2 rfl (.tmp 11) (.tmp 17) 63 63 63 rfl rfl rfl rfl run1 ?_)
      go_roundw
      case rel =>
        refine ⟨i + 1, by omega, by go_num, hide ?_⟩
        rw [List.take_add_one, HX.out]
        simp only [Option.toList, List.map_append, List.map_cons, List.map_nil]
        exact HO.out
      case measure => simp [intOf]; omega
    · obtain rfl : i = N := by omega
      have d1 : decide (i < i) = false := by simp
      have z1 : ¬ (i : Int) < (i : Int) := by omega
      have HF := hide HI.out
      rw [H.out.1, List.take_length] at HF
      clear HI
      go_wp2
      go_ret
      exact ⟨_, rfl, HF.out.1, HF.out.2⟩
end Go.Proofs.YtkkpdgfllnbigaaGreat.Jo
