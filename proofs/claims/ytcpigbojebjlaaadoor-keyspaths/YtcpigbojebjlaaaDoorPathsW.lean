/-
  THE WALK over the statement KeysPaths.
-/
import Derived.Test.YtcpigbojebjlaaaDoorPathsK
import Derived.Test.YtcpigbojebjlaaaDoorOpenQ
import Derived.Test.YtcpigbojebjlaaaDoorKnown
import Derived.BigCall
import Derived.BigGuard
import Derived.BigGuardPart
import Derived.BigRegion
import Derived.Deep.DeepCutAuto
import Derived.Deep.CutBlock
namespace Go.Proofs.YtcpigbojebjlaaaDoor
open Go.RowKit Go.Shelf
set_option linter.unusedSimpArgs false
attribute [local go_sem] Oper.semAt_some

theorem joinE_form (l : List ByteArray) : ∃ S E, joinE l = .tuple #[.string S, .int .i64 E] ∧ (pathB l = true → S = ⟨(joinB l).toArray⟩ ∧ E = 0) ∧ (pathB l = false → S = ⟨#[]⟩ ∧ E = 2) := by
  unfold joinE
  cases pathB l
  · exact ⟨_, _, rfl, by simp, fun _ => ⟨rfl, rfl⟩⟩
  · exact ⟨_, _, rfl, fun _ => ⟨rfl, rfl⟩, by simp⟩

set_option maxHeartbeats 4000000 in
set_option maxRecDepth 100000 in
theorem paths_walk {w : World} {ao : Option Addr} {c : Nat} {l : List ByteArray} (leave : Int) (h : TextsIn w ao c l) (hT : Tabs w) :
    Calls Tryd.prog 4 #[.slice ao l.length c, .int .i64 leave] w fun e w' => e = .returned (.bool true) ∧ Below w.heap.size w w' := by
  obtain ⟨hr, hcap, hnil, hlen, -⟩ := h
  have hau : ∀ a, ao = some a → l ≠ [] → a.block < w.heap.size := fun a ha hne => by
    cases l with
    | nil => exact absurd rfl hne
    | cons x t =>
      obtain ⟨ab, off, he, hc⟩ := hr.at (k := 0) (s := x) rfl
      rw [ha] at he
      cases he
      exact World.block_lt_of_cell? _ _ hc
  obtain ⟨N, hN⟩ : ∃ N, N = l.length := ⟨_, rfl⟩
  rw [← hN] at hlen hcap ⊢
  have hpb := hide (PW_below w ao N c leave)
  have hps := PW_size w ao N c leave
  have hBt : ∀ {W W' : World}, Below (w.heap.size + 3) (PW w ao N c leave) W → Below W.heap.size W W' → Below (w.heap.size + 3) (PW w ao N c leave) W' := fun h k => h.trans (k.mono (by rw [← hps]; exact h.size))
  have hkn : ∀ W, Below (w.heap.size + 3) (PW w ao N c leave) W → Calls Tryd.prog 7 #[] W fun e w' => e = .returned (.bool true) ∧ Below W.heap.size W w' := fun W hW => known_any W (Tabs.below hT (hpb.out.trans (hW.mono (by omega))))
  have hleave : ∀ (W : World) (fn : Func) (tmps : Array Value), fn.results = #[.cell 4 4] → tmps.getD 4 undef = .pointer (some ⟨w.heap.size + 1 + 1, 0, none⟩) → Below (w.heap.size + 3) (PW w ao N c leave) W →
      LeavesInM Fence.wide 6 Tryd.prog fn tmps (fun e w' => e = .returned (.bool true) ∧ Below w.heap.size w w') [] .returning (W.setCell ⟨w.heap.size + 1 + 1, 0, none⟩ (.bool true)) := fun W fn tmps hres hp hW => by
    have hb := PW_boxes w ao N c leave W hW
    refine leave_cell (w.heap.size + 1 + 1) (x := true) hres hp ?_ ⟨rfl, (hpb.out.trans (hW.mono (by omega))).setCell (by simp only; omega) _⟩
    rw [cell_of_row _ _ 0 _ 4 (0, 0) (heap_setCell_same _ _ _ _ 4 _ hb.2.2)]
    rfl
  have hbox : ∀ W, Below (w.heap.size + 3) (PW w ao N c leave) W → W.cell? ⟨w.heap.size, 0, none⟩ = some (.slice ao N c) ∧ W.cell? ⟨w.heap.size + 1, 0, none⟩ = some (.int .i64 leave) ∧ W.cell? ⟨w.heap.size + 1 + 1, 0, none⟩ = some (.bool false) ∧ W.frozen? ⟨w.heap.size + 1 + 1, 0, none⟩ = false := fun W hW => by
    obtain ⟨q1, q2, q3⟩ := PW_boxes w ao N c leave W hW
    exact ⟨q1, q2, by rw [cell_of_row _ _ 0 _ 4 (0, 0) q3]; rfl, frozen_of_row _ _ 0 _ 4 q3⟩
  have HH := hide (And.intro hN (And.intro hr (And.intro hT hleave)))
  clear hr hN hT hleave
  refine calls_marks Tryd.func4 rfl ?_
  simp only [Tryd.ntmps4, List.size_toArray, List.length_cons, List.length_nil, Nat.reduceAdd, Nat.reduceSub, Array.replicate_succ, Array.replicate_zero, List.push_toArray, List.append_toArray, List.nil_append, List.cons_append]
  by_cases h2 : N ≤ 200
  · have z2 : ¬ (200 : Int) < (N : Int) := by omega
    go_wp2
    go_loopw [5] (fun v5 wr => ∃ i : Nat, i ≤ N ∧ v5 = .int .i64 i ∧ wr = PW w ao N c leave ∧ Hid (∀ s ∈ l.take i, s.size ≤ 9000)) (fun v5 _ => N - (intOf v5).toNat)
    case atStart => exact ⟨0, by omega, rfl, rfl, hide (by simp)⟩
    case round =>
      obtain ⟨i, hi, rfl, rfl, HS⟩ := hrel
      obtain ⟨p0, p1, p2, z0⟩ := hbox _ (Below.refl _ _)
      by_cases hc : i < N
      · have z1 : (i : Int) < (N : Int) := by omega
        have hx : l[i]? = some (l[i]'(by rw [← HH.out.1]; exact hc)) := List.getElem?_eq_getElem _
        generalize l[i]'(by rw [← HH.out.1]; exact hc) = s at hx
        obtain ⟨ab, off, rfl, hcx⟩ := (HH.out.2.1.below hpb.out).at hx
        have HX := hide hx
        clear hx
        by_cases h9 : s.size ≤ 9000
        · have z9 : ¬ (9000 : Int) < (s.size : Int) := by omega
          go_wp2
          go_roundw
          case rel =>
            refine ⟨i + 1, by omega, by go_num, trivial, hide (fun q hq => ?_)⟩
            rw [List.take_add_one, HX.out] at hq
            simp only [Option.toList_some, List.mem_append, List.mem_singleton] at hq
            rcases hq with e | e
            · exact HS.out q e
            · rw [e]; exact h9
          case measure => simp [intOf]; omega
        · have z9 : (9000 : Int) < (s.size : Int) := by omega
          have hk0 := hkn _ (Below.refl _ _)
          clear p2 z0
          go_wp2_with (go_at_call 7; refine hk0.mono ?_; rintro e w1 ⟨rfl, b1⟩; obtain ⟨-, -, p9, z9⟩ := hbox _ (b1.mono (by omega)))
          exact HH.out.2.2.2 _ Tryd.f4 _ rfl rfl (b1.mono (by omega))
      · have z1 : ¬ (i : Int) < (N : Int) := by omega
        clear p2 z0
        have c22 : Calls Tryd.prog 22 #[.slice ao N c] (PW w ao N c leave) fun e w1 => ∃ g d1, e = .returned (.slice (some ⟨g, 0, none⟩) N d1) ∧ Hid (Os w1 (w.heap.size + 3) (.slice (some ⟨g, 0, none⟩) (N + 1) d1) (l ++ [markS])) ∧ Hid (Rs w1 (some ⟨g, 0, none⟩) l) ∧ N + 1 ≤ d1 ∧ w.heap.size + 3 ≤ g ∧ g < w1.heap.size ∧ Below (w.heap.size + 3) (PW w ao N c leave) w1 := by
          have h := copied_any (c := c) (HH.out.2.1.below hpb.out) hnil (by rw [← HH.out.1]; exact h2)
          rw [← HH.out.1, hps] at h
          refine h.mono ?_
          rintro e w1 ⟨a1, d1, rfl, hO1, b1⟩
          obtain ⟨g, hg, -, -, hBg, hgs, -⟩ := hO1.store (k := N) (by rw [List.length_append, List.length_singleton, ← HH.out.1]; omega)
          subst hg
          obtain ⟨x1, x2, hx, hx1, -, -, hx2⟩ := hO1.shape
          simp only [Value.slice.injEq] at hx
          obtain ⟨rfl, -, rfl⟩ := hx
          rw [List.length_append, List.length_singleton, ← HH.out.1] at hx2
          have hR := hx1.take l.length
          rw [List.take_left] at hR
          exact ⟨g, _, rfl, hide hO1, hide hR, hx2, hBg, hgs, b1⟩
        have c23 : ∀ (W : World) (g c' : Nat), Hid (Rs W (some ⟨g, 0, none⟩) l) → N ≤ c' → Below (w.heap.size + 3) (PW w ao N c leave) W → Calls Tryd.prog 23 #[.slice (some ⟨g, 0, none⟩) N c'] W fun e w' => e = .returned (joinE l) ∧ Below W.heap.size W w' := fun W g c' hR hc' hW => by
          rw [HH.out.1] at hc' ⊢
          exact join_any hR.out hc' (by intro e; cases e) (Tabs.below HH.out.2.2.1 (hpb.out.trans (hW.mono (by omega)))) (by rw [← HH.out.1]; omega)
        have c24 : ∀ (W : World) (g c' : Nat), Hid (Rs W (some ⟨g, 0, none⟩) l) → Calls Tryd.prog 24 #[.slice (some ⟨g, 0, none⟩) N c'] W fun e w' => ∃ L a' c', e = .returned (.func (.func 50) #[] #[.pointer (some ⟨L, 0, none⟩)]) ∧ Hid (KAt w' L a' c' l) ∧ W.heap.size ≤ L ∧ Hid (∀ a, a' = some a → W.heap.size ≤ a.block ∧ a.block < w'.heap.size) ∧ Below W.heap.size W w' := fun W g c' hR => by
          rw [HH.out.1]
          exact fronts_any hR.out (by rw [← HH.out.1]; omega)
        have c25 : ∀ (W : World) (g c' : Nat), Hid (Rs W (some ⟨g, 0, none⟩) l) → N ≤ c' → Below (w.heap.size + 3) (PW w ao N c leave) W → Calls Tryd.prog 25 #[.slice (some ⟨g, 0, none⟩) N c'] W fun e w' => e = .returned (.bool (pathB l)) ∧ Below W.heap.size W w' := fun W g c' hR hc' hW => by
          rw [HH.out.1] at hc' ⊢
          exact path_any hR.out hc' (by intro e; cases e) (Tabs.below HH.out.2.2.1 (hpb.out.trans (hW.mono (by omega)))) (by rw [← HH.out.1]; omega)
        obtain ⟨S, E, hJ, hJ1, hJ2⟩ := joinE_form l
        simp only [hJ] at c23
        have HJ := hide (And.intro hJ1 hJ2)
        clear hJ hJ1 hJ2
        go_upto_region 12 with (first
          | (go_at_call 22; refine c22.mono ?_; rintro e w1 ⟨g, d1, rfl, HO1, HR1, hcp1, hBg, hgs, hB1⟩; dsimp only)
          | (go_at_call 23; refine (c23 _ _ _ HR1 (by omega) hB1).mono ?_; rintro e w2 ⟨rfl, b2⟩; replace HR1 := hide (HR1.out.below b2); replace HO1 := hide (HO1.out.below b2); replace hB1 := hBt hB1 b2; have hs2 := b2.size; clear b2; dsimp only)
          | (go_at_call 24; refine (c24 _ _ _ HR1).mono ?_; rintro e w3 ⟨L, a3, d3, rfl, HK, hL, HA3, b3⟩; replace HR1 := hide (HR1.out.below b3); replace HO1 := hide (HO1.out.below b3); replace hB1 := hBt hB1 b3; have hs3 := b3.size; clear b3; dsimp only)
          | (go_at_call 25; refine (c25 _ _ _ HR1 (by omega) hB1).mono ?_; rintro e w4 ⟨rfl, b4⟩; replace HR1 := hide (HR1.out.below b4); replace HO1 := hide (HO1.out.below b4); replace hB1 := hBt hB1 b4; have hs4 := b4.size; replace HK := hide (HK.out.below b4); clear b4; dsimp only))
        have hsg : g < w4.heap.size := by omega
        have hfe : ∀ W, (binOp .eql 40 (.func (.func 50) #[] #[.pointer (some ⟨L, 0, none⟩)]) .nilFunc).run Tryd.prog W = .ok (.bool false) W := fun W => by kernel_rfl
        obtain ⟨p0, p1, -, -⟩ := hbox _ hB1
        have c26 : Calls Tryd.prog 26 #[.slice ao N c] w4 fun e w' => e = .returned (.bool (pathB l)) ∧ Below w4.heap.size w4 w' := by
          rw [HH.out.1]
          exact refPath_any (HH.out.2.1.below (hpb.out.trans (hB1.mono (by omega))))
        have c27 : ∀ W, Below w4.heap.size w4 W → Calls Tryd.prog 27 #[.slice (some ⟨g, 0, none⟩) N d1, .slice ao N c] W fun e w' => e = .returned (.bool true) ∧ Only (fun j => j = g) W w' := fun W hW => by
          have hO := HO1.out.below hW
          have hR := HH.out.2.1.below (hpb.out.trans ((hBt hB1 hW).mono (by omega)))
          rw [HH.out.1] at hO ⊢
          exact left_any hO hR hnil (fun a ha hne e => by have := hau a ha hne; omega) (by rw [← HH.out.1]; exact h2)
        have hafter : ∀ W W', Below w4.heap.size w4 W → Only (fun j => j = g) W W' → Below (w.heap.size + 3) (PW w ao N c leave) W' ∧ KAt W' L a3 d3 l ∧ w4.heap.size ≤ W'.heap.size := fun W W' hW hO => by
          refine ⟨Below.only (hBt hB1 hW) hO (Nat.le_trans (by omega) hW.size) (fun j e => by omega), (HK.out.below hW).only hO (by omega) (fun a ha e => ?_), Nat.le_trans hW.size hO.size⟩
          have := (HA3.out a ha).1
          omega
        have HAf := hide hafter
        clear hafter
        go_cut [10, 84] from 43 to 84 (fun _ v84 wq => v84 = .bool false ∧ Hid (Below (w.heap.size + 3) (PW w ao N c leave) wq ∧ KAt wq L a3 d3 l ∧ w4.heap.size ≤ wq.heap.size))
        case first =>
          cases hpl : pathB l with
          | true =>
            obtain ⟨hS, hE⟩ := HJ.out.1 hpl
            have e1 : (E == 0) = true := by rw [hE]; rfl
            have e2 : (E != 0) = false := by rw [hE]; rfl
            have c28 : ∀ W, Below (w.heap.size + 3) (PW w ao N c leave) W → Calls Tryd.prog 28 #[.slice ao N c] W fun e w' => e = .returned (.string ⟨(joinB l).toArray⟩) ∧ w' = W := fun W hW => by
              rw [HH.out.1]
              exact refJoin_any (HH.out.2.1.below (hpb.out.trans (hW.mono (by omega)))) hpl
            rw [hpl] at c26
            simp only [← hS] at c28
            clear HJ hS hE
            go_wp2_with (first
              | (go_at_call 26; refine c26.mono ?_; rintro e w5 ⟨rfl, b5⟩; obtain ⟨p0, p1, -, -⟩ := hbox _ (hBt hB1 b5); dsimp only)
              | (go_at_call 27; refine (c27 _ b5).mono ?_; rintro e w6 ⟨rfl, o6⟩; have HA6 := HAf.out _ _ b5 o6; obtain ⟨p0, p1, -, -⟩ := hbox _ HA6.1; dsimp only)
              | (go_at_call 28; refine (c28 _ HA6.1).mono ?_; rintro e w7 ⟨rfl, hw7⟩; have hwx := hw7.symm; clear hw7; subst hwx; dsimp only)
              | (go_at_call 21; refine (num_any _ _).mono ?_; rintro e w7 ⟨rfl, hw7⟩; have hwx := hw7.symm; clear hw7; subst hwx; dsimp only))
            go_meet
            exact ⟨rfl, hide HA6⟩
          | false =>
            obtain ⟨hS, hE⟩ := HJ.out.2 hpl
            have e1 : (E == 2) = true := by rw [hE]; rfl
            have e2 : (E != 2) = false := by rw [hE]; rfl
            have e3 : (S.toList == []) = true := by rw [hS, ByteArray.toList_eq]; rfl
            rw [hpl] at c26
            clear HJ hS hE
            go_wp2_with (first
              | (go_at_call 26; refine c26.mono ?_; rintro e w5 ⟨rfl, b5⟩; obtain ⟨p0, p1, -, -⟩ := hbox _ (hBt hB1 b5); dsimp only)
              | (go_at_call 27; refine (c27 _ b5).mono ?_; rintro e w6 ⟨rfl, o6⟩; have HA6 := HAf.out _ _ b5 o6; obtain ⟨p0, p1, -, -⟩ := hbox _ HA6.1; dsimp only)
              | (go_at_call 21; refine (num_any _ _).mono ?_; rintro e w7 ⟨rfl, hw7⟩; have hwx := hw7.symm; clear hw7; subst hwx; dsimp only))
            go_meet
            exact ⟨rfl, hide HA6⟩
        case rest =>
          obtain ⟨rfl, HQ⟩ := hcut
          have hLc : L < wc.heap.size := World.block_lt_of_cell? _ _ HQ.out.2.1.box
          have hac : ∀ a, a3 = some a → a.block < wc.heap.size := fun a ha => by have := (HA3.out a ha).2; have := HQ.out.2.2; omega
          have hpc : w.heap.size + 3 ≤ wc.heap.size := by rw [← hps]; exact HQ.out.1.size
          have HAC := hide hac
          clear c22 c23 c24 c25 c26 c27 HAf hfe p0 p1 HO1 HR1 HK HA3 hL hs2 hs3 hs4 hsg hgs hBg hcp1 hB1 HJ hac
          go_wp2
          refine wp_loop_rounds 3 ?_
          rw [rounds_succ]
          go_wp2
          have hwcwc : Hid (Below wc.heap.size wc wc) := hide (Below.refl _ _)
          obtain ⟨wN0, hwN⟩ : ∃ wN, wc.alloc (.cells #[.int .i64 0] 3) = wN := ⟨_, rfl⟩
          have hsN0 : wN0.heap.size = wc.heap.size + 1 := by rw [← hwN]; simp
          have hTc : wN0.cell? ⟨wc.heap.size, 0, none⟩ = some (.int .i64 0) := by rw [← hwN, cell_of_row _ _ 0 _ 3 (0, 0) (heap_alloc_new wc _)]; rfl
          have bN : Below wc.heap.size wc wN0 := by rw [← hwN]; exact (Below.refl _ wc).alloc (Nat.le_refl _) _
          rw [hwN]
          clear hwN
          obtain ⟨wA0, hwA⟩ : ∃ wA, wN0.alloc (.cells #[.int .i64 0] 3) = wA := ⟨_, rfl⟩
          have hsA0 : wA0.heap.size = wc.heap.size + 1 + 1 := by rw [← hwA]; simp [hsN0]
          have bA : Below wN0.heap.size wN0 wA0 := by rw [← hwA]; exact (Below.refl _ wN0).alloc (Nat.le_refl _) _
          have hI0 : TurnI wN0 (wc.heap.size + 1) 0 wA0 := ⟨by rw [← hsN0]; exact bA, by rw [← hsN0, ← hwA]; exact heap_alloc_new wN0 _⟩
          rw [hwA]
          clear hwA
          have bcN0 : Below wc.heap.size wc wN0 := hwcwc.out.trans (bN.mono (by omega))
          have HF0 : Hid (∀ W, Below (wc.heap.size + 1) wN0 W → W.cell? ⟨w.heap.size, 0, none⟩ = some (.slice ao N c) ∧ W.cell? ⟨w.heap.size + 1, 0, none⟩ = some (.int .i64 leave) ∧ W.cell? ⟨wc.heap.size, 0, none⟩ = some (.int .i64 0) ∧ Rs W ao l ∧ Below (w.heap.size + 3) (PW w ao N c leave) W ∧ Below wc.heap.size wc W) := hide (fun W hW => by
            have q1 : Below wc.heap.size wc W := bcN0.trans (hW.mono (by omega))
            have q2 := HQ.out.1.trans (q1.mono hpc)
            obtain ⟨p0, p1, -, -⟩ := hbox W q2
            exact ⟨p0, p1, (hW.cell (by simp)).trans hTc, HH.out.2.1.below (hpb.out.trans (q2.mono (by omega))), q2, q1⟩)
          have hKA : KAt wA0 L a3 d3 l := HQ.out.2.1.below (bcN0.trans (bA.mono (by omega)))
          refine range_frb (Q := _) 4 L a3 d3 l rfl rfl hKA (by rw [← HH.out.1]; omega) (fun j => j = wc.heap.size + 1) (by omega) (fun a ha => by have := HAC.out a ha; omega) (by omega) (by omega) (fun a ha => by have := HAC.out a ha; omega)
            (TurnI wN0 (wc.heap.size + 1)) (fun W => (0 : Nat) = 0 ∧ ∃ k : Nat, (k : Int) = leave ∧ TurnI wN0 (wc.heap.size + 1) k W) (fun W => ∃ k : Nat, (k = N ∨ ((0 : Nat) = 0 ∧ (k : Int) = leave)) ∧ TurnI wN0 (wc.heap.size + 1) k W)
            (fun k W W' hi ho => hi.only (by intro j e; omega) ho) (fun W W' hi ho => ⟨hi.1, hi.2.choose, hi.2.choose_spec.1, hi.2.choose_spec.2.only (by intro j e; omega) ho⟩) hI0 ?hround (fun _ _ h => h) (fun W h => ⟨_, .inl HH.out.1.symm, h⟩) (fun W h => ⟨_, .inr ⟨h.1, h.2.choose_spec.1⟩, h.2.choose_spec.2⟩) ?hdone
          case hround =>
            intro k key v W0 W hx hi hbW0 hO hls
            have hkl : k < N := by rw [HH.out.1]; exact (List.getElem?_eq_some_iff.1 hx).1
            have hki : (k : Int) < (N : Int) := by omega
            have hkd : ¬ (N : Int) ≤ (k : Int) := by omega
            obtain ⟨av, cv, hv, hRv, -, hnv, hcv⟩ := hO.shape
            have htk : (l.take k).length = k := by rw [List.length_take, ← HH.out.1]; omega
            rw [htk] at hv hcv
            subst hv
            have hiW := hi.below hbW0
            clear hI0 hKA bA bN hTc
            gi_wp2
            refine ⟨Only.refl _ W, fun W2 ho2 => ?_⟩
            have hs0 := hbW0.size
            have hi2 : TurnI wN0 (wc.heap.size + 1) k W2 := hiW.only (by intro j e; omega) ho2
            have hNW : wc.heap.size + 1 < W0.heap.size := hi.size
            have hvW : ∀ j, Value.ownBlock (.slice av k cv) = some j → W0.heap.size ≤ j := fun j hj => (World.ownsRow.lt hO j hj).1
            have hO2 : Os W2 W0.heap.size (.slice av k cv) (l.take k) := hO.only ho2 (fun j hj e => by have := hvW j hj; omega)
            obtain ⟨p0, p1, pt, hR2, hP2, -⟩ := HF0.out W2 hi2.1
            obtain ⟨ab, off, hao, hcx⟩ := hR2.at hx
            subst hao
            have n0 := hi2.cell.1
            have hsl := sliceS_hi (ao := some ⟨ab, off, none⟩) (n := N) (c := c) (j := k) (by omega) (by intro e; cases e) W2
            have c20 : Calls Tryd.prog 20 #[.slice av k cv, .slice (some ⟨ab, off, none⟩) k c] W2 fun e w' => e = .returned (.bool true) ∧ ∃ n, w' = W2.drewN n := by
              obtain ⟨x1, x2, hx1, hx2, -⟩ := hO2.shape
              rw [htk] at hx1
              cases hx1
              have := same_any (c := cv) (d := c) hx2 (hR2.take k) (by rw [htk]; omega) (fun q hq => by have := HS.out q (by rw [List.take_of_length_le (by rw [← HH.out.1]; omega)]; exact List.mem_of_mem_take hq); omega)
              rw [ord_P.refl, htk] at this
              exact this
            have HI2 := hide (And.intro hi2 (And.intro hO2 (And.intro ho2 hvW)))
            clear hi hiW hi2 hO2 hO hRv hbW0 ho2 hR2 hx hvW
            gi_wp2_with (refine ⟨trivial, ?_⟩; gi_at_call 20; refine (callsIn_wide.2 c20).mono ?_; rintro e W3 ⟨rfl, n3, hW3⟩; have HW3 := hide hW3; clear hW3)
            have b23 : Below W2.heap.size W2 W3 := by rw [HW3.out]; exact below_drew W2 n3
            have HI3 := hide (And.intro (HI2.out.1.below b23) (HI2.out.2.1.below b23))
            clear HW3 p0 p1 pt hcx n0 hsl c20
            gi_loopw [15] (fun v15 wz => ∃ (j : Nat) (X : List ByteArray), j ≤ k ∧ v15 = .int .i64 j ∧ X.length = k ∧ Hid (Os wz W0.heap.size (.slice av k cv) X) ∧ Hid (Only (fun q => Value.ownBlock (.slice av k cv) = some q) W3 wz)) (fun v15 _ => k - (intOf v15).toNat)
            case atStart => exact ⟨0, l.take k, by omega, rfl, htk, hide HI3.out.2, hide (Only.refl _ _)⟩
            case round =>
              obtain ⟨j, X, hj, rfl, hX, HO, HW⟩ := hrel
              by_cases hjk : j < k
              · have zj : (j : Int) < (k : Int) := by omega
                have zj2 : decide (j < k) = true := by simpa using hjk
                obtain ⟨gg, hgg, ⟨s2, -, hc2⟩, hfz, -, -, hst⟩ := HO.out.store (k := j) (by omega)
                subst hgg
                have hst' := hide (hst ⟨#[115, 112, 111, 105, 108, 116]⟩)
                clear hst
                gi_wp2
                go_roundw
                case rel => exact ⟨j + 1, X.set j ⟨#[115, 112, 111, 105, 108, 116]⟩, by omega, by go_num, by rw [List.length_set]; exact hX, hide hst'.out.1, hide (HW.out.trans (Only.ofGrown hst'.out.2) (fun q _ e => by simpa [Value.ownBlock] using e))⟩
                case measure => simp [intOf]; omega
              · have zj : ¬ (j : Int) < (k : Int) := by omega
                have zj2 : decide (j < k) = false := by simpa using hjk
                have hiZ : TurnI wN0 (wc.heap.size + 1) k wr := HI3.out.1.only (fun q hq => by have := HI2.out.2.2.2 q hq; omega) HW.out
                obtain ⟨n7, z7⟩ := hiZ.cell
                obtain ⟨-, p1, pt, -, -, -⟩ := HF0.out wr hiZ.1
                have hEnd : Only (Turns (fun j => j = wc.heap.size + 1) W0.heap.size (.slice av k cv)) W2 (wr.setCell ⟨wc.heap.size + 1, 0, none⟩ (.int .i64 ((k : Int) + 1))) ∧ TurnI wN0 (wc.heap.size + 1) (k + 1) (wr.setCell ⟨wc.heap.size + 1, 0, none⟩ (.int .i64 ((k : Int) + 1))) := by
                  refine ⟨?_, hiZ.count⟩
                  have o1 : Only (Turns (fun j => j = wc.heap.size + 1) W0.heap.size (.slice av k cv)) W2 W3 := (Only.ofBelow b23).mono (fun _ _ d => d.elim)
                  have o2 := o1.trans HW.out (fun q _ e => .inr e)
                  exact o2.trans (Only.ofGrown (grown_setCell wr ⟨wc.heap.size + 1, 0, none⟩ (.int .i64 ((k : Int) + 1)))) (fun q _ e => .inl ⟨by cases e; rfl, by cases e; exact hNW⟩)
                have wk : IntKind.i64.wrap ((k : Int) + 1) = (k : Int) + 1 := by rw [IntKind.wrap_i64]; omega
                have hne1 : ¬ (w.heap.size + 1 = wc.heap.size + 1) := by omega
                have hne2 : ¬ (wc.heap.size + 1 = w.heap.size + 1) := by omega
                have hne3 : ¬ (w.heap.size = wc.heap.size) := by omega
                have hne4 : ¬ (wc.heap.size = w.heap.size) := by omega
                have HE := hide hEnd
                clear hEnd hiZ HI3 b23
                by_cases hlv : (k : Int) + 1 = leave
                · have hl1 : ((k : Int) + 1 == leave) = true := by simpa using hlv
                  have HL := hide hlv
                  clear hlv
                  gi_wp2
                  obtain ⟨f1, f2⟩ := HE.out
                  exact ⟨f1, rfl, k + 1, by rw [← HL.out]; simp, f2⟩
                · have hl1 : ((k : Int) + 1 == leave) = false := by simpa using hlv
                  have HL := hide hlv
                  clear hlv
                  gi_wp2
                  exact HE.out
          case hdone =>
            intro wv hJ hlsv hK0
            obtain ⟨k, hk, hi⟩ := hJ
            obtain ⟨p0, p1, pt, -, eB, eC⟩ := HF0.out wv hi.1
            have n7 := hi.cell.1
            have hsv := eC.size
            have hwcwv : Hid (Below wc.heap.size wc wv) := hide eC
            have HV := hide (And.intro eB hK0)
            have hor : ((k : Int) == (N : Int)) = true ∨ (((k : Int) == (N : Int)) = false ∧ ((k : Int) == leave) = true) := by
              by_cases hkN : k = N
              · left; rw [hkN, beq_self_eq_true]
              · right
                rcases hk with e | ⟨-, e⟩
                · exact absurd e hkN
                · exact ⟨by rw [beq_eq_false_iff_ne]; omega, by simpa using e⟩
            have hor2 : (((k : Int) == (N : Int)) = true ∧ ((k : Int) != (N : Int)) = false) ∨ (((k : Int) == (N : Int)) = false ∧ ((k : Int) != (N : Int)) = true ∧ ((k : Int) == leave) = true ∧ ((k : Int) != leave) = false) := by
              rcases hor with e | ⟨e, e'⟩
              · exact .inl ⟨e, by rw [bne, e]; rfl⟩
              · exact .inr ⟨e, by rw [bne, e]; rfl, e', by rw [bne, e']; rfl⟩
            clear hI0 hKA bA bN hTc hi hk eB eC hK0 hor
            go_upto_region 29 with fail
            go_cut [152] from 130 to 152 (fun v152 wq => v152 = .bool false ∧ wq = wv)
            case first =>
              rcases hor2 with ⟨q1, q2⟩ | ⟨q1, q2, q3, q4⟩
              · go_wp2
                go_meet
                exact ⟨rfl, rfl⟩
              · go_wp2
                go_meet
                exact ⟨rfl, rfl⟩
            case rest =>
              obtain ⟨rfl, hwf⟩ := hcut
              have hwx := hwf.symm
              clear hwf hor2
              subst hwx
              clear n7
              go_wp2
              rw [rounds_succ]
              go_wp2
              obtain ⟨wN1, hwN⟩ : ∃ wN, wv.alloc (.cells #[.int .i64 1] 3) = wN := ⟨_, rfl⟩
              have hsN1 : wN1.heap.size = wv.heap.size + 1 := by rw [← hwN]; simp
              have hTc : wN1.cell? ⟨wv.heap.size, 0, none⟩ = some (.int .i64 1) := by rw [← hwN, cell_of_row _ _ 0 _ 3 (0, 0) (heap_alloc_new wv _)]; rfl
              have bN : Below wv.heap.size wv wN1 := by rw [← hwN]; exact (Below.refl _ wv).alloc (Nat.le_refl _) _
              rw [hwN]
              clear hwN
              obtain ⟨wA1, hwA⟩ : ∃ wA, wN1.alloc (.cells #[.int .i64 0] 3) = wA := ⟨_, rfl⟩
              have hsA1 : wA1.heap.size = wv.heap.size + 1 + 1 := by rw [← hwA]; simp [hsN1]
              have bA : Below wN1.heap.size wN1 wA1 := by rw [← hwA]; exact (Below.refl _ wN1).alloc (Nat.le_refl _) _
              have hI0 : TurnI wN1 (wv.heap.size + 1) 0 wA1 := ⟨by rw [← hsN1]; exact bA, by rw [← hsN1, ← hwA]; exact heap_alloc_new wN1 _⟩
              rw [hwA]
              clear hwA
              have bcN1 : Below wc.heap.size wc wN1 := hwcwv.out.trans (bN.mono (by omega))
              have HF1 : Hid (∀ W, Below (wv.heap.size + 1) wN1 W → W.cell? ⟨w.heap.size, 0, none⟩ = some (.slice ao N c) ∧ W.cell? ⟨w.heap.size + 1, 0, none⟩ = some (.int .i64 leave) ∧ W.cell? ⟨wv.heap.size, 0, none⟩ = some (.int .i64 1) ∧ Rs W ao l ∧ Below (w.heap.size + 3) (PW w ao N c leave) W ∧ Below wc.heap.size wc W) := hide (fun W hW => by
                have q1 : Below wc.heap.size wc W := bcN1.trans (hW.mono (by omega))
                have q2 := HQ.out.1.trans (q1.mono hpc)
                obtain ⟨p0, p1, -, -⟩ := hbox W q2
                exact ⟨p0, p1, (hW.cell (by simp)).trans hTc, HH.out.2.1.below (hpb.out.trans (q2.mono (by omega))), q2, q1⟩)
              have hKA : KAt wA1 L a3 d3 l := HQ.out.2.1.below (bcN1.trans (bA.mono (by omega)))
              refine range_frb (Q := _) 4 L a3 d3 l rfl rfl hKA (by rw [← HH.out.1]; omega) (fun j => j = wv.heap.size + 1) (by omega) (fun a ha => by have := HAC.out a ha; omega) (by omega) (by omega) (fun a ha => by have := HAC.out a ha; omega)
                (TurnI wN1 (wv.heap.size + 1)) (fun W => (1 : Nat) = 0 ∧ ∃ k : Nat, (k : Int) = leave ∧ TurnI wN1 (wv.heap.size + 1) k W) (fun W => ∃ k : Nat, (k = N ∨ ((1 : Nat) = 0 ∧ (k : Int) = leave)) ∧ TurnI wN1 (wv.heap.size + 1) k W)
                (fun k W W' hi ho => hi.only (by intro j e; omega) ho) (fun W W' hi ho => ⟨hi.1, hi.2.choose, hi.2.choose_spec.1, hi.2.choose_spec.2.only (by intro j e; omega) ho⟩) hI0 ?hround (fun _ _ h => h) (fun W h => ⟨_, .inl HH.out.1.symm, h⟩) (fun W h => ⟨_, .inr ⟨h.1, h.2.choose_spec.1⟩, h.2.choose_spec.2⟩) ?hdone
              case hround =>
                intro k key v W0 W hx hi hbW0 hO hls
                have hkl : k < N := by rw [HH.out.1]; exact (List.getElem?_eq_some_iff.1 hx).1
                have hki : (k : Int) < (N : Int) := by omega
                have hkd : ¬ (N : Int) ≤ (k : Int) := by omega
                obtain ⟨av, cv, hv, hRv, -, hnv, hcv⟩ := hO.shape
                have htk : (l.take k).length = k := by rw [List.length_take, ← HH.out.1]; omega
                rw [htk] at hv hcv
                subst hv
                have hiW := hi.below hbW0
                clear hI0 hKA bA bN hTc
                gi_wp2
                refine ⟨Only.refl _ W, fun W2 ho2 => ?_⟩
                have hs0 := hbW0.size
                have hi2 : TurnI wN1 (wv.heap.size + 1) k W2 := hiW.only (by intro j e; omega) ho2
                have hNW : wv.heap.size + 1 < W0.heap.size := hi.size
                have hvW : ∀ j, Value.ownBlock (.slice av k cv) = some j → W0.heap.size ≤ j := fun j hj => (World.ownsRow.lt hO j hj).1
                have hO2 : Os W2 W0.heap.size (.slice av k cv) (l.take k) := hO.only ho2 (fun j hj e => by have := hvW j hj; omega)
                obtain ⟨p0, p1, pt, hR2, hP2, -⟩ := HF1.out W2 hi2.1
                obtain ⟨ab, off, hao, hcx⟩ := hR2.at hx
                subst hao
                have n0 := hi2.cell.1
                have hsl := sliceS_hi (ao := some ⟨ab, off, none⟩) (n := N) (c := c) (j := k) (by omega) (by intro e; cases e) W2
                have c20 : Calls Tryd.prog 20 #[.slice av k cv, .slice (some ⟨ab, off, none⟩) k c] W2 fun e w' => e = .returned (.bool true) ∧ ∃ n, w' = W2.drewN n := by
                  obtain ⟨x1, x2, hx1, hx2, -⟩ := hO2.shape
                  rw [htk] at hx1
                  cases hx1
                  have := same_any (c := cv) (d := c) hx2 (hR2.take k) (by rw [htk]; omega) (fun q hq => by have := HS.out q (by rw [List.take_of_length_le (by rw [← HH.out.1]; omega)]; exact List.mem_of_mem_take hq); omega)
                  rw [ord_P.refl, htk] at this
                  exact this
                have HI2 := hide (And.intro hi2 (And.intro hO2 (And.intro ho2 hvW)))
                clear hi hiW hi2 hO2 hO hRv hbW0 ho2 hR2 hx hvW
                gi_wp2_with (refine ⟨trivial, ?_⟩; gi_at_call 20; refine (callsIn_wide.2 c20).mono ?_; rintro e W3 ⟨rfl, n3, hW3⟩; have HW3 := hide hW3; clear hW3)
                have b23 : Below W2.heap.size W2 W3 := by rw [HW3.out]; exact below_drew W2 n3
                have HI3 := hide (And.intro (HI2.out.1.below b23) (HI2.out.2.1.below b23))
                clear HW3 p0 p1 pt hcx n0 hsl c20
                gi_loopw [15] (fun v15 wz => ∃ (j : Nat) (X : List ByteArray), j ≤ k ∧ v15 = .int .i64 j ∧ X.length = k ∧ Hid (Os wz W0.heap.size (.slice av k cv) X) ∧ Hid (Only (fun q => Value.ownBlock (.slice av k cv) = some q) W3 wz)) (fun v15 _ => k - (intOf v15).toNat)
                case atStart => exact ⟨0, l.take k, by omega, rfl, htk, hide HI3.out.2, hide (Only.refl _ _)⟩
                case round =>
                  obtain ⟨j, X, hj, rfl, hX, HO, HW⟩ := hrel
                  by_cases hjk : j < k
                  · have zj : (j : Int) < (k : Int) := by omega
                    have zj2 : decide (j < k) = true := by simpa using hjk
                    obtain ⟨gg, hgg, ⟨s2, -, hc2⟩, hfz, -, -, hst⟩ := HO.out.store (k := j) (by omega)
                    subst hgg
                    have hst' := hide (hst ⟨#[115, 112, 111, 105, 108, 116]⟩)
                    clear hst
                    gi_wp2
                    go_roundw
                    case rel => exact ⟨j + 1, X.set j ⟨#[115, 112, 111, 105, 108, 116]⟩, by omega, by go_num, by rw [List.length_set]; exact hX, hide hst'.out.1, hide (HW.out.trans (Only.ofGrown hst'.out.2) (fun q _ e => by simpa [Value.ownBlock] using e))⟩
                    case measure => simp [intOf]; omega
                  · have zj : ¬ (j : Int) < (k : Int) := by omega
                    have zj2 : decide (j < k) = false := by simpa using hjk
                    have hiZ : TurnI wN1 (wv.heap.size + 1) k wr := HI3.out.1.only (fun q hq => by have := HI2.out.2.2.2 q hq; omega) HW.out
                    obtain ⟨n7, z7⟩ := hiZ.cell
                    obtain ⟨-, p1, pt, -, -, -⟩ := HF1.out wr hiZ.1
                    have hEnd : Only (Turns (fun j => j = wv.heap.size + 1) W0.heap.size (.slice av k cv)) W2 (wr.setCell ⟨wv.heap.size + 1, 0, none⟩ (.int .i64 ((k : Int) + 1))) ∧ TurnI wN1 (wv.heap.size + 1) (k + 1) (wr.setCell ⟨wv.heap.size + 1, 0, none⟩ (.int .i64 ((k : Int) + 1))) := by
                      refine ⟨?_, hiZ.count⟩
                      have o1 : Only (Turns (fun j => j = wv.heap.size + 1) W0.heap.size (.slice av k cv)) W2 W3 := (Only.ofBelow b23).mono (fun _ _ d => d.elim)
                      have o2 := o1.trans HW.out (fun q _ e => .inr e)
                      exact o2.trans (Only.ofGrown (grown_setCell wr ⟨wv.heap.size + 1, 0, none⟩ (.int .i64 ((k : Int) + 1)))) (fun q _ e => .inl ⟨by cases e; rfl, by cases e; exact hNW⟩)
                    have wk : IntKind.i64.wrap ((k : Int) + 1) = (k : Int) + 1 := by rw [IntKind.wrap_i64]; omega
                    have hne1 : ¬ (w.heap.size + 1 = wv.heap.size + 1) := by omega
                    have hne2 : ¬ (wv.heap.size + 1 = w.heap.size + 1) := by omega
                    have hne3 : ¬ (w.heap.size = wv.heap.size) := by omega
                    have hne4 : ¬ (wv.heap.size = w.heap.size) := by omega
                    have HE := hide hEnd
                    clear hEnd hiZ HI3 b23
                    gi_wp2
                    exact HE.out
              case hdone =>
                intro wx hJ hlsx hK1
                obtain ⟨k, hk, hiX⟩ := hJ
                obtain ⟨p0, p1, pt, -, eB, eC⟩ := HF1.out wx hiX.1
                have n7 := hiX.cell.1
                have hsx := eC.size
                have hkN : k = N := by
                  rcases hk with e | ⟨e, -⟩
                  · exact e
                  · exact absurd e (by decide)
                have e1 : ((k : Int) == (N : Int)) = true := by rw [hkN, beq_self_eq_true]
                have e2 : ((k : Int) != (N : Int)) = false := by rw [bne, e1]; rfl
                clear hk hkN
                have hsx1 : wv.heap.size + 1 < wx.heap.size   := hiX.size
                have hK01 : wx.heap[wA0.heap.size]? = some (.deferred (some [])) := (hiX.1.block _ (by omega)).trans ((bN.block _ hlsv).trans HV.out.2)
                have b9 : Below wx.heap.size wx (wx.alloc (.cells #[.int .i64 2] 3)) := (Below.refl _ wx).alloc (Nat.le_refl _) _
                have eB9 := hBt eB b9
                have hk9 := hkn _ eB9
                have HX := hide (And.intro hK01 (And.intro hK1 (And.intro b9 eB9)))
                clear hI0 hKA bA bN hTc hiX eB eC hK01 hK1 b9 eB9
                go_wp2
                rw [rounds_succ]
                go_wp2_with (go_at_call 7; refine hk9.mono ?_; rintro e w9 ⟨rfl, b10⟩; obtain ⟨-, -, p9, z9⟩ := hbox _ (hBt HX.out.2.2.2 b10); dsimp only)
                obtain ⟨hK01, hK1, b9, eB9⟩ := HX.out
                have eB10 := hBt eB9 b10
                have q3 := (PW_boxes w ao N c leave w9 eB10).2.2
                have hs9 := b9.size
                have hs10 := b10.size
                have k0 := (b10.block _ (Nat.lt_of_lt_of_le (Array.getElem?_eq_some_iff.1 hK01).1 hs9)).trans ((b9.block _ (Array.getElem?_eq_some_iff.1 hK01).1).trans hK01)
                have k1 := (b10.block _ (Nat.lt_of_lt_of_le (Array.getElem?_eq_some_iff.1 hK1).1 hs9)).trans ((b9.block _ (Array.getElem?_eq_some_iff.1 hK1).1).trans hK1)
                have hset := Only.ofGrown (grown_setCell w9 ⟨w.heap.size + 1 + 1, 0, none⟩ (.bool true))
                have hx0 := (hset.block wA0.heap.size (Array.getElem?_eq_some_iff.1 k0).1 (by intro e; have e' : w.heap.size + 1 + 1 = wA0.heap.size := (by injection e); omega)).trans k0
                have hx1 := (hset.block wA1.heap.size (Array.getElem?_eq_some_iff.1 k1).1 (by intro e; have e' : w.heap.size + 1 + 1 = wA1.heap.size := (by injection e); omega)).trans k1
                have hcell : (w9.setCell ⟨w.heap.size + 1 + 1, 0, none⟩ (.bool true)).cell? ⟨w.heap.size + 1 + 1, 0, none⟩ = some (.bool true) := by rw [cell_of_row _ _ 0 _ 4 (0, 0) (heap_setCell_same _ _ _ _ 4 _ q3)]; rfl
                have hB6 : Below w.heap.size w (w9.setCell ⟨w.heap.size + 1 + 1, 0, none⟩ (.bool true)) := (hpb.out.trans (eB10.mono (by omega))).setCell (by simp only; omega) _
                have o1 := only_putObj (w9.setCell ⟨w.heap.size + 1 + 1, 0, none⟩ (.bool true)) wA1.heap.size (.deferred none)
                have hx0' := (o1.block wA0.heap.size (Array.getElem?_eq_some_iff.1 hx0).1 (by omega)).trans hx0
                have o2 := only_putObj ((w9.setCell ⟨w.heap.size + 1 + 1, 0, none⟩ (.bool true)).putObj wA1.heap.size (.deferred none)) wA0.heap.size (.deferred none)
                exact leave_mark (fn := Tryd.f4) hx1 (leave_mark hx0' (leave_cell (w.heap.size + 1 + 1) (x := true) rfl rfl (o2.cell (o1.cell hcell (by simp only; omega)) (by simp only; omega)) ⟨rfl, Below.only (Below.only hB6 o1 hB6.size (by intro j e; omega)) o2 (by have := hB6.size; simpa using this) (by intro j e; omega)⟩))

  · have z2 : (200 : Int) < (N : Int) := by omega
    have hk0 := hkn _ (Below.refl _ _)
    unfold PW at hk0
    go_wp2_with (go_at_call 7; refine hk0.mono ?_; rintro e w1 ⟨rfl, b1⟩; obtain ⟨-, -, p9, z9⟩ := hbox _ (b1.mono (by simp)))
    exact HH.out.2.2.2 _ Tryd.f4 _ rfl rfl (b1.mono (by simp))
end Go.Proofs.YtcpigbojebjlaaaDoor
