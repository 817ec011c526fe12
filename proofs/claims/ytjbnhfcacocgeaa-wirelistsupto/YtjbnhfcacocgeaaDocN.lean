/-
  THE WALK over the document's own list of numbers.
-/
import Derived.Test.YtjbnhfcacocgeaaTakes
namespace Go.Proofs.Ytjbnhfcacocgeaa
open Go.RowKit
variable {T : Nat}

/-- How far a loop over numbers is from its end. -/
def far (n : Nat) (e i : Value) : Nat := if intOf e = 0 then n - (intOf i).toNat + 1 else 0

theorem far_step (n j : Nat) (er : Int) (h : j < n) : far n (.int .i64 er) (.int .u64 ((j : Int) + 1)) < far n (.int .i64 0) (.int .u64 (j : Int)) := by
  have e1 : far n (.int .i64 0) (.int .u64 (j : Int)) = n - j + 1 := by
    show (if (0 : Int) = 0 then n - (j : Int).toNat + 1 else 0) = _
    simp
  have e2 : far n (.int .i64 er) (.int .u64 ((j : Int) + 1)) ≤ n - (j + 1) + 1 := by
    show (if er = 0 then n - ((j : Int) + 1).toNat + 1 else 0) ≤ _
    split <;> omega
  omega

set_option maxHeartbeats 1000000 in
set_option maxRecDepth 100000 in
theorem dnums_any (D : Nat) (most : Int) (LB l : List Int) (w : World) (hD : Doc T w D LB l) (hm0 : 0 ≤ most) (hm : most ≤ 9223372036854775807) :
    Calls Try.prog 44 #[.pointer (some ⟨D, 0, none⟩), .int .i64 most] w fun e w' =>
      ∃ ao cap, e = .returned (.tuple #[.slice ao (rnums most l).1.length cap, .int .i64 (rnums most l).2.1]) ∧ OwnQ w' w.heap.size (.slice ao (rnums most l).1.length cap) (rnums most l).1 ∧ Doc T w' D LB (rnums most l).2.2 ∧ w.grownBy w' (some D) := by
  obtain ⟨i0, hi, hz0, hz1, hz2⟩ := info_parts Try.info22
  obtain ⟨bo, cap, at', c0, c1, f1, hsz, hat, hz, HL, hlc, hr, hnil, h8⟩ := hD.cells
  have hTD := hD.le
  have h8l : ∀ x ∈ l, 0 ≤ x ∧ x ≤ 255 := fun x hx => h8 x (by rw [HL.out] at hx; exact List.mem_of_mem_drop hx)
  have hll : l.length ≤ 1048576 := by rw [HL.out]; simp; omega
  rcases hx : Plain.readN 0 0 l with _ | ⟨n, k⟩
  · have HB : Hid (rnums most l = ([], 4, l)) := by
      show rnums most l = _
      have : rcount most l = (0, 4, l) := by simp [rcount, hx]; omega
      simp [rnums, this]
    have HX := hide hx
    clear hx
    go_enter Try.func44, Try.ntmps44
    go_wp2_with (go_at_call 39; refine (dnumber_none D LB l _ hD HX.out).mono ?_; rintro e w1 ⟨rfl, hD1, hg1⟩; obtain ⟨bo1, cap1, at1, d0, d1, f1', hsz1, _⟩ := hD1.cells)
    refine wp_loop_rounds 1 ?_
    rw [rounds_succ]
    go_wp2
    go_ret2
    rw [HB.out]
    obtain ⟨r1, r2⟩ := Doc.back hg1 hD1 hat HL.out rfl
    exact ⟨none, 0, rfl, World.ownsRow_nil _ _ _ _, r1, r2⟩
  · obtain ⟨m, e1, e2, e3, e4, e5, e6, e7⟩ := Plain.readN_spec l 0 0 n k (by omega) (by simp) h8l hx
    have HX := hide hx
    by_cases hlt : most < n
    · have HB : Hid (rnums most l = ([], 3, l)) := by
        show rnums most l = _
        have : rcount most l = (0, 3, l) := by simp [rcount, hx, hlt]; omega
        simp [rnums, this]
      clear hx e6 e7 e1
      go_enter Try.func44, Try.ntmps44
      go_wp2_with (go_at_call 39; refine (dnumber_some D n k LB l _ hD HX.out).mono ?_; rintro e w1 ⟨rfl, hD1, hg1⟩; obtain ⟨bo1, cap1, at1, d0, d1, f1', hsz1, _⟩ := hD1.cells)
      refine wp_loop_rounds 1 ?_
      rw [rounds_succ]
      go_wp2
      go_ret2
      rw [HB.out]
      obtain ⟨r1, r2⟩ := Doc.back hg1 hD1 hat HL.out rfl
      exact ⟨none, 0, rfl, World.ownsRow_nil _ _ _ _, r1, r2⟩
    · have hrc : rcount most l = ((n : Int), 0, l.drop k) := by simp [rcount, hx, hlt]; omega
      have HB : Hid (rnums most l = if (readMany n (l.drop k)).2.1 = 0 then readMany n (l.drop k) else ([], (readMany n (l.drop k)).2.1, l)) := by
        show rnums most l = _
        rw [rnums, hrc]; simp
      have hdl : (l.drop k).length ≤ 1048576 := by simp; omega
      have hc0 := dnumber_some D n k LB l w hD hx
      clear hx e6 e7 e1 hrc HX
      generalize l.drop k = l' at *
      go_enter Try.func44, Try.ntmps44
      go_wp2_with (go_at_call 39; refine hc0.mono ?_; rintro e w1 ⟨rfl, hD1, hg1⟩)
      have hs1 := hg1.size
      go_loopw [8, 9, 10] (fun er v i wr => ∃ (j : Nat) (ps : List Nat) (li : List Int) (q : Int), er = .int .i64 q ∧ i = .int .u64 j ∧ OwnQ wr w.heap.size v ps ∧ Doc T wr D LB li ∧ w.grownBy wr (some D) ∧ j ≤ n ∧
          ((q = 0 ∧ Along n l' j ps li) ∨ (q ≠ 0 ∧ q = (readMany n l').2.1))) (fun er _ i _ => far n er i)
      case atStart => exact ⟨0, [], l', 0, rfl, rfl, World.ownsRow_nil _ _ _ _, hD1, hg1, by omega, .inl ⟨rfl, Along.start _ _⟩⟩
      case round =>
        obtain ⟨j, ps, li, q, rfl, rfl, hown, hDl, hgr, hjn, hq⟩ := hrel
        have hsr := hgr.size
        rcases hq with ⟨rfl, hal⟩ | ⟨hq0, hq1⟩
        · have hpl : ps.length + li.length ≤ l'.length := hal.2.2.1
          by_cases hjl : j < n
          · have hc := dnumber_any D LB li wr hDl
            have hnx : (rnum li).2.1 = 0 → Along n l' (j + 1) (ps ++ [(rnum li).1]) (rnum li).2.2 := fun h => hal.next hjl h
            have hwr : (rnum li).2.1 ≠ 0 → (readMany n l').2.1 = (rnum li).2.1 := fun h => hal.wrong hjl h
            have HNX := hide hnx
            have HWR := hide hwr
            clear hnx hwr hal
            generalize rnum li = qn at *
            obtain ⟨x, er2, l2⟩ := qn
            simp only at *
            have hji : (j : Int) < (n : Int) := by omega
            go_wp2_with (first | (go_at_call 39; refine hc.mono ?_; rintro e w2 ⟨rfl, hD2, hg2⟩; have hown2 := hown.kept hg2 (by intro z hz; cases hz; omega); have hs2 := hg2.size; have hgw2 := grown_trans hgr hg2) | (at_builtin; refine wpList_append_own _ rfl _ _ 84 rfl w.heap.size 22 i0 (.int .u64 0) 1 8 Try.underlying84 hi hz0 hz1 hz2 rfl (by decide) _ _ _ rfl (World.ownsRow.alloc hown2 _) ⟨w2.heap.size, 0, none⟩ 1 1 [.int .u64 x] rfl rfl (cell_one_new _ _ _) (by simp [Value.oneCell']) (by unfold maxLen; omega) (by omega) (by simp; omega) ?_; intro v' w3 hown3 hgrow _))
            have hlt3 : ∀ z, Value.ownBlock u9 = some z → w.heap.size ≤ z := fun z hz => (World.ownsRow.lt hown2 z hz).1
            have hQ3 : OwnQ w3 w.heap.size v' (ps ++ [x]) := by
              unfold OwnQ u64s; rw [List.length_append, List.map_append]; exact hown3
            have hD3 : Doc T w3 D LB l2 := (hD2.kept (World.grownBy_alloc w2 _ none) (by simp)).kept hgrow (fun z hz => by have := hlt3 z hz; omega)
            have hg3 : w.grownBy w3 (some D) := grown_ownQ (grown_trans hgw2 (World.grownBy_alloc _ _ _)) (World.ownsRow.alloc hown2 _) (by omega) hgrow
            clear hown3 hgrow hown2 hD2 hg2 hc
            go_roundw
            case rel =>
              refine ⟨j + 1, ps ++ [x], l2, er2, rfl, by go_num, hQ3, hD3, hg3, by omega, ?_⟩
              by_cases h : er2 = 0
              · exact .inl ⟨h, HNX.out h⟩
              · exact .inr ⟨h, (HWR.out h).symm⟩
            case measure =>
              exact far_step n j er2 hjl
          · have hst : readMany n l' = (ps, 0, li) := by
              have : j = n := by omega
              rw [this] at hal; exact hal.stop
            have HB' : Hid (rnums most l = (ps, 0, li)) := by
              show rnums most l = _
              rw [HB.out, hst]; simp
            clear hst hal
            obtain ⟨ao3, cap3, rfl⟩ := hown.form
            go_wp2
            go_ret2
            refine ⟨ao3, cap3, ?_, ?_, ?_, hgr⟩
            · rw [HB'.out]; rfl
            · rw [HB'.out]; exact hown
            · rw [HB'.out]; exact hDl
        · have HB' : Hid (rnums most l = ([], q, l)) := by
            show rnums most l = _
            rw [HB.out, ← hq1, if_neg hq0]
          have hqb : (q == 0) = false := by simpa using hq0
          have hqn : (q != 0) = true := by simpa using hq0
          obtain ⟨bo1, cap1, at1, d0, d1, f1', hsz1, _⟩ := hDl.cells
          clear hq0 hq1
          go_wp2
          go_ret2
          rw [HB'.out]
          obtain ⟨r1, r2⟩ := Doc.back hgr hDl hat HL.out rfl
          exact ⟨none, 0, rfl, World.ownsRow_nil _ _ _ _, r1, r2⟩
end Go.Proofs.Ytjbnhfcacocgeaa
