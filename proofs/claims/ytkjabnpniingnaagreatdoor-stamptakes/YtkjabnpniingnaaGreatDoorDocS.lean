/-
  DOCS: how the document reads a branch, a name, a stamp.
-/
import Derived.Test.YtkjabnpniingnaaGreatDoorDocB
import Derived.Test.YtkjabnpniingnaaGreatDoorTaken6
namespace Go.Proofs.YtkjabnpniingnaaGreatDoor
open Go.RowKit Go.Shelf
set_option linter.unusedSimpArgs false

variable {T : Nat}
/-- A number that fits, and what is left; -1: none. -/
def smP (l : List Int) : Int × List Int := if (rnum l).2.1 ≠ 0 ∨ 4611686018427387904 < (rnum l).1 then (-1, (rnum l).2.2) else (((rnum l).1 : Int), (rnum l).2.2)
theorem only_D {w w' : World} {D : Nat} (hg : w.grownBy w' (some D)) : Only (fun j => j = D) w w' := (Only.ofGrown hg).mono (fun _ _ e => by cases e; rfl)
theorem Doc.only {w : World} {D k j : Nat} {LB l : List Int} (h : Doc T w D LB l) (hk : D < k) (v : Value) : Doc T (w.setCell ⟨k, j, none⟩ v) D LB l := h.kept (grown_set w k j v) (fun q hq => by cases hq; have := h.le; omega)
theorem Doc.alloc {w : World} {D : Nat} {LB l : List Int} (h : Doc T w D LB l) (o : Obj) : Doc T (w.alloc o) D LB l := h.kept (World.grownBy_alloc w o none) (by simp)
theorem Doc.lt {w : World} {D : Nat} {LB l : List Int} (h : Doc T w D LB l) : D < w.heap.size := by
  obtain ⟨_, _, _, h1, _⟩ := h
  exact (Array.getElem?_eq_some_iff.1 h1).1
set_option maxHeartbeats 1000000 in
set_option maxRecDepth 100000 in
theorem small_any (D : Nat) (LB l : List Int) (w : World) (hD : Doc T w D LB l) : Calls Tryz.prog 89 #[.pointer (some ⟨D, 0, none⟩)] w fun e w' => e = .returned (.int .i64 (smP l).1) ∧ Doc T w' D LB (smP l).2 ∧ Only (fun j => j = D) w w' := by
  have h := dnumber_any D LB l w hD
  unfold smP
  generalize (rnum l).1 = N at h ⊢
  generalize (rnum l).2.1 = E at h ⊢
  generalize (rnum l).2.2 = L at h ⊢
  clear hD
  by_cases hE : E = 0
  · subst hE
    by_cases hN : 4611686018427387904 < N
    · rw [if_pos (.inr hN)]
      have z : (4611686018427387904 : Int) < (N : Int) := by omega
      go_enter Tryz.func89, Tryz.ntmps89
      go_wp2_with (go_at_call 117; refine h.mono ?_; rintro e w1 ⟨rfl, hD1, hg1⟩; have HD := hide hD1; have HO := hide (only_D hg1); clear hD1 hg1)
      go_ret
      exact ⟨rfl, HD.out, HO.out⟩
    · rw [if_neg (by omega)]
      have z : ¬ (4611686018427387904 : Int) < (N : Int) := by omega
      have wn : IntKind.i64.wrap (N : Int) = (N : Int) := by rw [IntKind.wrap_i64]; omega
      go_enter Tryz.func89, Tryz.ntmps89
      go_wp2_with (go_at_call 117; refine h.mono ?_; rintro e w1 ⟨rfl, hD1, hg1⟩; have HD := hide hD1; have HO := hide (only_D hg1); clear hD1 hg1)
      go_ret
      exact ⟨rfl, HD.out, HO.out⟩
  · rw [if_pos (.inl hE)]
    have z : (E == 0) = false := by rw [beq_eq_false_iff_ne]; exact hE
    go_enter Tryz.func89, Tryz.ntmps89
    go_wp2_with (go_at_call 117; refine h.mono ?_; rintro e w1 ⟨rfl, hD1, hg1⟩; have HD := hide hD1; have HO := hide (only_D hg1); clear hD1 hg1)
    go_ret
    exact ⟨rfl, HD.out, HO.out⟩
def dlP (l : List Int) : ByteArray × List Int := (strOfNums (rbytes 99 l).1, (rbytes 99 l).2.2)
def dbP (l : List Int) : (Int × ByteArray) × List Int := (((smP l).1, (dlP (smP l).2).1), (dlP (smP l).2).2)
def dnP (l : List Int) : (Int × ByteArray × Int) × List Int := (((dbP l).1.1, (dbP l).1.2, (smP (dbP l).2).1), (smP (dbP l).2).2)
theorem Only.fresh {D k j : Nat} {w w' : World} (h : Only (fun j => j = D) w w') (hk : w.heap.size ≤ k) (v : Value) : Only (fun j => j = D) w (w'.setCell ⟨k, j, none⟩ v) := Only.setCell h _ v (fun q => by (simp at q; omega))
set_option maxHeartbeats 1000000 in
set_option maxRecDepth 100000 in
theorem dbranch_any (D : Nat) (LB l : List Int) (w : World) (hD : Doc T w D LB l) : Calls Tryz.prog 83 #[.pointer (some ⟨D, 0, none⟩)] w fun e w' => e = .returned (bv (dbP l).1.1 (dbP l).1.2) ∧ Doc T w' D LB (dbP l).2 ∧ Only (fun j => j = D) w w' := by
  have hlt := hD.lt
  have hn := heap_alloc_new w (.cells #[.int .i64 0, .string ⟨#[]⟩] 23)
  have h1 := small_any D LB l _ (hD.alloc (.cells #[.int .i64 0, .string ⟨#[]⟩] 23))
  have HO0 : Hid (Only (fun j => j = D) w (w.alloc (.cells #[.int .i64 0, .string ⟨#[]⟩] 23))) := hide (Only.alloc (Only.refl _ _) _)
  have hz0 : w.heap.size < (w.alloc (.cells #[.int .i64 0, .string ⟨#[]⟩] 23)).heap.size := by simp
  unfold dbP dlP
  simp only
  generalize (smP l).1 = N at h1 ⊢
  generalize (smP l).2 = l1 at h1 ⊢
  have h2 : ∀ W, Doc T W D LB l1 → Calls Tryz.prog 116 #[.pointer (some ⟨D, 0, none⟩), .int .i64 99] W fun e w' => ∃ ao cap, e = .returned (.tuple #[.slice ao (rbytes 99 l1).1.length cap, .int .i64 (rbytes 99 l1).2.1]) ∧ Own 5 w' W.heap.size (.slice ao (rbytes 99 l1).1.length cap) (rbytes 99 l1).1 ∧ (ao = none → cap = 0) ∧ Doc T w' D LB (rbytes 99 l1).2.2 ∧ W.grownBy w' (some D) := fun W h => dbytes_any D 99 LB l1 W h (by omega) (by omega)
  generalize (rbytes 99 l1).1 = BS at h2 ⊢
  generalize (rbytes 99 l1).2.1 = E at h2 ⊢
  generalize (rbytes 99 l1).2.2 = l2 at h2 ⊢
  clear hD
  have key : ∀ w1, Doc T w1 D LB l1 → Only (fun j => j = D) (w.alloc (.cells #[.int .i64 0, .string ⟨#[]⟩] 23)) w1 → Doc T (w1.alloc (.cells #[.int .i64 N, .string ⟨#[]⟩] 23)) D LB l1 ∧ w1.heap[w.heap.size]? = some (.cells #[.int .i64 0, .string ⟨#[]⟩] 23 (0, 0)) ∧ Only (fun j => j = D) w (w1.alloc (.cells #[.int .i64 N, .string ⟨#[]⟩] 23)) ∧ w.heap.size < w1.heap.size := fun w1 q1 q2 => ⟨q1.alloc _, (q2.block _ hz0 (by omega)).trans hn, (HO0.out.trans' q2).alloc _, Nat.lt_of_lt_of_le hz0 q2.size⟩
  go_enter Tryz.func83, Tryz.ntmps83
  go_wp2_with (go_at_call 89; refine h1.mono ?_; rintro e w1 ⟨rfl, hD1, o1⟩; have HK := hide (key w1 hD1 o1); clear hD1 o1)
  have hn2 := heap_alloc_new w1 (.cells #[.int .i64 N, .string ⟨#[]⟩] 23)
  have key2 : ∀ w2, Doc T w2 D LB l2 → (w1.alloc (.cells #[.int .i64 N, .string ⟨#[]⟩] 23)).grownBy w2 (some D) → w2.heap[w1.heap.size]? = some (.cells #[.int .i64 N, .string ⟨#[]⟩] 23 (0, 0)) ∧ (w2.setCell ⟨w1.heap.size, 1, none⟩ (.string (strOfNums BS))).heap[w1.heap.size]? = some (.cells #[.int .i64 N, .string (strOfNums BS)] 23 (0, 0)) ∧ (w2.setCell ⟨w1.heap.size, 1, none⟩ (.string (strOfNums BS))).heap[w.heap.size]? = some (.cells #[.int .i64 0, .string ⟨#[]⟩] 23 (0, 0)) ∧ Only (fun j => j = D) w (w2.setCell ⟨w1.heap.size, 1, none⟩ (.string (strOfNums BS))) ∧ Doc T (w2.setCell ⟨w1.heap.size, 1, none⟩ (.string (strOfNums BS))) D LB l2 := fun w2 q1 q2 => by
    obtain ⟨k1, k2, k3, k4⟩ := HK.out
    have e1 := (q2.block _ (by simp) (fun e => by cases e; omega)).trans hn2
    have e2 := (q2.block w.heap.size (by simp; omega) (fun e => by cases e; omega)).trans ((Below.heap_alloc w1 _ _ k4).trans k2)
    refine ⟨e1, ?_, ?_, (k3.trans' (only_D q2)).fresh (by omega) _, q1.only (by omega) _⟩
    · rw [heap_setCell_same _ _ 1 _ 23 _ e1]; rfl
    · rw [Below.heap_setCell _ _ _ _ (by show w.heap.size ≠ w1.heap.size; omega)]; exact e2
  go_wp2_with (go_at_call 116; refine (h2 _ HK.out.1).mono ?_; rintro e w2 ⟨ao, cap, rfl, hO2, hn3, hD2, hg2⟩; have HK2 := hide (key2 w2 hD2 hg2); have hcv := conv_rd (n := BS.length) (cap := cap) hO2.rd rfl; obtain ⟨x0, x1, xf0, xf1⟩ := blk2 HK2.out.1; obtain ⟨t0, t1, _, _⟩ := blk2 HK2.out.2.1; obtain ⟨y0, y1, yf0, yf1⟩ := blk2 HK2.out.2.2.1; clear hD2 hg2 hO2 hn3)
  refine ret_row w.heap.size [.int .i64 N, .string (strOfNums BS)] rfl rfl Tryz.underlying23 rfl (by kernel_rfl) (t := 23) (fr := (0, 0)) (set2 HK2.out.2.2.1) rfl ?_
  exact ⟨rfl, (HK2.out.2.2.2.2.only (by omega) _).only (by omega) _, (HK2.out.2.2.2.1.fresh (Nat.le_refl _) _).fresh (Nat.le_refl _) _⟩
set_option maxHeartbeats 1000000 in
set_option maxRecDepth 100000 in
theorem dname_any (D : Nat) (LB l : List Int) (w : World) (hD : Doc T w D LB l) : Calls Tryz.prog 86 #[.pointer (some ⟨D, 0, none⟩)] w fun e w' => e = .returned (nv (dnP l).1.1 (dnP l).1.2.1 (dnP l).1.2.2) ∧ Doc T w' D LB (dnP l).2 ∧ Only (fun j => j = D) w w' := by
  have hlt := hD.lt
  have hn := heap_alloc_new w (.cells #[.int .i64 0, .string ⟨#[]⟩, .int .i64 0] 25)
  have h1 := dbranch_any D LB l _ (hD.alloc (.cells #[.int .i64 0, .string ⟨#[]⟩, .int .i64 0] 25))
  have HO0 : Hid (Only (fun j => j = D) w (w.alloc (.cells #[.int .i64 0, .string ⟨#[]⟩, .int .i64 0] 25))) := hide (Only.alloc (Only.refl _ _) _)
  have hz0 : w.heap.size < (w.alloc (.cells #[.int .i64 0, .string ⟨#[]⟩, .int .i64 0] 25)).heap.size := by simp
  unfold dnP
  simp only
  generalize (dbP l).1.1 = R at h1 ⊢
  generalize (dbP l).1.2 = SB at h1 ⊢
  generalize (dbP l).2 = l1 at h1 ⊢
  have h2 : ∀ W, Doc T W D LB l1 → Calls Tryz.prog 89 #[.pointer (some ⟨D, 0, none⟩)] W fun e w' => e = .returned (.int .i64 (smP l1).1) ∧ Doc T w' D LB (smP l1).2 ∧ Only (fun j => j = D) W w' := fun W h => small_any D LB l1 W h
  generalize (smP l1).1 = N at h2 ⊢
  generalize (smP l1).2 = l2 at h2 ⊢
  clear hD
  have key : ∀ w1, Doc T w1 D LB l1 → Only (fun j => j = D) (w.alloc (.cells #[.int .i64 0, .string ⟨#[]⟩, .int .i64 0] 25)) w1 → Doc T (w1.alloc (.cells #[.int .i64 R, .string SB, .int .i64 0] 25)) D LB l1 ∧ w1.heap[w.heap.size]? = some (.cells #[.int .i64 0, .string ⟨#[]⟩, .int .i64 0] 25 (0, 0)) ∧ Only (fun j => j = D) w (w1.alloc (.cells #[.int .i64 R, .string SB, .int .i64 0] 25)) ∧ w.heap.size < w1.heap.size := fun w1 q1 q2 => ⟨q1.alloc _, (q2.block _ hz0 (by omega)).trans hn, (HO0.out.trans' q2).alloc _, Nat.lt_of_lt_of_le hz0 q2.size⟩
  go_enter Tryz.func86, Tryz.ntmps86
  go_wp2_with (go_at_call 83; refine h1.mono ?_; rintro e w1 ⟨rfl, hD1, o1⟩; have HK := hide (key w1 hD1 o1); clear hD1 o1)
  have hn2 := heap_alloc_new w1 (.cells #[.int .i64 R, .string SB, .int .i64 0] 25)
  have key2 : ∀ w2, Doc T w2 D LB l2 → Only (fun j => j = D) (w1.alloc (.cells #[.int .i64 R, .string SB, .int .i64 0] 25)) w2 → w2.heap[w1.heap.size]? = some (.cells #[.int .i64 R, .string SB, .int .i64 0] 25 (0, 0)) ∧ (w2.setCell ⟨w1.heap.size, 2, none⟩ (.int .i64 N)).heap[w1.heap.size]? = some (.cells #[.int .i64 R, .string SB, .int .i64 N] 25 (0, 0)) ∧ (w2.setCell ⟨w1.heap.size, 2, none⟩ (.int .i64 N)).heap[w.heap.size]? = some (.cells #[.int .i64 0, .string ⟨#[]⟩, .int .i64 0] 25 (0, 0)) ∧ Only (fun j => j = D) w (w2.setCell ⟨w1.heap.size, 2, none⟩ (.int .i64 N)) ∧ Doc T (w2.setCell ⟨w1.heap.size, 2, none⟩ (.int .i64 N)) D LB l2 := fun w2 q1 q2 => by
    obtain ⟨k1, k2, k3, k4⟩ := HK.out
    have e1 := (q2.block _ (by simp) (by omega)).trans hn2
    have e2 := (q2.block w.heap.size (by simp; omega) (by omega)).trans ((Below.heap_alloc w1 _ _ k4).trans k2)
    refine ⟨e1, ?_, ?_, (k3.trans' q2).fresh (by omega) _, q1.only (by omega) _⟩
    · rw [heap_setCell_same _ _ 2 _ 25 _ e1]; rfl
    · rw [Below.heap_setCell _ _ _ _ (by show w.heap.size ≠ w1.heap.size; omega)]; exact e2
  go_wp2_with (go_at_call 89; refine (h2 _ HK.out.1).mono ?_; rintro e w2 ⟨rfl, hD2, hg2⟩; have HK2 := hide (key2 w2 hD2 hg2); obtain ⟨x0, x1, x2, xf0, xf1, xf2⟩ := blk3 HK2.out.1; obtain ⟨t0, t1, t2, _, _, _⟩ := blk3 HK2.out.2.1; obtain ⟨y0, y1, y2, yf0, yf1, yf2⟩ := blk3 HK2.out.2.2.1; clear hD2 hg2)
  refine ret_row w.heap.size [.int .i64 R, .string SB, .int .i64 N] rfl rfl Tryz.underlying25 rfl (by kernel_rfl) (t := 25) (fr := (0, 0)) (set3 HK2.out.2.2.1) rfl ?_
  exact ⟨rfl, ((HK2.out.2.2.2.2.only (by omega) _).only (by omega) _).only (by omega) _, ((HK2.out.2.2.2.1.fresh (Nat.le_refl _) _).fresh (Nat.le_refl _) _).fresh (Nat.le_refl _) _⟩
end Go.Proofs.YtkjabnpniingnaaGreatDoor
