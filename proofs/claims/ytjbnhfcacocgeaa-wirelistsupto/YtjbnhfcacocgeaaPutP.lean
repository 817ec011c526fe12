/-
  LISTS OF PAIRS, written: Put of pairs.
-/
import Derived.Test.YtjbnhfcacocgeaaTakeP
namespace Go.Proofs.Ytjbnhfcacocgeaa
open Go.RowKit
set_option linter.unusedSimpArgs false

/-- Behind this address lie the pairs ps. -/
def RdP (w : World) (ao : Option Addr) (ps : List (Nat × Nat)) : Prop :=
  (ao = none → ps = []) ∧ ∀ a, ao = some a → ∀ j u, (prs ps)[j]? = some u → w.cell? (a.add j) = some u

theorem RdP.below {w w' : World} {ao : Option Addr} {ps : List (Nat × Nat)} (h : RdP w ao ps) (hb : Below w.heap.size w w') : RdP w' ao ps :=
  ⟨h.1, fun a ha j u hj => by
    have hc := h.2 a ha j u hj
    rw [hb.cell (World.block_lt_of_cell? w _ hc)]
    exact hc⟩

/-- The two cells of a pair. -/
theorem RdP.at {w : World} {ao : Option Addr} {ps : List (Nat × Nat)} (h : RdP w ao ps) {k : Nat} {x y : Nat} (hk : ps[k]? = some (x, y)) :
    ∃ b off, ao = some ⟨b, off, none⟩ ∧ b < w.heap.size ∧ w.cell? ⟨b, off + k * 2, none⟩ = some (.int .u64 (x : Int)) ∧ w.cell? ⟨b, off + k * 2 + 1, none⟩ = some (.int .u64 (y : Int)) := by
  cases ao with
  | none => have := h.1 rfl; subst this; simp at hk
  | some a =>
    obtain ⟨ab, aoff, aspot⟩ := a
    have h0 := h.2 _ rfl 0 (.int .u64 ((ps[0]'(by have := (List.getElem?_eq_some_iff.1 hk).1; omega)).1 : Int)) (prs_get0 ps 0 _ (List.getElem?_eq_getElem _))
    have hspot : aspot = none := World.cell?_spot (by simpa [Addr.add] using h0)
    subst hspot
    have e0 := h.2 _ rfl _ _ (prs_get0 ps k _ hk)
    have e1 := h.2 _ rfl _ _ (prs_get1 ps k _ hk)
    rw [add_lit, Nat.mul_comm 2 k] at e0 e1
    exact ⟨ab, aoff, rfl, World.block_lt_of_cell? w _ e0, e0, by rw [Nat.add_assoc]; exact e1⟩

/-- The forms of pairs, one behind the other. -/
def formsL (ps : List (Nat × Nat)) : List Int := ps.flatMap fun p => Plain.numL p.1 ++ Plain.numL p.2
theorem formsL_snoc (ps : List (Nat × Nat)) (k x y : Nat) (h : ps[k]? = some (x, y)) : formsL (ps.take (k + 1)) = formsL (ps.take k) ++ (Plain.numL x ++ Plain.numL y) := by
  obtain ⟨hk, h2⟩ := List.getElem?_eq_some_iff.1 h
  rw [List.take_succ_eq_append_getElem hk, h2]
  simp [formsL]
/-- All their numbers are numbers of 64 bits. -/
def Fits (ps : List (Nat × Nat)) : Prop := ∀ p ∈ ps, p.1 < 18446744073709551616 ∧ p.2 < 18446744073709551616
theorem Fits.at {ps : List (Nat × Nat)} (h : Fits ps) {k x y : Nat} (hk : ps[k]? = some (x, y)) : x < 18446744073709551616 ∧ y < 18446744073709551616 := h _ (List.mem_of_getElem? hk)
theorem formsL_len : ∀ (ps : List (Nat × Nat)), Fits ps → (formsL ps).length ≤ 20 * ps.length
  | [], _ => by simp [formsL]
  | p :: r, h => by
    have h1 := formsL_len r (fun q hq => h q (List.mem_cons_of_mem _ hq))
    have h2 := h p List.mem_cons_self
    have h3 := Plain.numL_ten p.1 h2.1
    have h4 := Plain.numL_ten p.2 h2.2
    simp only [formsL, List.flatMap_cons, List.length_append, List.length_cons] at h1 ⊢
    omega
theorem Fits.take {ps : List (Nat × Nat)} (h : Fits ps) (k : Nat) : Fits (ps.take k) := fun p hp => h p (List.mem_of_mem_take hp)

set_option maxHeartbeats 1000000 in
set_option maxRecDepth 100000 in
theorem putP_any (ao : Option Addr) (cap : Nat) (ps : List (Nat × Nat)) (w : World) (hr : RdP w ao ps) (hf : Fits ps) (hlen : ps.length ≤ 1099511627776) :
    Calls Try.prog 29 #[.slice ao ps.length cap, .func (.func 30) #[] #[]] w fun e w' =>
      ∃ ao1 cap1, e = .returned (.tuple #[.slice ao1 (Plain.numL ps.length ++ formsL ps).length cap1, .int .i64 0]) ∧ Own 5 w' w.heap.size (.slice ao1 (Plain.numL ps.length ++ formsL ps).length cap1) (Plain.numL ps.length ++ formsL ps) ∧ (ao1 = none → cap1 = 0) ∧ Below w.heap.size w w' := by
  obtain ⟨i0, hi, hz0, hz1, hz2⟩ := info_parts Try.info5
  have q := eqFn61
  have h10 := Plain.numL_ten ps.length (by omega)
  go_enter Try.func29, Try.ntmps29
  go_wp2_with (go_at_call 9; refine (number_any ps.length _ (by omega)).mono ?_; rintro e w1 ⟨ao1, cap1, rfl, hown1, hnil1, hb1⟩)
  go_loopw [6, 17] (fun v i wr => ∃ (k : Nat) (p : List Int) (ao' : Option Addr) (cap' : Nat), k ≤ ps.length ∧ i = .int .i64 k ∧ p = Plain.numL ps.length ++ formsL (ps.take k) ∧ v = .slice ao' p.length cap' ∧ Own 5 wr w.heap.size (.slice ao' p.length cap') p ∧ (ao' = none → cap' = 0) ∧ Below w.heap.size w wr)
    (fun _ i _ => ps.length - (intOf i).toNat)
  case atStart => exact ⟨0, _, ao1, cap1, Nat.zero_le _, rfl, rfl, by simp [formsL], by simpa [formsL] using hown1, hnil1, hb1⟩
  case round =>
    obtain ⟨k, p, ao', cap', hk, rfl, hpk, rfl, hown, hnil, hb⟩ := hrel
    have hsz := hb.size
    have HP : Hid (p = Plain.numL ps.length ++ formsL (ps.take k)) := hpk
    have hple : p.length ≤ 10 + 20 * ps.length := by
      rw [hpk, List.length_append]
      have := formsL_len _ (hf.take k)
      rw [List.length_take] at this
      omega
    clear hpk
    by_cases hlt : k < ps.length
    · obtain ⟨⟨x, y⟩, hxy⟩ : ∃ q, ps[k]? = some q := ⟨_, List.getElem?_eq_getElem hlt⟩
      obtain ⟨hx, hy⟩ := hf.at hxy
      have h3 := Plain.numL_ten x hx
      have h4 := Plain.numL_ten y hy
      have HX : Hid (ps[k]? = some (x, y)) := hxy
      obtain ⟨ab, aoff, rfl, hab, e0, e1⟩ := (hr.below hb).at hxy
      clear hxy
      obtain ⟨m, hm⟩ : ∃ m, m = Plain.numL x ++ Plain.numL y := ⟨_, rfl⟩
      have hform : ∀ w0, Calls Try.prog 30 #[.agg #[.int .u64 x, .int .u64 y]] w0 fun e w' => Made 5 w0 w' e m := fun w0 => by rw [hm]; exact form_any x y w0 hx hy
      have hml : m.length ≤ 20 := by rw [hm, List.length_append]; omega
      have HM : Hid (m = Plain.numL x ++ Plain.numL y) := hm
      clear hm
      go_wp2_with fail
      refine (hform _).mono ?_
      rintro e w2 ⟨ao2, cap2, rfl, hown2, hnil2, hb2⟩
      have hownA := (hown.alloc (.cells #[.int .u64 (x : Int), .int .u64 (y : Int)] 59)).below hb2
      have hbA : Below w.heap.size w w2 := (hb.alloc hsz _).trans (hb2.mono (by simp; omega))
      have hsz2 := hbA.size
      clear hown
      go_wp2_with (at_builtin; refine wpList_append_rd rfl _ _ 23 rfl w.heap.size 5 i0 Try.underlying23 hi hz0 hz1 hz2 _ _ rfl hownA ao2 cap2 m rfl hnil2 hown2.rd (by omega) hsz2 ?_)
      intro ao3 cap3 w3 hown3 hgrow hnil3
      have hb3 := below_own hbA hsz2 hownA hgrow
      clear hgrow hownA hown2
      go_wp2
      go_roundw
      case rel => exact ⟨k + 1, p ++ m, ao3, cap3, by omega, by go_num, by rw [formsL_snoc ps k x y HX.out, HM.out, HP.out, List.append_assoc], by simp, by simpa using hown3, hnil3, hb3⟩
      case measure => simp [intOf]; omega
    · go_wp2
      (try rw [Exit.noGoto_ret])
      go_ret2
      have he : p = Plain.numL ps.length ++ formsL ps := by rw [HP.out, List.take_of_length_le (by omega)]
      subst he
      exact ⟨ao', cap', rfl, hown, hnil, hb⟩
end Go.Proofs.Ytjbnhfcacocgeaa
