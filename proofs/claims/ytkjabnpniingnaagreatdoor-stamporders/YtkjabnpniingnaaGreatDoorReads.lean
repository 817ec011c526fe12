/-
  READS: the program's reader: carried from layer 1's seat.
-/
import Derived.Test.YtkjabnpniingnaaGreatDoorWire
import Derived.Test.YtkjabnpniingnaaGreatDoorMeant
namespace Go.Proofs.YtkjabnpniingnaaGreatDoor
open Go.RowKit

/-- At block R lies a reader with the bytes l before it; its bytes lie below S, in another block. -/
def Rdr (t : TypeId) (w : World) (R S : Nat) (l : List Int) : Prop :=
  ∃ ao cap, w.heap[R]? = some (.cells #[.slice ao l.length cap, .bool true] t (0, 0)) ∧ Rd w ao l ∧ (ao = none → cap = 0) ∧ l.length ≤ cap ∧ cap ≤ 9223372036854775807 ∧
    (∀ a, ao = some a → a.block < S ∧ a.block ≠ R) ∧ R < S ∧ ∀ x ∈ l, 0 ≤ x ∧ x ≤ 255

/-- What reading a number answers: its value, the error's number, the bytes that are left. -/
def rnum (l : List Int) : Nat × Int × List Int :=
  match Plain.readN 0 0 l with
  | none => (0, 4, l)
  | some (n, k) => (n, 0, l.drop k)

theorem rnum_none {l : List Int} (h : Plain.readN 0 0 l = none) : rnum l = (0, 4, l) := by unfold rnum; rw [h]
theorem rnum_some {l : List Int} {n k : Nat} (h : Plain.readN 0 0 l = some (n, k)) : rnum l = (n, 0, l.drop k) := by unfold rnum; rw [h]

theorem cell_blk {w : World} {R : Nat} {t : TypeId} {x y : Value} (h : w.heap[R]? = some (.cells #[x, y] t (0, 0))) : w.cell? ⟨R, 0, none⟩ = some x ∧ w.cell? ⟨R, 1, none⟩ = some y ∧ w.frozen? ⟨R, 0, none⟩ = false ∧ w.frozen? ⟨R, 1, none⟩ = false := by
  refine ⟨?_, ?_, ?_, ?_⟩
  · rw [cell_of_row w R 0 _ t (0, 0) h]; rfl
  · rw [cell_of_row w R 1 _ t (0, 0) h]; rfl
  · exact frozen_of_row w R 0 _ t h
  · exact frozen_of_row w R 1 _ t h

theorem grown_set (w : World) (R j : Nat) (v : Value) : w.grownBy (w.setCell ⟨R, j, none⟩ v) (some R) :=
  ⟨rfl, rfl, rfl, by simp, fun k _ hk => heap_setCell_other w ⟨R, j, none⟩ k v (fun e => hk (by simp [e]))⟩

theorem Rd.drop {w : World} {b off : Nat} {l : List Int} (h : Rd w (some ⟨b, off, none⟩) l) (k : Nat) : Rd w (some ⟨b, off + k, none⟩) (l.drop k) := by
  refine ⟨by simp, ?_⟩
  intro a ha j u hj
  cases ha
  have h1 := h.2 _ rfl (k + j) u (by rw [u8s_get] at hj ⊢; rw [List.getElem?_drop] at hj; exact hj)
  rw [add_lit] at h1 ⊢
  rw [Nat.add_assoc]
  exact h1

/-- The reader's slice is moved on. -/
theorem Rdr.step {t : TypeId} {w : World} {R S k cap off' cap' ab aoff : Nat} {l : List Int} (h : w.heap[R]? = some (.cells #[.slice (some ⟨ab, aoff, none⟩) l.length cap, .bool true] t (0, 0)))
    (hr : Rd w (some ⟨ab, aoff, none⟩) l) (hlc : l.length ≤ cap) (hcm : cap ≤ 9223372036854775807) (hab : ab < S) (hne : ab ≠ R) (hR : R < S) (h8 : ∀ x ∈ l, 0 ≤ x ∧ x ≤ 255) (hk : k ≤ l.length)
    (hoff : (cap = k ∧ cap' = 0) ∨ (off' = aoff + k ∧ cap' = cap - k)) :
    Rdr t (w.setCell ⟨R, 0, none⟩ (.slice (some ⟨ab, off', none⟩) (l.length - k) cap')) R S (l.drop k) ∧ w.grownBy (w.setCell ⟨R, 0, none⟩ (.slice (some ⟨ab, off', none⟩) (l.length - k) cap')) (some R) := by
  have hg := grown_set w R 0 (.slice (some ⟨ab, off', none⟩) (l.length - k) cap')
  refine ⟨⟨some ⟨ab, off', none⟩, cap', ?_, ?_, by simp, ?_, ?_, ?_, hR, fun x hx => h8 x (List.mem_of_mem_drop hx)⟩, hg⟩
  · rw [heap_setCell_same w R 0 _ t _ h]; simp
  · have h1 : Rd w (some ⟨ab, off', none⟩) (l.drop k) := by
      rcases hoff with ⟨h1, h2⟩ | ⟨rfl, _⟩
      · have : l.drop k = [] := List.drop_eq_nil_of_le (by omega)
        rw [this]; exact Rd.nil _ _
      · exact hr.drop k
    exact h1.grown hg (by intro a ha; cases ha; simpa using hne)
  · simp; omega
  · omega
  · intro a ha; cases ha; exact ⟨hab, hne⟩

/-- A reader stays where other blocks are written. -/
theorem Rdr.kept {t : TypeId} {w w' : World} {R S : Nat} {l : List Int} {row : Option Nat} (h : Rdr t w R S l) (hg : w.grownBy w' row) (hrow : ∀ k, row = some k → S ≤ k) : Rdr t w' R S l := by
  obtain ⟨ao, cap, h1, h2, h3, h4, h5, h6, h7, h8⟩ := h
  refine ⟨ao, cap, ?_, h2.grown hg ?_, h3, h4, h5, h6, h7, h8⟩
  · rw [hg.block R (Array.getElem?_eq_some_iff.1 h1).1 (fun e => by have := hrow R e.symm; omega)]; exact h1
  · intro a ha e
    have := hrow a.block e.symm
    have := (h6 a ha).1
    omega

set_option maxHeartbeats 400000 in
set_option maxRecDepth 100000 in
theorem missing_no (R : Nat) (w : World) (h1 : w.cell? ⟨R, 1, none⟩ = some (.bool true)) :
    Calls Tryz.prog 80 #[.pointer (some ⟨R, 0, none⟩)] w fun e w' => e = .returned (.bool false) ∧ w = w' := by
  go_enter Tryz.func80, Tryz.ntmps80
  go_wp2
  go_ret
  exact ⟨rfl, rfl⟩
set_option maxHeartbeats 400000 in
set_option maxRecDepth 100000 in
theorem missing_zeroR (R : Nat) (w : World) (h1 : w.cell? ⟨R, 1, none⟩ = some (.bool false)) :
    Calls Tryz.prog 80 #[.pointer (some ⟨R, 0, none⟩)] w fun e w' => e = .returned (.bool true) ∧ w = w' := by
  go_enter Tryz.func80, Tryz.ntmps80
  go_wp2
  go_ret
  exact ⟨rfl, rfl⟩
set_option maxHeartbeats 400000 in
set_option maxRecDepth 100000 in
theorem missing_nil (w : World) :
    Calls Tryz.prog 80 #[.pointer none] w fun e w' => e = .returned (.bool true) ∧ w = w' := by
  go_enter Tryz.func80, Tryz.ntmps80
  go_wp2
  go_ret
  exact ⟨rfl, rfl⟩

theorem or_add (acc x k : Nat) (ha : acc < 2 ^ k) : acc ||| (x * 2 ^ k) = acc + x * 2 ^ k := by
  have h := Nat.two_pow_add_eq_or_of_lt ha x
  rw [Nat.or_comm, Nat.mul_comm x, ← h, Nat.add_comm]
theorem or_step (acc k : Nat) (b : Int) (hk : k < 9) (ha : acc < 128 ^ k) :
    bits BinOp.or IntKind.u64 (acc : Int) (IntKind.u64.wrap (b % 128 * 2 ^ (7 * k))) = ((acc + (b % 128).toNat * 128 ^ k : Nat) : Int) := by
  have e : (128 : Nat) ^ k = 2 ^ (7 * k) := by rw [Nat.pow_mul]
  obtain ⟨x, hx⟩ := Int.eq_ofNat_of_zero_le (show 0 ≤ b % 128 by omega)
  have hx2 : x ≤ 127 := by omega
  have hp : (2 : Nat) ^ (7 * k) ≤ 2 ^ 56 := Nat.pow_le_pow_right (by omega) (by omega)
  have hm : x * 2 ^ (7 * k) ≤ 127 * 2 ^ 56 := Nat.mul_le_mul hx2 hp
  rw [e] at ha ⊢
  rw [hx]
  have hw : IntKind.u64.wrap ((x : Int) * 2 ^ (7 * k)) = ((x * 2 ^ (7 * k) : Nat) : Int) := by
    have : ((x : Int) * 2 ^ (7 * k)) = ((x * 2 ^ (7 * k) : Nat) : Int) := by push_cast; rfl
    rw [this]
    generalize x * 2 ^ (7 * k) = y at *
    simp [IntKind.wrap, IntKind.bits, IntKind.signed]; omega
  rw [hw, u64_or_nat acc (x * 2 ^ (7 * k)) (by omega) (by omega), or_add acc x (7 * k) ha]
  simp
theorem or_nine (acc : Nat) (ha : acc < 128 ^ 9) : bits BinOp.or IntKind.u64 (acc : Int) 9223372036854775808 = ((acc + 128 ^ 9 : Nat) : Int) := by
  have h := u64_or_nat acc 9223372036854775808 (by omega) (by omega)
  have h2 := or_add acc 1 63 (by omega)
  have h3 : (1 * 2 ^ 63 : Nat) = 9223372036854775808 := by decide
  rw [h3] at h2
  rw [h2] at h
  exact h

/-- What the number's walk leaves. -/
def NumPost (w w' : World) (R S : Nat) (l : List Int) (e : Ending) : Prop :=
  e = .returned (.tuple #[.int .u64 (rnum l).1, .int .i64 (rnum l).2.1]) ∧ Rdr 91 w' R S (rnum l).2.2 ∧ w.grownBy w' (some R)

theorem ret_two {a b c d : Value} (h1 : a = c) (h2 : b = d) : Ending.returned (.tuple #[a, b]) = .returned (.tuple #[c, d]) := by rw [h1, h2]

set_option maxHeartbeats 1000000 in
set_option maxRecDepth 100000 in
theorem rnumber_any (R S : Nat) (l : List Int) (w : World) (hR : Rdr 91 w R S l) :
    Calls Tryz.prog 34 #[.pointer (some ⟨R, 0, none⟩)] w fun e w' => NumPost w w' R S l e := by
  have HRd : Hid (Rdr 91 w R S l) := hR
  obtain ⟨ao, cap, hh, hr, hnil, hlc, hcm, hblk, hRS, hb8⟩ := hR
  obtain ⟨h0, h1, hf, _⟩ := cell_blk hh
  have HH : Hid (w.heap[R]? = some (.cells #[.slice ao l.length cap, .bool true] 91 (0, 0))) := hh
  clear hh
  go_enter Tryz.func34, Tryz.ntmps34
  go_wp2
  go_step3
  go_wp2_with (go_at_call 80; refine (missing_no R _ h1).mono ?_; rintro e w1 ⟨rfl, rfl⟩)
  go_step3
  go_wp2
  go_loop [4, 14] (fun a i => ∃ (k : Nat) (acc : Nat), k ≤ l.length ∧ k ≤ 9 ∧ i = .int .i64 k ∧ a = .int .u64 acc ∧ acc < 128 ^ k ∧ Plain.readN 0 0 l = Plain.readN k acc (l.drop k)) (fun _ i => l.length - (intOf i).toNat)
  case atStart => exact ⟨0, 0, by omega, by omega, rfl, rfl, by simp, by simp⟩
  case round =>
    obtain ⟨k, acc, hk, hk9, rfl, rfl, hacc, hread⟩ := hrel
    have HR : Hid (Plain.readN 0 0 l = Plain.readN k acc (l.drop k)) := hread
    have HA : Hid (acc < 128 ^ k) := hacc
    clear hread hacc
    by_cases hlt : k < l.length
    · obtain ⟨b, hb⟩ : ∃ b, l[k]? = some b := ⟨_, List.getElem?_eq_getElem hlt⟩
      have hbb : 0 ≤ b ∧ b ≤ 255 := hb8 b (List.mem_of_getElem? hb)
      obtain ⟨hb0, hb1⟩ := hbb
      have HD : Hid (l.drop k = b :: l.drop (k + 1)) := by
        show l.drop k = _
        obtain ⟨h, rfl⟩ := List.getElem?_eq_some_iff.1 hb
        exact List.drop_eq_getElem_cons h
      cases ao with
      | none => have := hr.1 rfl; subst this; simp at hlt
      | some a =>
        obtain ⟨ab, aoff, aspot⟩ := a
        have hc := hr.2 _ rfl k (.int .u8 b) (by rw [u8s_get, hb]; rfl)
        have hc0 := hr.2 _ rfl 0 (.int .u8 (l[0]'(by omega))) (by rw [u8s_get, List.getElem?_eq_getElem]; rfl)
        have hspot : aspot = none := World.cell?_spot (by simpa [Addr.add] using hc0)
        subst hspot
        rw [add_lit] at hc
        clear hc0 hb
        have HX : Hid (ab < S ∧ ab ≠ R) := hblk _ rfl
        have H8 : Hid (∀ x ∈ l, 0 ≤ x ∧ x ≤ 255) := hb8
        clear hblk hb8
        have hacc : acc < 18446744073709551616 := by
          have h1 := HA.out
          have h2 : 128 ^ k ≤ 128 ^ 9 := Nat.pow_le_pow_right (by omega) hk9
          omega
        by_cases c1 : k = 9 ∧ 1 < b
        · have hno : Plain.readN 0 0 l = none := by rw [HR.out, HD.out, Plain.readN, if_pos (.inl c1)]
          have HN := rnum_none hno
          clear hno
          have HN' : Hid (rnum l = (0, 4, l)) := HN
          clear HN
          obtain ⟨rfl, c1⟩ := c1
          go_wp2
          all_goals
            go_ret2
            refine ⟨?_, ?_, World.grownBy.refl _ _⟩
            · rw [HN'.out]; rfl
            · rw [HN'.out]; exact HRd.out
        · by_cases c2 : 0 < k ∧ b = 0
          · have hno : Plain.readN 0 0 l = none := by rw [HR.out, HD.out, Plain.readN, if_pos (.inr c2)]
            have HN' : Hid (rnum l = (0, 4, l)) := rnum_none hno
            clear hno
            obtain ⟨c2, rfl⟩ := c2
            go_wp2
            all_goals
              go_ret2
              refine ⟨?_, ?_, World.grownBy.refl _ _⟩
              · rw [HN'.out]; rfl
              · rw [HN'.out]; exact HRd.out
          · by_cases hk9' : k = 9
            · subst hk9'
              have hb1 : b = 1 := by omega
              subst hb1
              obtain ⟨acc', hacc'⟩ : ∃ acc', acc' = acc + 128 ^ 9 := ⟨_, rfl⟩
              have hor := or_nine acc HA.out
              rw [← hacc'] at hor
              have HQ : Hid (acc' = acc + 128 ^ 9) := hacc'
              clear hacc'
              have HN' : Hid (rnum l = (acc', 0, l.drop 10)) := rnum_some (by rw [HQ.out, HR.out, HD.out, Plain.readN, if_neg (by omega), if_pos (by omega)]; simp)
              go_wp2
              all_goals
                go_ret2
                refine ⟨?_, ?_⟩
                · rw [HN'.out]; exact ret_two rfl rfl
                · rw [HN'.out]; exact Rdr.step (k := 10) HH.out hr hlc hcm HX.out.1 HX.out.2 hRS H8.out (by omega) (by omega)
            · have hk8 : k < 9 := by omega
              obtain ⟨acc', hacc'⟩ : ∃ acc', acc' = acc + (b % 128).toNat * 128 ^ k := ⟨_, rfl⟩
              have hor := or_step acc k b hk8 HA.out
              rw [← hacc'] at hor
              have HQ : Hid (acc' = acc + (b % 128).toNat * 128 ^ k) := hacc'
              clear hacc'
              by_cases c3 : b < 128
              · have HN' : Hid (rnum l = (acc', 0, l.drop (k + 1))) := rnum_some (by rw [HQ.out, HR.out, HD.out, Plain.readN, if_neg (by omega), if_pos c3, show (b % 128).toNat = b.toNat by omega])
                by_cases hk0 : 0 < k
                · have hne : (b == 0) = false := by simp; omega
                  go_wp2
                  all_goals
                    go_ret2
                    refine ⟨?_, ?_⟩
                    · rw [HN'.out]; exact ret_two rfl rfl
                    · rw [HN'.out]; exact Rdr.step (k := k + 1) HH.out hr hlc hcm HX.out.1 HX.out.2 hRS H8.out (by omega) (by omega)
                · go_wp2
                  all_goals
                    go_ret2
                    refine ⟨?_, ?_⟩
                    · rw [HN'.out]; exact ret_two rfl rfl
                    · rw [HN'.out]; exact Rdr.step (k := k + 1) HH.out hr hlc hcm HX.out.1 HX.out.2 hRS H8.out (by omega) (by omega)
              · have HN' : Hid (Plain.readN 0 0 l = Plain.readN (k + 1) acc' (l.drop (k + 1))) := by
                  show Plain.readN 0 0 l = _
                  rw [HQ.out, HR.out, HD.out, Plain.readN, if_neg (by omega), if_neg (by omega)]
                have HB' : Hid (acc' < 128 ^ (k + 1)) := by
                  show acc' < _
                  rw [HQ.out]
                  have h1 := HA.out
                  have h2 : (b % 128).toNat ≤ 127 := by omega
                  have h3 : (b % 128).toNat * 128 ^ k ≤ 127 * 128 ^ k := Nat.mul_le_mul_right _ h2
                  rw [Nat.pow_succ]; omega
                by_cases hk0 : 0 < k
                · have hne : (b == 0) = false := by simp; omega
                  go_wp2
                  all_goals
                    go_round
                    case rel => exact ⟨k + 1, _, by omega, by omega, by go_num, rfl, HB'.out, HN'.out⟩
                    case measure => simp [intOf]; omega
                · go_wp2
                  all_goals
                    go_round
                    case rel => exact ⟨k + 1, _, by omega, by omega, by go_num, rfl, HB'.out, HN'.out⟩
                    case measure => simp [intOf]; omega
    · have HN' : Hid (rnum l = (0, 4, l)) := rnum_none (by rw [HR.out, List.drop_eq_nil_of_le (by omega)]; rfl)
      go_wp2
      go_ret2
      refine ⟨?_, ?_, World.grownBy.refl _ _⟩
      · rw [HN'.out]; rfl
      · rw [HN'.out]; exact HRd.out
end Go.Proofs.YtkjabnpniingnaaGreatDoor
