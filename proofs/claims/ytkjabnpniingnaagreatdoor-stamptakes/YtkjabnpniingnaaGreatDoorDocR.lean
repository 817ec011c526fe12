/-
  DOCR: the document's reader: carried from layer 1's seat.
-/
import Derived.Test.YtkjabnpniingnaaGreatDoorReads2
import Derived.Deep.QuietTactic
import Derived.BigQuiet
namespace Go.Proofs.YtkjabnpniingnaaGreatDoor
open Go.RowKit

theorem ret_int {k : IntKind} {a b : Int} (h : a = b) : Ending.returned (.int k a) = .returned (.int k b) := by rw [h]


/-- At block D lies the document's reader of the bytes LB, with l before it. -/
def Doc (T : Nat) (w : World) (D : Nat) (LB l : List Int) : Prop :=
  ∃ bo cap at', w.heap[D]? = some (.cells #[.slice bo LB.length cap, .int .i64 ((at' : Nat) : Int)] 59 (0, 0)) ∧ Rd w bo LB ∧ (bo = none → cap = 0) ∧ LB.length ≤ cap ∧ cap ≤ 9223372036854775807 ∧ LB.length ≤ 1048576 ∧
    ((LB ≠ [] → ∀ a, bo = some a → a.block < T) ∧ T ≤ D) ∧ (∀ x ∈ LB, 0 ≤ x ∧ x ≤ 255) ∧ at' ≤ LB.length ∧ l = LB.drop at'

variable {T : Nat}

theorem Doc.le {w : World} {D : Nat} {LB l : List Int} (h : Doc T w D LB l) : T ≤ D := by
  obtain ⟨_, _, _, _, _, _, _, _, _, h7, _⟩ := h
  exact h7.2

theorem Rd.grownL {w w' : World} {ao : Option Addr} {l : List Int} {row : Option Nat} (h : Rd w ao l) (hg : w.grownBy w' row) (hne : l ≠ [] → ∀ a, ao = some a → some a.block ≠ row) : Rd w' ao l := by
  cases l with
  | nil => exact Rd.nil _ _
  | cons b r => exact h.grown hg (hne (by simp))

/-- The document's reader is at another place. -/
theorem Doc.set {w : World} {D at2 cap : Nat} {bo : Option Addr} {LB l2 : List Int} {y : Value} (h : w.heap[D]? = some (.cells #[.slice bo LB.length cap, y] 59 (0, 0))) (hr : Rd w bo LB) (hn : bo = none → cap = 0) (hc : LB.length ≤ cap) (hm : cap ≤ 9223372036854775807) (hz : LB.length ≤ 1048576)
    (hb : (LB ≠ [] → ∀ a, bo = some a → a.block < T) ∧ T ≤ D) (h8 : ∀ x ∈ LB, 0 ≤ x ∧ x ≤ 255) (ha : at2 ≤ LB.length) (hl : l2 = LB.drop at2) :
    Doc T (w.setCell ⟨D, 1, none⟩ (.int .i64 ((at2 : Nat) : Int))) D LB l2 ∧ w.grownBy (w.setCell ⟨D, 1, none⟩ (.int .i64 ((at2 : Nat) : Int))) (some D) := by
  have hg := grown_set w D 1 (.int .i64 ((at2 : Nat) : Int))
  refine ⟨⟨bo, cap, at2, ?_, hr.grownL hg (fun hne a ha' => by have := hb.1 hne a ha'; have := hb.2; simp; omega), hn, hc, hm, hz, hb, h8, ha, hl⟩, hg⟩
  rw [heap_setCell_same w D 1 _ 59 _ h]; simp

theorem Doc.put {w : World} {D at2 cap n : Nat} {bo : Option Addr} {LB l2 : List Int} {y : Value} {q : Int} (h : w.heap[D]? = some (.cells #[.slice bo LB.length cap, y] 59 (0, 0))) (hr : Rd w bo LB) (hn : bo = none → cap = 0) (hc : LB.length ≤ cap) (hm : cap ≤ 9223372036854775807) (hz : LB.length ≤ 1048576)
    (hb : (LB ≠ [] → ∀ a, bo = some a → a.block < T) ∧ T ≤ D) (h8 : ∀ x ∈ LB, 0 ≤ x ∧ x ≤ 255) (ha : at2 ≤ LB.length) (hl : l2 = LB.drop at2) (hq : q = (at2 : Int)) :
    Doc T ((w.drewN n).setCell ⟨D, 1, none⟩ (.int .i64 q)) D LB l2 ∧ w.grownBy ((w.drewN n).setCell ⟨D, 1, none⟩ (.int .i64 q)) (some D) := by
  subst hq
  obtain ⟨r1, r2⟩ := Doc.set (w := w.drewN n) h hr hn hc hm hz hb h8 ha hl
  exact ⟨r1, ⟨r2.os, r2.tape, r2.output, r2.size, r2.block⟩⟩

theorem Doc.kept {w w' : World} {D : Nat} {LB l : List Int} {row : Option Nat} (h : Doc T w D LB l) (hg : w.grownBy w' row) (h1 : ∀ k, row = some k → k ≠ D ∧ T ≤ k) : Doc T w' D LB l := by
  obtain ⟨bo, cap, at', e1, e2, e3, e4, e5, e6, e7, e8, e9, e10⟩ := h
  refine ⟨bo, cap, at', ?_, e2.grownL hg ?_, e3, e4, e5, e6, e7, e8, e9, e10⟩
  · rw [hg.block D (Array.getElem?_eq_some_iff.1 e1).1 (fun e => by have := h1 D e.symm; omega)]; exact e1
  · intro hne a ha e
    have := e7.1 hne a ha
    have := h1 a.block e.symm
    omega

set_option maxHeartbeats 400000 in
set_option maxRecDepth 100000 in
theorem dleft_any (D : Nat) (LB l : List Int) (w : World) (hD : Doc T w D LB l) :
    Calls Tryz.prog 41 #[.pointer (some ⟨D, 0, none⟩)] w fun e w' => e = .returned (.int .i64 l.length) ∧ ∃ n, w' = w.drewN n := by
  obtain ⟨bo, cap, at', h1, h2, h3, h4, h5, hz, h6, h7, h8, h9⟩ := hD
  obtain ⟨c0, c1, _⟩ := cell_blk h1
  have HL : Hid ((l.length : Int) = (LB.length : Int) - (at' : Int)) := by show _ = _; rw [h9]; simp; omega
  clear h9 h1
  go_enter Tryz.func41, Tryz.ntmps41
  go_wp2
  go_quiet (fail)
  go_wp2
  go_ret
  exact ⟨ret_int (by rw [HL.out]), _, rfl⟩


theorem grown_drewN (w : World) (n : Nat) (row : Option Nat) : w.grownBy (w.drewN n) row := ⟨rfl, rfl, rfl, Nat.le_refl _, fun _ _ _ => rfl⟩
theorem shl_step (k : Nat) (b : Int) (hk : k < 9) : IntKind.u64.wrap (b % 128 * 2 ^ (7 * k)) = (((b % 128).toNat * 128 ^ k : Nat) : Int) := by
  have e : (128 : Nat) ^ k = 2 ^ (7 * k) := by rw [Nat.pow_mul]
  obtain ⟨x, hx⟩ := Int.eq_ofNat_of_zero_le (show 0 ≤ b % 128 by omega)
  have hx2 : x ≤ 127 := by omega
  have hp : (2 : Nat) ^ (7 * k) ≤ 2 ^ 56 := Nat.pow_le_pow_right (by omega) (by omega)
  have hm : x * 2 ^ (7 * k) ≤ 127 * 2 ^ 56 := Nat.mul_le_mul hx2 hp
  rw [e, hx]
  have : ((x : Int) * 2 ^ (7 * k)) = ((x * 2 ^ (7 * k) : Nat) : Int) := by push_cast; rfl
  rw [this]
  simp only [Int.toNat_natCast]
  generalize x * 2 ^ (7 * k) = y at *
  simp [IntKind.wrap, IntKind.bits, IntKind.signed]; omega

set_option maxHeartbeats 1000000 in
set_option maxRecDepth 100000 in
theorem dnumber_any (D : Nat) (LB l : List Int) (w : World) (hD : Doc T w D LB l) :
    Calls Tryz.prog 117 #[.pointer (some ⟨D, 0, none⟩)] w fun e w' =>
      e = .returned (.tuple #[.int .u64 (rnum l).1, .int .i64 (rnum l).2.1]) ∧ Doc T w' D LB (rnum l).2.2 ∧ w.grownBy w' (some D) := by
  have HRd : Hid (Doc T w D LB l) := hD
  obtain ⟨bo, cap, at', hh, hr, hnil, hlc, hcm, hz, hblk, hb8, hat, hl⟩ := hD
  obtain ⟨h0, h1, _, hf⟩ := cell_blk hh
  have HH : Hid (w.heap[D]? = some (.cells #[.slice bo LB.length cap, .int .i64 ((at' : Nat) : Int)] 59 (0, 0))) := hh
  have hll : l.length = LB.length - at' := by rw [hl]; simp
  have HL : Hid (l = LB.drop at') := hl
  have HLL : Hid (l.length = LB.length - at') := hll
  have h8l : ∀ x ∈ l, 0 ≤ x ∧ x ≤ 255 := fun x hx => hb8 x (by rw [hl] at hx; exact List.mem_of_mem_drop hx)
  clear hh hl
  go_enter Tryz.func117, Tryz.ntmps117
  go_wp2
  go_loopw [4, 5] (fun a i wr => ∃ (k acc nq : Nat), k ≤ l.length ∧ k ≤ 9 ∧ i = .int .i64 k ∧ a = .int .u64 acc ∧ acc < 128 ^ k ∧ Plain.readN 0 0 l = Plain.readN k acc (l.drop k) ∧ wr = w.drewN nq) (fun _ i _ => l.length - (intOf i).toNat)
  case atStart => exact ⟨0, 0, 0, by omega, by omega, rfl, rfl, by simp, by simp, rfl⟩
  case round =>
    obtain ⟨k, acc, nq, hk, hk9, rfl, rfl, hacc, hread, rfl⟩ := hrel
    have HR : Hid (Plain.readN 0 0 l = Plain.readN k acc (l.drop k)) := hread
    have HA : Hid (acc < 128 ^ k) := hacc
    have hk10 : (k : Int) < 10 := by omega
    have hacc2 : acc ≤ 9223372036854775807 := by have := Plain.pow9 hk9; omega
    clear hread hacc
    by_cases hlt : k < l.length
    · obtain ⟨b, hb⟩ : ∃ b, l[k]? = some b := ⟨_, List.getElem?_eq_getElem hlt⟩
      have hbb : 0 ≤ b ∧ b ≤ 255 := h8l b (List.mem_of_getElem? hb)
      obtain ⟨hb0, hb1⟩ := hbb
      have HD : Hid (l.drop k = b :: l.drop (k + 1)) := by
        show l.drop k = _
        obtain ⟨h, rfl⟩ := List.getElem?_eq_some_iff.1 hb
        exact List.drop_eq_getElem_cons h
      have hbL : LB[at' + k]? = some b := by rw [HL.out, List.getElem?_drop] at hb; exact hb
      have hlt2 : at' + k < LB.length := by omega
      cases bo with
      | none => have := hr.1 rfl; subst this; simp at hlt2
      | some a =>
        obtain ⟨ab, aoff, aspot⟩ := a
        have hc := hr.2 _ rfl (at' + k) (.int .u8 b) (by rw [u8s_get, hbL]; rfl)
        have hc0 := hr.2 _ rfl 0 (.int .u8 (LB[0]'(by omega))) (by rw [u8s_get, List.getElem?_eq_getElem]; rfl)
        have hspot : aspot = none := World.cell?_spot (by simpa [Addr.add] using hc0)
        subst hspot
        rw [add_lit] at hc
        have hltd : decide ((at' : Int) + (k : Int) < (LB.length : Int)) = true := by simp; omega
        have hlti : (at' : Int) + (k : Int) < (LB.length : Int) := by omega
        have hd10 : decide ((k : Int) < 10) = true := by simp; omega
        have HX := hide hblk
        have H8 := hide hb8
        have hRd := hide hr
        clear hc0 hb hbL hblk hb8 h8l hll hr
        by_cases c1 : k = 9 ∧ 1 < b
        · have HN' : Hid (rnum l = (0, 4, l)) := rnum_none (by rw [HR.out, HD.out, Plain.readN, if_pos (.inl c1)])
          obtain ⟨rfl, c1⟩ := c1
          go_wp2
          go_quiet (fail)
          go_wp2
          go_quiet (fail)
          go_wp2
          all_goals
            go_ret2
            refine ⟨?_, ?_, ⟨rfl, rfl, rfl, Nat.le_refl _, fun _ _ _ => rfl⟩⟩
            · rw [HN'.out]; rfl
            · rw [HN'.out]; exact HRd.out
        · by_cases c2 : 0 < k ∧ b = 0
          · have HN' : Hid (rnum l = (0, 4, l)) := rnum_none (by rw [HR.out, HD.out, Plain.readN, if_pos (.inr c2)])
            obtain ⟨c2, rfl⟩ := c2
            go_wp2
            go_quiet (fail)
            go_wp2
            go_quiet (fail)
            go_wp2
            all_goals
              go_ret2
              refine ⟨?_, ?_, ⟨rfl, rfl, rfl, Nat.le_refl _, fun _ _ _ => rfl⟩⟩
              · rw [HN'.out]; rfl
              · rw [HN'.out]; exact HRd.out
          · by_cases hk9' : k = 9
            · subst hk9'
              have hb1 : b = 1 := by omega
              subst hb1
              have HN' : Hid (rnum l = (acc + 128 ^ 9, 0, l.drop 10)) := rnum_some (by rw [HR.out, HD.out, Plain.readN, if_neg (by omega), if_pos (by omega)]; simp)
              go_wp2
              go_quiet (fail)
              go_wp2
              go_quiet (fail)
              go_wp2
              go_ret2
              refine ⟨?_, ?_⟩
              · rw [HN'.out]; exact ret_two (by go_num) rfl
              · rw [HN'.out]; exact Doc.put HH.out hRd.out hnil hlc hcm hz HX.out H8.out (at2 := at' + 10) (by omega) (by rw [HL.out, List.drop_drop]) (by omega)
            · have hk8 : k < 9 := by omega
              obtain ⟨x, hx⟩ : ∃ x, x = (b % 128).toNat * 128 ^ k := ⟨_, rfl⟩
              have hsh := shl_step k b hk8
              rw [← hx] at hsh
              have HQ : Hid (x = (b % 128).toNat * 128 ^ k) := hx
              have hxb : x ≤ 9223372036854775807 := by
                have h2 : (b % 128).toNat * 128 ^ k ≤ 127 * 128 ^ k := Nat.mul_le_mul_right _ (by omega)
                have h3 := Plain.pow9 (i := k + 1) (by omega)
                rw [Nat.pow_succ] at h3
                omega
              clear hx
              by_cases c3 : b < 128
              · have HN' : Hid (rnum l = (acc + x, 0, l.drop (k + 1))) := rnum_some (by rw [HQ.out, HR.out, HD.out, Plain.readN, if_neg (by omega), if_pos c3, show (b % 128).toNat = b.toNat by omega])
                by_cases hk0 : 0 < k
                · have hne : (b == 0) = false := by simp; omega
                  go_wp2
                  go_quiet (fail)
                  go_wp2
                  go_quiet (fail)
                  go_wp2
                  all_goals
                    go_ret2
                    refine ⟨?_, ?_⟩
                    · rw [HN'.out]; exact ret_two (by go_num) rfl
                    · rw [HN'.out]; exact Doc.put HH.out hRd.out hnil hlc hcm hz HX.out H8.out (at2 := at' + (k + 1)) (by omega) (by rw [HL.out, List.drop_drop]) (by omega)
                · go_wp2
                  go_quiet (fail)
                  go_wp2
                  go_quiet (fail)
                  go_wp2
                  all_goals
                    go_ret2
                    refine ⟨?_, ?_⟩
                    · rw [HN'.out]; exact ret_two (by go_num) rfl
                    · rw [HN'.out]; exact Doc.put HH.out hRd.out hnil hlc hcm hz HX.out H8.out (at2 := at' + (k + 1)) (by omega) (by rw [HL.out, List.drop_drop]) (by omega)
              · have HN' : Hid (Plain.readN 0 0 l = Plain.readN (k + 1) (acc + x) (l.drop (k + 1))) := by
                  show Plain.readN 0 0 l = _
                  rw [HQ.out, HR.out, HD.out, Plain.readN, if_neg (by omega), if_neg (by omega)]
                have HB' : Hid (acc + x < 128 ^ (k + 1)) := by
                  show acc + x < _
                  rw [HQ.out]
                  have h1 := HA.out
                  have h3 : (b % 128).toNat * 128 ^ k ≤ 127 * 128 ^ k := Nat.mul_le_mul_right _ (by omega)
                  rw [Nat.pow_succ]; omega
                by_cases hk0 : 0 < k
                · have hne : (b == 0) = false := by simp; omega
                  go_wp2
                  go_quiet (fail)
                  go_wp2
                  go_quiet (fail)
                  go_wp2
                  all_goals
                    go_roundw
                    case rel => exact ⟨k + 1, acc + x, _, by omega, by omega, by go_num, by go_num, HB'.out, HN'.out, rfl⟩
                    case measure => simp [intOf]; omega
                · go_wp2
                  go_quiet (fail)
                  go_wp2
                  go_quiet (fail)
                  go_wp2
                  all_goals
                    go_roundw
                    case rel => exact ⟨k + 1, acc + x, _, by omega, by omega, by go_num, by go_num, HB'.out, HN'.out, rfl⟩
                    case measure => simp [intOf]; omega
    · have HN' : Hid (rnum l = (0, 4, l)) := rnum_none (by rw [HR.out, List.drop_eq_nil_of_le (by omega)]; rfl)
      have hge : decide ((at' : Int) + (k : Int) < (LB.length : Int)) = false := by simp; omega
      have hd10 : decide ((k : Int) < 10) = true := by simp; omega
      clear hll
      go_wp2
      go_quiet (fail)
      go_wp2
      go_ret2
      refine ⟨?_, ?_, ⟨rfl, rfl, rfl, Nat.le_refl _, fun _ _ _ => rfl⟩⟩
      · rw [HN'.out]; rfl
      · rw [HN'.out]; exact HRd.out




end Go.Proofs.YtkjabnpniingnaaGreatDoor
