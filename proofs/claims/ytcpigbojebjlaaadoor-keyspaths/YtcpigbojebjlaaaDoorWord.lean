/-
  WORDS: plainly (wordB), and what the program's stands and Word answer.
-/
import Derived.Test.YtcpigbojebjlaaaDoorBuild
import Derived.Test.YtcpigbojebjlaaaDoorKey
import Derived.Lib.ConvBytes
import Derived.Laws.BitsLemmas
namespace Go.Proofs.YtcpigbojebjlaaaDoor
open Go.RowKit Go.Shelf
set_option linter.unusedSimpArgs false

def stand (b : UInt8) : Bool := decide (32 < b.toNat) && decide (b.toNat ≤ 126) && decide (b.toNat ≠ 37) && decide (b.toNat ≠ 59)
def hexd (n : Nat) : UInt8 := [48, 49, 50, 51, 52, 53, 54, 55, 56, 57, 65, 66, 67, 68, 69, 70].getD n 0
def wordByte (b : UInt8) : List UInt8 := if stand b then [b] else [37, hexd (b.toNat / 16), hexd (b.toNat % 16)]
def wordB (l : List UInt8) : List UInt8 := if l = [] then [37] else l.flatMap wordByte
theorem wordByte_length (b : UInt8) : (wordByte b).length ≤ 3 := by unfold wordByte; split <;> simp
theorem flat_length (l : List UInt8) : (l.flatMap wordByte).length ≤ 3 * l.length := by
  induction l with
  | nil => simp
  | cons b l ih => have := wordByte_length b; rw [List.flatMap_cons, List.length_append]; simp only [List.length_cons]; omega
theorem flat_take (l : List UInt8) (i : Nat) (h : i < l.length) : (l.take (i + 1)).flatMap wordByte = (l.take i).flatMap wordByte ++ wordByte (l.getD i 0) := by
  rw [List.take_succ_eq_append_getElem h, List.flatMap_append]
  simp [List.getD, List.getElem?_eq_getElem h]

/-- The byte of the digits at index i. -/
def digI (i : Int) : Int := ((hexd i.toNat).toNat : Int)
theorem run_index_digits {P : Program} (w : World) (t : TypeId) (k : IntKind) (i : Int) (h : P.underlying t = some .string) (h0 : 0 ≤ i) (h1 : i ≤ 15) :
    (Instr.index t (.string { data := #[48, 49, 50, 51, 52, 53, 54, 55, 56, 57, 65, 66, 67, 68, 69, 70] }) (.int k i)).run P w = .ok (.int .u8 (digI i)) w := by
  have hs : ({ data := #[48, 49, 50, 51, 52, 53, 54, 55, 56, 57, 65, 66, 67, 68, 69, 70] } : ByteArray).size = 16 := rfl
  have hi : 0 ≤ i ∧ i < (({ data := #[48, 49, 50, 51, 52, 53, 54, 55, 56, 57, 65, 66, 67, 68, 69, 70] } : ByteArray).size : Int) := by rw [hs]; omega
  rw [run_index_string w t _ k i h, dif_pos hi]
  obtain ⟨n, rfl⟩ := Int.eq_ofNat_of_zero_le h0
  have hn : n < 16 := by omega
  have : ∀ m : Fin 16, (({ data := #[48, 49, 50, 51, 52, 53, 54, 55, 56, 57, 65, 66, 67, 68, 69, 70] } : ByteArray)[m.val]'(by exact m.isLt)) = hexd m.val := by decide
  have e := this ⟨n, hn⟩
  simp only [digI, Int.toNat_natCast]
  simp only at e
  rw [← e]

theorem stands_any (c : UInt8) (w : World) : Calls Tryd.prog 46 #[.int .u8 (c.toNat : Int)] w fun e w' => e = .returned (.bool (stand c)) ∧ w' = w := by
  unfold stand
  generalize c.toNat = n
  by_cases h1 : 32 < n
  · by_cases h2 : n ≤ 126
    · by_cases h3 : n = 37
      · subst h3
        go_enter Tryd.func46, Tryd.ntmps46
        go_wp2
        go_ret
        exact ⟨rfl, rfl⟩
      · by_cases h4 : n = 59
        · subst h4
          go_enter Tryd.func46, Tryd.ntmps46
          go_wp2
          go_ret
          exact ⟨rfl, rfl⟩
        · have d : (decide (32 < n) && decide (n ≤ 126) && decide (n ≠ 37) && decide (n ≠ 59)) = true := by simp; omega
          rw [d]
          have e1 : (32 : Int) < (n : Int) := by omega
          have e2 : (n : Int) ≤ 126 := by omega
          have e3 : ((n : Int) != 37) = true := by simp; omega
          have e4 : ((n : Int) != 59) = true := by simp; omega
          have e5 : ((n : Int) == 37) = false := by simp; omega
          have e6 : ((n : Int) == 59) = false := by simp; omega
          go_enter Tryd.func46, Tryd.ntmps46
          go_wp2
          go_ret
          exact ⟨rfl, rfl⟩
    · have d : (decide (32 < n) && decide (n ≤ 126) && decide (n ≠ 37) && decide (n ≠ 59)) = false := by simp; omega
      rw [d]
      have e1 : (32 : Int) < (n : Int) := by omega
      have e2 : ¬ ((n : Int) ≤ 126) := by omega
      go_enter Tryd.func46, Tryd.ntmps46
      go_wp2
      go_ret
      exact ⟨rfl, rfl⟩
  · have d : (decide (32 < n) && decide (n ≤ 126) && decide (n ≠ 37) && decide (n ≠ 59)) = false := by simp; omega
    rw [d]
    have e1 : ¬ ((32 : Int) < (n : Int)) := by omega
    go_enter Tryd.func46, Tryd.ntmps46
    go_wp2
    go_ret
    exact ⟨rfl, rfl⟩

section
attribute [local go_sem high] run_index_digits
set_option maxHeartbeats 2000000 in
set_option maxRecDepth 100000 in
theorem word_any (s : ByteArray) (w : World) (hs : s.size ≤ 1000000) : Calls Tryd.prog 18 #[.string s] w fun e w' => e = .returned (.string ⟨(wordB s.data.toList).toArray⟩) ∧ Below w.heap.size w w' := by
  obtain ⟨l, hl⟩ : ∃ l, l = s.data.toList := ⟨_, rfl⟩
  have hln : l.length = s.size := by rw [hl, ← Lib.size_eq]
  by_cases h0 : s.size = 0
  · have hse : s = ⟨#[]⟩ := by
      apply ByteArray.ext
      apply Array.eq_empty_of_size_eq_zero
      exact h0
    subst hse
    go_enter Tryd.func18, Tryd.ntmps18
    go_wp2
    go_ret
    exact ⟨rfl, Below.refl _ _⟩
  · have hne : (s.toList == []) = false := by
      rw [beq_eq_false_iff_ne, ByteArray.toList_eq, ← hl]
      intro e; rw [e] at hln; simp at hln; omega
    have hlne : l ≠ [] := fun e => by rw [e] at hln; simp at hln; omega
    rw [wordB, ← hl, if_neg hlne]
    have hb0 : Below w.heap.size w (w.alloc (.cells #[.pointer none, .slice none 0 0] 61)) := (Below.refl _ w).alloc (Nat.le_refl _) _
    have hf0 := Bd.fresh w (w.heap.size + 2)
    have hs0 : (w.alloc (.cells #[.pointer none, .slice none 0 0] 61)).heap.size = w.heap.size + 1 := by simp
    have hcv := Lib.run_convert_string_bytes (P := Tryd.prog) (w.alloc (.cells #[.pointer none, .slice none 0 0] 61)) 9 59 5 s Tryd.underlying9 Tryd.underlying59 Tryd.underlying5
    have hcell := fun j hj => Lib.bytesWorld_cell (w.alloc (.cells #[.pointer none, .slice none 0 0] 61)) 5 s j hj
    have hold := fun j hj => Lib.bytesWorld_at_old (w.alloc (.cells #[.pointer none, .slice none 0 0] 61)) 5 s j hj
    have hsz := Lib.bytesWorld_size (w.alloc (.cells #[.pointer none, .slice none 0 0] 61)) 5 s
    have hos : (Lib.bytesWorld (w.alloc (.cells #[.pointer none, .slice none 0 0] 61)) 5 s).os = (w.alloc (.cells #[.pointer none, .slice none 0 0] 61)).os ∧ (Lib.bytesWorld (w.alloc (.cells #[.pointer none, .slice none 0 0] 61)) 5 s).tape = (w.alloc (.cells #[.pointer none, .slice none 0 0] 61)).tape ∧ (Lib.bytesWorld (w.alloc (.cells #[.pointer none, .slice none 0 0] 61)) 5 s).output = (w.alloc (.cells #[.pointer none, .slice none 0 0] 61)).output := ⟨rfl, rfl, rfl⟩
    rw [hs0] at hcv hcell hold hsz
    generalize Lib.bytesWorld (w.alloc (.cells #[.pointer none, .slice none 0 0] 61)) 5 s = W1 at hcv hcell hold hsz hos
    have hO1 : Only (fun _ => False) (w.alloc (.cells #[.pointer none, .slice none 0 0] 61)) W1 := ⟨hos.1, hos.2.1, hos.2.2, by omega, fun k hk _ => hold k (by omega)⟩
    have hf1 := hf0.only hO1 (fun d => d) (fun _ _ d => d)
    have hb1 : Below w.heap.size w W1 := Below.only hb0 hO1 (by omega) (fun _ d => d.elim)
    have hcell' : ∀ j, j < s.size → W1.cell? ⟨w.heap.size + 1, j, none⟩ = some (.int .u8 ((l.getD j 0).toNat : Int)) := fun j hj => by rw [hl]; exact hcell j hj
    have HI := hide (And.intro hf1 (And.intro hb1 hcell'))
    clear hf0 hf1 hb0 hb1 hO1 hos hold hcell hcell' hl
    go_enter Tryd.func18, Tryd.ntmps18
    go_wp2
    go_loopw [11] (fun iv wr => ∃ (i : Nat) (v : Value), i ≤ s.size ∧ iv = .int .i64 i ∧ Hid (Bd wr (w.heap.size + 2) w.heap.size v ((l.take i).flatMap wordByte)) ∧ Hid (∀ j, j < s.size → wr.cell? ⟨w.heap.size + 1, j, none⟩ = some (.int .u8 ((l.getD j 0).toNat : Int))) ∧ Hid (Below w.heap.size w wr ∧ w.heap.size + 2 ≤ wr.heap.size)) (fun iv _ => s.size - (intOf iv).toNat)
    case atStart => exact ⟨0, _, Nat.zero_le _, rfl, hide (by simpa using HI.out.1), hide HI.out.2.2, hide ⟨HI.out.2.1, by omega⟩⟩
    case round =>
      obtain ⟨i, v, hi, rfl, HB, HC, HW⟩ := hrel
      by_cases hlt : i < s.size
      · have hlt' : (i : Int) < (s.size : Int) := by omega
        have hdl : decide (i < s.size) = true := by simpa using hlt
        have hc := HC.out i hlt
        have hft := flat_take l i (by omega)
        obtain ⟨c, hcd⟩ : ∃ c, c = l.getD i 0 := ⟨_, rfl⟩
        rw [← hcd] at hc hft
        have hacc : ((l.take i).flatMap wordByte).length ≤ 3000000 := by
          have := flat_length (l.take i)
          have h2 : (l.take i).length ≤ 1000000 := by rw [List.length_take]; omega
          omega
        obtain ⟨acc, hac⟩ : ∃ acc, acc = (l.take i).flatMap wordByte := ⟨_, rfl⟩
        rw [← hac] at HB hft hacc
        have HF := hide hft
        have hst := stands_any c wr
        have hBlt := HB.out.lt
        clear hft hcd hac
        have hBD := HB.out
        have hks : ∀ (W : World), Only (fun k => k = w.heap.size ∨ w.heap.size + 2 ≤ k) wr W → (∀ j, j < s.size → W.cell? ⟨w.heap.size + 1, j, none⟩ = some (.int .u8 ((l.getD j 0).toNat : Int))) ∧ Below w.heap.size w W ∧ w.heap.size + 2 ≤ W.heap.size := fun W ho => by
          refine ⟨fun j hj => ho.cell (HC.out j hj) (fun e => ?_), Below.only HW.out.1 ho HW.out.1.size (fun k e => ?_), by have := ho.size; have := HW.out.2; omega⟩
          · simp at e
          · rcases e with e | e <;> omega
        have hmo : ∀ (W W' : World) (v' : Value) (m : List UInt8), Bd W (w.heap.size + 2) w.heap.size v' m → Only (fun k => k = w.heap.size ∨ v'.ownBlock = some k) W W' → Only (fun k => k = w.heap.size ∨ w.heap.size + 2 ≤ k) W W' := fun W W' v' m hb ho => ho.mono (fun k _ e => by
          rcases e with e | e
          · exact .inl e
          · exact .inr (hb.blk k e).1)
        have HM := hide hmo
        clear hmo
        have HK := hide hks
        clear hks
        by_cases hsd : stand c = true
        · rw [hsd] at hst
          have hwb := writeByte_any c hBD (by omega) HW.out.2
          have hwo : wordByte c = [c] := by rw [wordByte, if_pos hsd]
          rw [hwo] at HF
          generalize (c.toNat : Int) = cc at hst hwb hc
          have HBD := hide hBD
          clear hwo hsd hBD
          go_wp2_with (first
            | (go_at_call 46; refine hst.mono ?_; rintro e w' ⟨rfl, rfl⟩)
            | (go_at_call 40; refine hwb.mono ?_; rintro e W2 ⟨rfl, v2, hB2, o2⟩))
          go_roundw
          case rel =>
            obtain ⟨q1, q2, q3⟩ := HK.out W2 (HM.out _ _ _ _ HBD.out o2)
            exact ⟨i + 1, v2, by omega, by go_num, hide (by rw [HF.out]; exact hB2), hide q1, hide ⟨q2, q3⟩⟩
          case measure => simp [intOf]; omega
        · have hsf : stand c = false := by simpa using hsd
          rw [hsf] at hst
          have hwo : wordByte c = [37, hexd (c.toNat / 16), hexd (c.toNat % 16)] := by rw [wordByte, if_neg hsd]
          rw [hwo] at HF
          have hlt8 : c.toNat < 256 := c.toNat_lt
          have e1 : digI ((c.toNat : Int) / 16) = ((hexd (c.toNat / 16)).toNat : Int) := by rw [digI, show ((c.toNat : Int) / 16).toNat = c.toNat / 16 by omega]
          have e2 : digI ((c.toNat : Int) % 16) = ((hexd (c.toNat % 16)).toNat : Int) := by rw [digI, show ((c.toNat : Int) % 16).toNat = c.toNat % 16 by omega]
          have hand : bits .and .u8 (c.toNat : Int) 15 = (c.toNat : Int) % 16 := u8_and15 _ (by omega) (by omega)
          have hw37 : Calls Tryd.prog 40 #[.pointer (some ⟨w.heap.size, 0, none⟩), .int .u8 37] wr fun e w' => e = .returned .nilIface ∧ Wrote wr w' (w.heap.size + 2) w.heap.size v (acc ++ [37]) := writeByte_any 37 hBD (by omega) HW.out.2
          have hwA : ∀ W v', Bd W (w.heap.size + 2) w.heap.size v' (acc ++ [37]) → w.heap.size + 2 ≤ W.heap.size → Calls Tryd.prog 40 #[.pointer (some ⟨w.heap.size, 0, none⟩), .int .u8 (digI ((c.toNat : Int) / 16))] W fun e w' => e = .returned .nilIface ∧ Wrote W w' (w.heap.size + 2) w.heap.size v' (acc ++ [37] ++ [hexd (c.toNat / 16)]) := fun W v' h hW => by
            rw [e1]; exact writeByte_any _ h (by simp; omega) hW
          have hwB : ∀ W v', Bd W (w.heap.size + 2) w.heap.size v' (acc ++ [37] ++ [hexd (c.toNat / 16)]) → w.heap.size + 2 ≤ W.heap.size → Calls Tryd.prog 40 #[.pointer (some ⟨w.heap.size, 0, none⟩), .int .u8 (digI ((c.toNat : Int) % 16))] W fun e w' => e = .returned .nilIface ∧ Wrote W w' (w.heap.size + 2) w.heap.size v' (acc ++ [37] ++ [hexd (c.toNat / 16)] ++ [hexd (c.toNat % 16)]) := fun W v' h hW => by
            rw [e2]; exact writeByte_any _ h (by simp; omega) hW
          have k0 : 0 ≤ (c.toNat : Int) / 16 := by omega
          have k1 : (c.toNat : Int) / 16 ≤ 15 := by omega
          have k2 : 0 ≤ (c.toNat : Int) % 16 := by omega
          have k3 : (c.toNat : Int) % 16 ≤ 15 := by omega
          have HBD := hide hBD
          have hsW := HW.out.2
          generalize hexd (c.toNat / 16) = x1 at hwA hwB HF
          generalize hexd (c.toNat % 16) = x2 at hwB HF
          clear hwo hsd hsf hBD e1 e2 hlt8
          go_wp2_with (first
            | (go_at_call 46; refine hst.mono ?_; rintro e w' ⟨rfl, rfl⟩)
            | (go_at_call 40; refine hw37.mono ?_; rintro e W2 ⟨rfl, v2, hB2, o2⟩; have hA := hwA W2 v2 hB2 (Nat.le_trans hsW o2.size); clear hw37)
            | (go_at_call 40; refine hA.mono ?_; rintro e W3 ⟨rfl, v3, hB3, o3⟩; have hC := hwB W3 v3 hB3 (Nat.le_trans hsW (Nat.le_trans o2.size o3.size)); clear hA)
            | (go_at_call 40; refine hC.mono ?_; rintro e W4 ⟨rfl, v4, hB4, o4⟩))
          go_roundw
          case rel =>
            have t2 := HM.out _ _ _ _ HBD.out o2
            have t3 := t2.trans (HM.out _ _ _ _ hB2 o3) (fun _ _ e => e)
            obtain ⟨q1, q2, q3⟩ := HK.out W4 (t3.trans (HM.out _ _ _ _ hB3 o4) (fun _ _ e => e))
            exact ⟨i + 1, v4, by omega, by go_num, hide (by rw [HF.out]; simpa using hB4), hide q1, hide ⟨q2, q3⟩⟩
          case measure => simp [intOf]; omega
      · obtain rfl : i = s.size := by omega
        have hdl : decide (s.size < s.size) = false := by simp
        have hst := string_any HB.out (B' := w.heap.size) (Nat.le_refl _) (by omega) HW.out.1.size
        rw [List.take_of_length_le (by omega)] at hst
        have HW' := hide HW.out.1
        clear HB HC HI
        go_wp2_with (go_at_call 41; refine hst.mono ?_; rintro e w' ⟨rfl, b9⟩)
        go_ret
        exact ⟨rfl, HW'.out.trans b9⟩
end
end Go.Proofs.YtcpigbojebjlaaaDoor
