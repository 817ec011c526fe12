/-
  CMPD: branches, names, stamps held against each other by the document.
  Bytes: what the elder seat had besides.
  stamp: bytes of texts, converted.
  KEYS: what the program's and the document's keys of stamps are.
  TOLD: Put, Text, Key and their like of the program.
  MEANT: a value, if its own text is the text.
-/
import Derived.Test.YtkkpdgfllnbigaaGreatCmp7
import Derived.Test.YtkkpdgfllnbigaaGreatMg2
import Derived.Lib.SlBytesConst
import Derived.Laws.BitsAllLaws
import Derived.Test.YtkkpdgfllnbigaaGreatMg5
import Derived.Lib.AppendStr
import Derived.Lib.ConvBytes
import Derived.Sort.Grow
import Derived.Deep.DeepCutAuto
import Derived.Deep.CutBlock
namespace Go.Proofs.YtkkpdgfllnbigaaGreat
open Go.RowKit Go.Shelf
set_option linter.unusedSimpArgs false

theorem number6_any (a b : Int) (w : World) : Calls Tryz.prog 170 #[.int .i64 a, .int .i64 b] w fun e w' => e = .returned (.int .i64 (cmpI a b)) ∧ w' = w := by
  unfold cmpI
  by_cases h1 : a < b
  · rw [if_pos h1]
    go_enter Tryz.func170, Tryz.ntmps170
    go_wp2
    go_ret
    exact ⟨rfl, rfl⟩
  · rw [if_neg h1]
    by_cases h2 : b < a
    · rw [if_pos h2]
      go_enter Tryz.func170, Tryz.ntmps170
      go_wp2
      go_ret
      exact ⟨rfl, rfl⟩
    · rw [if_neg h2]
      go_enter Tryz.func170, Tryz.ntmps170
      go_wp2
      go_ret
      exact ⟨rfl, rfl⟩

/-- The first that decides. -/
def lexI (a b : Int) : Int := if a = 0 then b else a

set_option maxHeartbeats 2000000 in
set_option maxRecDepth 100000 in
theorem refCmpB_grow (r : Int) (l : ByteArray) (r' : Int) (l' : ByteArray) (w : World) (hl : l.size ≤ 9223372036854775807) : Calls Tryz.prog 208 #[bv r l, bv r' l'] w fun e w' => e = .returned (.int .i64 (lexI (cmpI r r') (cmpB l l'))) ∧ BelowG w.heap.size w w' := by
  have hb : BelowG w.heap.size w ((w.alloc (.cells #[.int .i64 r, .string l] 39)).alloc (.cells #[.int .i64 r', .string l'] 39)) := (belowG_new w _).alloc (by simp) _
  have HB := hide hb
  clear hb
  have h1 := number6_any r r'
  have h2 := fun W => refCmp_any l l' W hl
  clear hl
  generalize cmpI r r' = c1 at h1 ⊢
  generalize cmpB l l' = c2 at h2 ⊢
  unfold lexI bv
  by_cases hc : c1 = 0
  · rw [if_pos hc]
    subst hc
    go_enter Tryz.func208, Tryz.ntmps208
    go_wp2_with (first | (go_at_call 170; refine (h1 _).mono ?_; rintro e w' ⟨rfl, rfl⟩) | (go_at_call 237; refine (h2 _).mono ?_; rintro e w' ⟨rfl, n, rfl⟩))
    go_ret
    exact ⟨rfl, HB.out.drewN _⟩
  · rw [if_neg hc]
    go_enter Tryz.func208, Tryz.ntmps208
    go_wp2_with (go_at_call 170; refine (h1 _).mono ?_; rintro e w' ⟨rfl, rfl⟩)
    go_ret
    exact ⟨rfl, HB.out⟩

set_option maxHeartbeats 2000000 in
set_option maxRecDepth 100000 in
theorem refCmpN_grow (r : Int) (l : ByteArray) (n r' : Int) (l' : ByteArray) (n' : Int) (w : World) (hl : l.size ≤ 9223372036854775807) : Calls Tryz.prog 171 #[nv r l n, nv r' l' n'] w fun e w' => e = .returned (.int .i64 (lexI (lexI (cmpI r r') (cmpB l l')) (cmpI n n'))) ∧ BelowG w.heap.size w w' := by
  have hb : BelowG w.heap.size w ((w.alloc (.cells #[.int .i64 r, .string l, .int .i64 n] 41)).alloc (.cells #[.int .i64 r', .string l', .int .i64 n'] 41)) := (belowG_new w _).alloc (by simp) _
  obtain ⟨hk1, hk2⟩ := new2 w (.cells #[.int .i64 r, .string l, .int .i64 n] 41) (.cells #[.int .i64 r', .string l', .int .i64 n'] 41)
  have hz1 := (gI hk1).1
  have hz2 := (gI hk2).1
  have h2 := number6_any n n'
  have h1 : Calls Tryz.prog 208 #[bv r l, bv r' l'] ((w.alloc (.cells #[.int .i64 r, .string l, .int .i64 n] 41)).alloc (.cells #[.int .i64 r', .string l', .int .i64 n'] 41)) fun e w' => e = .returned (.int .i64 (lexI (cmpI r r') (cmpB l l'))) ∧ w'.cell? ⟨w.heap.size, 2, none⟩ = some (.int .i64 n) ∧ w'.cell? ⟨w.heap.size + 1, 2, none⟩ = some (.int .i64 n') ∧ Hid (BelowG w.heap.size w w') :=
    (refCmpB_grow r l r' l' _ hl).mono fun e w' ⟨he, hw⟩ => ⟨he, (blk3 ((hw.block _ hz1).trans hk1)).2.2.1, (blk3 ((hw.block _ hz2).trans hk2)).2.2.1, hide (hb.trans (hw.mono hb.size))⟩
  clear hb hk1 hk2 hz1 hz2 hl
  generalize lexI (cmpI r r') (cmpB l l') = c1 at h1 ⊢
  generalize cmpI n n' = c2 at h2 ⊢
  unfold bv at h1
  unfold lexI nv
  by_cases hc : c1 = 0
  · rw [if_pos hc]
    subst hc
    go_enter Tryz.func171, Tryz.ntmps171
    go_wp2_with (first | (go_at_call 208; refine h1.mono ?_; rintro e w' ⟨rfl, hc1, hc2, HW⟩) | (go_at_call 170; refine (h2 _).mono ?_; rintro e w' ⟨rfl, rfl⟩))
    go_ret
    exact ⟨rfl, HW.out⟩
  · rw [if_neg hc]
    go_enter Tryz.func171, Tryz.ntmps171
    go_wp2_with (go_at_call 208; refine h1.mono ?_; rintro e w' ⟨rfl, hc1, hc2, HW⟩)
    go_ret
    exact ⟨rfl, HW.out⟩

set_option maxHeartbeats 2000000 in
set_option maxRecDepth 100000 in
theorem refCmpS_grow (g r : Int) (l : ByteArray) (n x g' r' : Int) (l' : ByteArray) (n' x' : Int) (w : World) (hl : l.size ≤ 9223372036854775807) : Calls Tryz.prog 114 #[sv g r l n x, sv g' r' l' n' x'] w fun e w' => e = .returned (.int .i64 (lexI (lexI (cmpI g g') (lexI (lexI (cmpI r r') (cmpB l l')) (cmpI n n'))) (cmpI x x'))) ∧ BelowG w.heap.size w w' := by
  have hb : BelowG w.heap.size w ((w.alloc (.cells #[.int .i64 g, .int .i64 r, .string l, .int .i64 n, .int .i64 x] 43)).alloc (.cells #[.int .i64 g', .int .i64 r', .string l', .int .i64 n', .int .i64 x'] 43)) := (belowG_new w _).alloc (by simp) _
  obtain ⟨hk1, hk2⟩ := new2 w (.cells #[.int .i64 g, .int .i64 r, .string l, .int .i64 n, .int .i64 x] 43) (.cells #[.int .i64 g', .int .i64 r', .string l', .int .i64 n', .int .i64 x'] 43)
  have hz1 := (gI hk1).1
  have hz2 := (gI hk2).1
  have h1 := number6_any g g'
  have h3 := number6_any x x'
  have h2 : Calls Tryz.prog 171 #[nv r l n, nv r' l' n'] ((w.alloc (.cells #[.int .i64 g, .int .i64 r, .string l, .int .i64 n, .int .i64 x] 43)).alloc (.cells #[.int .i64 g', .int .i64 r', .string l', .int .i64 n', .int .i64 x'] 43)) fun e w' => e = .returned (.int .i64 (lexI (lexI (cmpI r r') (cmpB l l')) (cmpI n n'))) ∧ w'.cell? ⟨w.heap.size, 4, none⟩ = some (.int .i64 x) ∧ w'.cell? ⟨w.heap.size + 1, 4, none⟩ = some (.int .i64 x') ∧ Hid (BelowG w.heap.size w w') :=
    (refCmpN_grow r l n r' l' n' _ hl).mono fun e w' ⟨he, hw⟩ => ⟨he, (blk5 ((hw.block _ hz1).trans hk1)).2.2.2.2.1, (blk5 ((hw.block _ hz2).trans hk2)).2.2.2.2.1, hide (hb.trans (hw.mono hb.size))⟩
  have HB := hide hb
  clear hb hk1 hk2 hz1 hz2 hl
  generalize lexI (lexI (cmpI r r') (cmpB l l')) (cmpI n n') = c2 at h2 ⊢
  generalize cmpI g g' = c1 at h1 ⊢
  generalize cmpI x x' = c3 at h3 ⊢
  unfold nv at h2
  unfold lexI sv
  by_cases hc : c1 = 0
  · rw [if_pos hc]
    subst hc
    by_cases hd : c2 = 0
    · rw [if_pos hd]
      subst hd
      go_enter Tryz.func114, Tryz.ntmps114
      go_wp2_with (first | (go_at_call 170; refine (h1 _).mono ?_; rintro e w' ⟨rfl, rfl⟩) | (go_at_call 171; refine h2.mono ?_; rintro e w' ⟨rfl, hc1, hc2, HW⟩) | (go_at_call 170; refine (h3 _).mono ?_; rintro e w' ⟨rfl, rfl⟩))
      go_ret
      exact ⟨rfl, HW.out⟩
    · rw [if_neg hd]
      go_enter Tryz.func114, Tryz.ntmps114
      go_wp2_with (first | (go_at_call 170; refine (h1 _).mono ?_; rintro e w' ⟨rfl, rfl⟩) | (go_at_call 171; refine h2.mono ?_; rintro e w' ⟨rfl, hc1, hc2, HW⟩))
      go_ret
      exact ⟨rfl, HW.out⟩
  · rw [if_neg hc, if_neg hc]
    go_enter Tryz.func114, Tryz.ntmps114
    go_wp2_with (go_at_call 170; refine (h1 _).mono ?_; rintro e w' ⟨rfl, rfl⟩)
    go_ret
    exact ⟨rfl, HB.out⟩

theorem lexI_assoc (a b c : Int) : lexI (lexI a b) c = lexI a (lexI b c) := by unfold lexI; split <;> (try split) <;> simp_all
theorem lexI_zero (a : Int) : lexI a 0 = a := by unfold lexI; split <;> simp_all
theorem cmpI_flat {c : Int} (h : c = -1 ∨ c = 0 ∨ c = 1) : cmpI c 0 = c := by rcases h with rfl | rfl | rfl <;> rfl
theorem pairs_lex (a b : Int) (t : List (Int × Int)) : cmpPairs ((a, b) :: t) = lexI (cmpI a b) (cmpPairs t) := by
  rw [cmpPairs]
  unfold lexI cmpI
  dsimp only
  by_cases h1 : a < b
  · rw [if_pos h1, if_pos h1, if_neg (by decide)]
  · rw [if_neg h1, if_neg h1]
    by_cases h2 : b < a
    · rw [if_pos h2, if_pos h2, if_neg (by decide)]
    · rw [if_neg h2, if_neg h2, if_pos rfl]
/-- Both orders are one. -/
theorem cmp_lexS (g r : Int) (l : ByteArray) (n x g' r' : Int) (l' : ByteArray) (n' x' : Int) : cmpS g r l n x g' r' l' n' x' = lexI (lexI (cmpI g g') (lexI (lexI (cmpI r r') (cmpB l l')) (cmpI n n'))) (cmpI x x') := by
  unfold cmpS prs
  rw [pairs_lex, pairs_lex, pairs_lex, pairs_lex, pairs_lex, cmpPairs, lexI_zero, cmpI_flat (ord_B.range l l')]
  simp only [lexI_assoc]
end Go.Proofs.YtkkpdgfllnbigaaGreat
namespace Go.Proofs.YtkkpdgfllnbigaaGreat
open Go.RowKit

theorem conv_rd {w : World} {ao : Option Addr} {n cap : Nat} {l : List Int} (hr : Rd w ao l) (hn : l.length = n) : (convert 121 9 (.slice ao n cap)).run Tryz.prog w = .ok (.string (strOfNums l)) w := by
  cases ao with
  | none =>
    have := hr.1 rfl
    subst this
    exact run_convert_bytes_nil w 121 5 Tryz.underlying121 Tryz.underlying5 _ _ 9 Tryz.underlying9
  | some a =>
    cases l with
    | nil =>
      simp at hn
      subst hn
      rw [run_convert_bytes_string w 121 9 5 _ 0 cap Tryz.underlying121 Tryz.underlying5 Tryz.underlying9, run_bytesToString w a 0 cap [] (by simp [loadCells, loadCellsFrom])]
      rfl
    | cons b l =>
      obtain ⟨ab, off, ha, _⟩ := hr.at (k := 0) (b := b) rfl
      cases ha
      refine run_convert_bytes_arg w 121 5 Tryz.underlying121 Tryz.underlying5 ab off n cap (b :: l) hn ?_ 9 Tryz.underlying9
      intro i hi
      have := hr.2 _ rfl i (.int .u8 ((b :: l).getD i 0)) (by rw [u8s_get, List.getD, List.getElem?_eq_getElem (by omega)]; rfl)
      rwa [add_lit] at this
end Go.Proofs.YtkkpdgfllnbigaaGreat
namespace Go.Proofs.YtkkpdgfllnbigaaGreat
open Go.RowKit Go.Shelf Go.Sort
set_option linter.unusedSimpArgs false

def ints (l : List UInt8) : List Int := l.map (fun b => (b.toNat : Int))
theorem ints_length (l : List UInt8) : (ints l).length = l.length := by simp [ints]
theorem ints_append (l m : List UInt8) : ints (l ++ m) = ints l ++ ints m := by simp [ints]
theorem ints_size (s : ByteArray) : (ints s.data.toList).length = s.size := by rw [ints_length, ← Lib.size_eq]
theorem str_ints (l : List UInt8) : strOfNums (ints l) = ⟨l.toArray⟩ := by
  unfold strOfNums ints
  rw [List.map_map]
  congr 2
  conv => rhs; rw [← List.map_id l]
  apply List.map_congr_left
  intro b _
  simp
/-- The bytes of a text, in new memory. -/
theorem conv_str (s : ByteArray) (W : World) : ∃ c W', (convert 9 121 (.string s)).run Tryz.prog W = .ok (.slice (some ⟨W.heap.size, 0, none⟩) s.size c) W' ∧ Rd W' (some ⟨W.heap.size, 0, none⟩) (ints s.data.toList) ∧ Below W.heap.size W W' := by
  refine ⟨_, _, Lib.run_convert_string_bytes (P := Tryz.prog) W 9 121 5 s Tryz.underlying9 Tryz.underlying121 Tryz.underlying5, ⟨by simp, ?_⟩, ⟨rfl, rfl, rfl, by rw [Lib.bytesWorld_size]; omega, fun k hk => Lib.bytesWorld_at_old W 5 s k hk⟩⟩
  intro a ha j u hj
  cases ha
  rw [u8s_get] at hj
  have hl : s.data.toList.length = s.size := (Lib.size_eq s).symm
  have hjl : j < s.size := by
    cases hg : (ints s.data.toList)[j]? with
    | none => rw [hg] at hj; cases hj
    | some v => have := (List.getElem?_eq_some_iff.1 hg).1; rw [ints_size] at this; exact this
  rw [add_lit, Nat.zero_add, Lib.bytesWorld_cell W 5 s j hjl, ← hj]
  simp [ints, List.getD, List.getElem?_eq_getElem (show j < s.data.toList.length by omega)]
theorem meant_iff (V : Bool) (t s e : ByteArray) : ((if V then (0 : Int) else 2) = 0 ∧ (if V then t else e) = s) ↔ (V && decide (t = s)) = true := by
  cases V <;> simp
theorem set3_other {w : World} {R b : Nat} {k : Nat} {x y z : Value} (h : R ≠ b) : (((w.setCell ⟨R, 0, none⟩ x).setCell ⟨R, 1, none⟩ y).setCell ⟨R, 2, none⟩ z).cell? ⟨b, k, none⟩ = w.cell? ⟨b, k, none⟩ := by
  refine World.cell?_of_block ?_
  rw [Below.heap_setCell _ _ _ _ (Ne.symm h), Below.heap_setCell _ _ _ _ (Ne.symm h), Below.heap_setCell _ _ _ _ (Ne.symm h)]
end Go.Proofs.YtkkpdgfllnbigaaGreat
namespace Go.Proofs.YtkkpdgfllnbigaaGreat
open Go.RowKit Go.Shelf
set_option linter.unusedSimpArgs false

/-- The k low bytes of a number, the highest first. -/
def low (n : Nat) : Nat → List Int
  | 0 => []
  | k + 1 => ((n / 256 ^ k % 256 : Nat) : Int) :: low n k
theorem low_length (n : Nat) : ∀ k, (low n k).length = k
  | 0 => rfl
  | k + 1 => by rw [low, List.length_cons, low_length n k]
theorem low_u8 (n : Nat) : ∀ k, U8 (low n k)
  | 0 => U8.nil
  | k + 1 => by
    intro y hy
    rw [low, List.mem_cons] at hy
    rcases hy with rfl | hy
    · omega
    · exact low_u8 n k y hy
def rowK (n k : Nat) : List Int := List.replicate (8 - k) 0 ++ low n k
theorem rowK_set (n k : Nat) (h : k < 8) : (rowK n k).set (7 - k) ((n / 256 ^ k % 256 : Nat) : Int) = rowK n (k + 1) := by
  unfold rowK
  rw [show 8 - k = (7 - k) + 1 by omega, List.replicate_succ', List.append_assoc, List.set_append_right _ _ (by simp)]
  simp [low, show 8 - (k + 1) = 7 - k by omega]
theorem rowK_length (n k : Nat) (h : k ≤ 8) : (rowK n k).length = 8 := by unfold rowK; rw [List.length_append, List.length_replicate, low_length]; omega

set_option maxHeartbeats 1000000 in
set_option maxRecDepth 100000 in
theorem highest_any (n : Nat) (w : World) : Calls Tryz.prog 231 #[.int .i64 (n : Int)] w fun e w' => e = .returned (.string (strOfNums (low n 8))) ∧ Below w.heap.size w w' := by
  obtain ⟨SS, hSS⟩ : ∃ SS, SS = strOfNums (low n 8) := ⟨_, rfl⟩
  rw [← hSS]
  have HS := hide hSS
  clear hSS
  go_enter Tryz.func231, Tryz.ntmps231
  go_wp2
  go_loopw [0, 4] (fun v0 v4 wr => ∃ k : Nat, k ≤ 8 ∧ v0 = .int .i64 ((n / 256 ^ k : Nat) : Int) ∧ v4 = .int .i64 (7 - (k : Int)) ∧ Hid (wr.heap[w.heap.size]? = some (.cells (u8s (rowK n k)).toArray 234 (0, 0))) ∧ Hid (Below w.heap.size w wr)) (fun _ v4 _ => (intOf v4 + 1).toNat)
  case atStart => exact ⟨0, by omega, by simp, by simp, hide (heap_alloc_new w _), hide (below_new w _)⟩
  case round =>
    obtain ⟨k, hk, rfl, rfl, HC, HW⟩ := hrel
    by_cases hc : k < 8
    · have z1 : (0 : Int) ≤ 7 - (k : Int) := by omega
      have z2 : (7 : Int) - (k : Int) < 8 := by omega
      have hlen := rowK_length n k hk
      obtain ⟨v, hv⟩ : ∃ v, (u8s (rowK n k))[7 - k]? = some v := ⟨_, List.getElem?_eq_getElem (by rw [u8s_length]; omega)⟩
      have hcl : wr.cell? ⟨w.heap.size, 7 - k, none⟩ = some v := by rw [cell_of_row _ _ _ _ 234 (0, 0) HC.out]; simpa using hv
      have hfz : wr.frozen? ⟨w.heap.size, 7 - k, none⟩ = false := frozen_of_row _ _ _ _ 234 HC.out
      have hst := heap_setCell_same wr w.heap.size (7 - k) _ 234 (.int .u8 ((n / 256 ^ k % 256 : Nat) : Int)) HC.out
      have hrow : (wr.setCell ⟨w.heap.size, 7 - k, none⟩ (.int .u8 ((n : Int) / 256 ^ k % 256))).heap[w.heap.size]? = some (.cells (u8s (rowK n (k + 1))).toArray 234 (0, 0)) := by
        rw [show ((n : Int) / 256 ^ k % 256) = ((n / 256 ^ k % 256 : Nat) : Int) by simp, hst, ← rowK_set n k hc]
        simp [u8s, List.map_set]
      have HR := hide hrow
      clear hrow hst hv
      go_wp2
      refine ⟨⟨k + 1, by omega, ?_, ?_, hide HR.out, hide (HW.out.setCell (by simp) _)⟩, ?_⟩
      · rw [Nat.pow_succ, ← Nat.div_div_eq_div_mul]; simp
      · congr 1; omega
      · simp only [intOf]; omega
    · obtain rfl : k = 8 := by omega
      have hRd : Rd wr (some ⟨w.heap.size, 0, none⟩) (low n 8) := by
        refine ⟨by simp, ?_⟩
        intro a ha j u hj
        cases ha
        rw [add_lit, Nat.zero_add, cell_of_row _ _ _ _ 234 (0, 0) HC.out]
        simpa [rowK] using hj
      have hcv := conv_rd (n := 8) (cap := 8) hRd (low_length n 8)
      rw [← HS.out] at hcv
      go_wp2
      go_ret
      exact ⟨rfl, HW.out⟩

theorem one_any (n : Int) (w : World) (h0 : 0 ≤ n) (h1 : n ≤ 255) : Calls Tryz.prog 232 #[.int .i64 n] w fun e w' => e = .returned (.string (strOfNums [n])) ∧ Below w.heap.size w w' := by
  have wn : IntKind.u8.wrap n = n := by rw [IntKind.wrap_u8]; omega
  have hRd : Rd (w.alloc (.cells #[.int .u8 n] 5)) (some ⟨w.heap.size, 0, none⟩) [n] := rd_lit w [n] 5 (0, 0)
  have hcv := conv_rd (n := 1) (cap := 1) hRd rfl
  have hb := below_new w (.cells #[.int .u8 n] 5)
  generalize strOfNums [n] = SS at hcv ⊢
  go_enter Tryz.func232, Tryz.ntmps232
  go_wp2
  go_ret
  exact ⟨rfl, hb⟩

def keyS (g r : Int) (l : ByteArray) (n x : Int) : ByteArray := strOfNums (low g.toNat 8) ++ strOfNums [r] ++ l ++ ⟨#[0]⟩ ++ strOfNums (low n.toNat 8) ++ strOfNums [x]
theorem low_size (n : Nat) : (strOfNums (low n 8)).size = 8 := by rw [strOfNums_size, low_length]
set_option maxHeartbeats 2000000 in
set_option maxRecDepth 100000 in
theorem stampKey_any (g r : Int) (l : ByteArray) (n x : Int) (w : World) (h0 : 0 ≤ r) (h1 : r ≤ 255) (hl : l.size ≤ 1000000) (n0 : 0 ≤ n) (n1 : n ≤ 9223372036854775807) (g0 : 0 ≤ g) (g1 : g ≤ 9223372036854775807) (x0 : 0 ≤ x) (x1 : x ≤ 255) : Calls Tryz.prog 188 #[sv g r l n x] w fun e w' => e = .returned (.string (keyS g r l n x)) ∧ Below w.heap.size w w' := by
  obtain ⟨m0, m1⟩ := new2 w (.cells #[.int .i64 g, .int .i64 r, .string l, .int .i64 n, .int .i64 x] 43) (.cells #[.int .i64 r, .string l] 39)
  have hb : Below w.heap.size w ((w.alloc (.cells #[.int .i64 g, .int .i64 r, .string l, .int .i64 n, .int .i64 x] 43)).alloc (.cells #[.int .i64 r, .string l] 39)) := ((Below.refl _ w).alloc (Nat.le_refl _) _).alloc (by simp) _
  unfold keyS
  have hg : ∀ W, Calls Tryz.prog 231 #[.int .i64 g] W fun e w' => e = .returned (.string (strOfNums (low g.toNat 8))) ∧ Below W.heap.size W w' := fun W => by
    have := highest_any g.toNat W
    rw [show ((g.toNat : Nat) : Int) = g by omega] at this
    exact this
  have hn : ∀ W, Calls Tryz.prog 231 #[.int .i64 n] W fun e w' => e = .returned (.string (strOfNums (low n.toNat 8))) ∧ Below W.heap.size W w' := fun W => by
    have := highest_any n.toNat W
    rw [show ((n.toNat : Nat) : Int) = n by omega] at this
    exact this
  have hr := fun W => one_any r W h0 h1
  have hx := fun W => one_any x W x0 x1
  have sg := low_size g.toNat
  have sn := low_size n.toNat
  have sr : (strOfNums [r]).size = 1 := rfl
  have sx : (strOfNums [x]).size = 1 := rfl
  generalize strOfNums (low g.toNat 8) = DG at hg sg ⊢
  generalize strOfNums (low n.toNat 8) = DN at hn sn ⊢
  generalize strOfNums [r] = DR at hr sr ⊢
  generalize strOfNums [x] = DX at hx sx ⊢
  have f1 : ¬ 9223372036854775807 < DG.size + DR.size := by omega
  have f2 : ¬ 9223372036854775807 < DG.size + DR.size + l.size := by omega
  have f3 : ¬ 9223372036854775807 < DG.size + DR.size + l.size + 1 := by omega
  have f4 : ¬ 9223372036854775807 < DG.size + DR.size + l.size + 1 + DN.size := by omega
  have f5 : ¬ 9223372036854775807 < DG.size + DR.size + l.size + 1 + DN.size + DX.size := by omega
  clear sg sn sr sx
  go_enter Tryz.func188, Tryz.ntmps188
  go_wp2
  generalize ((w.alloc (.cells #[.int .i64 g, .int .i64 r, .string l, .int .i64 n, .int .i64 x] 43)).alloc (.cells #[.int .i64 r, .string l] 39)) = W0 at hb m0 m1 ⊢
  have hS1 : W0.drew.cell? ⟨w.heap.size, 0, none⟩ = some (.int .i64 g) ∧ W0.drew.cell? ⟨w.heap.size, 3, none⟩ = some (.int .i64 n) ∧ W0.drew.cell? ⟨w.heap.size, 4, none⟩ = some (.int .i64 x) ∧ W0.drew.cell? ⟨w.heap.size + 1, 0, none⟩ = some (.int .i64 r) ∧ W0.drew.cell? ⟨w.heap.size + 1, 1, none⟩ = some (.string l) := ⟨by show W0.cell? _ = _; rw [cell_of_row _ _ _ _ 43 (0, 0) m0]; rfl, by show W0.cell? _ = _; rw [cell_of_row _ _ _ _ 43 (0, 0) m0]; rfl, by show W0.cell? _ = _; rw [cell_of_row _ _ _ _ 43 (0, 0) m0]; rfl, by show W0.cell? _ = _; rw [cell_of_row _ _ _ _ 39 (0, 0) m1]; rfl, by show W0.cell? _ = _; rw [cell_of_row _ _ _ _ 39 (0, 0) m1]; rfl⟩
  have hBW : Below w.heap.size w W0.drew := hb.drew
  clear hb m0 m1
  refine wp_region_held_drew (S := (fun w' => w'.cell? ⟨w.heap.size, 0, none⟩ = some (.int .i64 g) ∧ w'.cell? ⟨w.heap.size, 3, none⟩ = some (.int .i64 n) ∧ w'.cell? ⟨w.heap.size, 4, none⟩ = some (.int .i64 x) ∧ w'.cell? ⟨w.heap.size + 1, 0, none⟩ = some (.int .i64 r) ∧ w'.cell? ⟨w.heap.size + 1, 1, none⟩ = some (.string l))) (by kernel_rfl) (by exact hS1) (fun hHeld => ?_)
  try dsimp only at hHeld
  refine take_op (i := 0) (d := 7) (OP := Op.fieldAddr 43 (Operand.tmp 1) 0) (T := 0) (v := ?vy1x) rfl rfl rfl rfl (by kernel_rfl) (by kernel_rfl) (by kernel_rfl) (fun _ _ _ h => h) (by rfl) ?hy1x hHeld ?ry1x
  case hy1x => (intro w' hSw; (try dsimp only at hSw); go_simp <;> with_reducible rfl)
  try simp only [Act.put, sI, sZ, sS]
  refine take_op (i := 1) (d := 8) (OP := Op.load 2 (Operand.tmp 7)) (T := 2) (v := ?vy2x) rfl rfl rfl rfl (by kernel_rfl) (by kernel_rfl) (by kernel_rfl) (fun _ _ _ h => h) (by rfl) ?hy2x hHeld ?ry2x
  case hy2x => (intro w' hSw; (try dsimp only at hSw); go_simp <;> with_reducible rfl)
  try simp only [Act.put, sI, sZ, sS]
  refine take_op (i := 3) (d := 10) (OP := Op.fieldAddr 39 (Operand.tmp 3) 0) (T := 0) (v := ?vy3x) rfl rfl rfl rfl (by kernel_rfl) (by kernel_rfl) (by kernel_rfl) (fun _ _ _ h => h) (by rfl) ?hy3x hHeld ?ry3x
  case hy3x => (intro w' hSw; (try dsimp only at hSw); go_simp <;> with_reducible rfl)
  try simp only [Act.put, sI, sZ, sS]
  refine take_op (i := 4) (d := 11) (OP := Op.load 3 (Operand.tmp 10)) (T := 3) (v := ?vy4x) rfl rfl rfl rfl (by kernel_rfl) (by kernel_rfl) (by kernel_rfl) (fun _ _ _ h => h) (by rfl) ?hy4x hHeld ?ry4x
  case hy4x => (intro w' hSw; (try dsimp only at hSw); go_simp <;> with_reducible rfl)
  try simp only [Act.put, sI, sZ, sS]
  refine take_op (i := 7) (d := 14) (OP := Op.fieldAddr 39 (Operand.tmp 3) 1) (T := 0) (v := ?vy5x) rfl rfl rfl rfl (by kernel_rfl) (by kernel_rfl) (by kernel_rfl) (fun _ _ _ h => h) (by rfl) ?hy5x hHeld ?ry5x
  case hy5x => (intro w' hSw; (try dsimp only at hSw); go_simp <;> with_reducible rfl)
  try simp only [Act.put, sI, sZ, sS]
  refine take_op (i := 8) (d := 15) (OP := Op.load 9 (Operand.tmp 14)) (T := 9) (v := ?vy6x) rfl rfl rfl rfl (by kernel_rfl) (by kernel_rfl) (by kernel_rfl) (fun _ _ _ h => h) (by rfl) ?hy6x hHeld ?ry6x
  case hy6x => (intro w' hSw; (try dsimp only at hSw); go_simp <;> with_reducible rfl)
  try simp only [Act.put, sI, sZ, sS]
  refine take_op (i := 11) (d := 18) (OP := Op.fieldAddr 43 (Operand.tmp 1) 1) (T := 0) (v := ?vy7x) rfl rfl rfl rfl (by kernel_rfl) (by kernel_rfl) (by kernel_rfl) (fun _ _ _ h => h) (by rfl) ?hy7x hHeld ?ry7x
  case hy7x => (intro w' hSw; (try dsimp only at hSw); go_simp <;> with_reducible rfl)
  try simp only [Act.put, sI, sZ, sS]
  refine take_op (i := 12) (d := 19) (OP := Op.fieldAddr 41 (Operand.tmp 18) 1) (T := 0) (v := ?vy8x) rfl rfl rfl rfl (by kernel_rfl) (by kernel_rfl) (by kernel_rfl) (fun _ _ _ h => h) (by rfl) ?hy8x hHeld ?ry8x
  case hy8x => (intro w' hSw; (try dsimp only at hSw); go_simp <;> with_reducible rfl)
  try simp only [Act.put, sI, sZ, sS]
  refine take_op (i := 13) (d := 20) (OP := Op.load 2 (Operand.tmp 19)) (T := 2) (v := ?vy9x) rfl rfl rfl rfl (by kernel_rfl) (by kernel_rfl) (by kernel_rfl) (fun _ _ _ h => h) (by rfl) ?hy9x hHeld ?ry9x
  case hy9x => (intro w' hSw; (try dsimp only at hSw); go_simp <;> with_reducible rfl)
  try simp only [Act.put, sI, sZ, sS]
  refine take_op (i := 16) (d := 23) (OP := Op.fieldAddr 43 (Operand.tmp 1) 2) (T := 0) (v := ?vy10x) rfl rfl rfl rfl (by kernel_rfl) (by kernel_rfl) (by kernel_rfl) (fun _ _ _ h => h) (by rfl) ?hy10x hHeld ?ry10x
  case hy10x => (intro w' hSw; (try dsimp only at hSw); go_simp <;> with_reducible rfl)
  try simp only [Act.put, sI, sZ, sS]
  refine take_op (i := 17) (d := 24) (OP := Op.load 3 (Operand.tmp 23)) (T := 3) (v := ?vy11x) rfl rfl rfl rfl (by kernel_rfl) (by kernel_rfl) (by kernel_rfl) (fun _ _ _ h => h) (by rfl) ?hy11x hHeld ?ry11x
  case hy11x => (intro w' hSw; (try dsimp only at hSw); go_simp <;> with_reducible rfl)
  try simp only [Act.put, sI, sZ, sS]
  refine call_op (i := 2) (d := 9) (OP := Op.call { callee := Callee.value (Operand.func 231), args := #[Operand.tmp 8], argTypes := #[2] }) (T := 9) (f := 231) (args := #[.int .i64 g]) rfl rfl rfl rfl (by kernel_rfl) (by rfl) (by go_simp) ?_
  refine (hg _).mono ?_
  rintro e w2 ⟨rfl, b2⟩
  have hS2 := (And.intro (kept b2 hHeld.1) (And.intro (kept b2 hHeld.2.1) (And.intro (kept b2 hHeld.2.2.1) (And.intro (kept b2 hHeld.2.2.2.1) (kept b2 hHeld.2.2.2.2)))))
  have hB2 := hBW.trans (b2.mono hBW.size)
  refine ⟨_, rfl, hS2, ?_⟩
  replace hHeld := hS2
  try simp only [Act.put, sI, sZ, sS]
  refine call_op (i := 5) (d := 12) (OP := Op.call { callee := Callee.value (Operand.func 232), args := #[Operand.tmp 11], argTypes := #[3] }) (T := 9) (f := 232) (args := #[.int .i64 r]) rfl rfl rfl rfl (by kernel_rfl) (by rfl) (by go_simp) ?_
  refine (hr _).mono ?_
  rintro e w3 ⟨rfl, b3⟩
  have hS3 := (And.intro (kept b3 hHeld.1) (And.intro (kept b3 hHeld.2.1) (And.intro (kept b3 hHeld.2.2.1) (And.intro (kept b3 hHeld.2.2.2.1) (kept b3 hHeld.2.2.2.2)))))
  have hB3 := hB2.trans (b3.mono hB2.size)
  refine ⟨_, rfl, hS3, ?_⟩
  replace hHeld := hS3
  try simp only [Act.put, sI, sZ, sS]
  refine take_op (i := 6) (d := 13) (OP := Op.binOp BinOp.add 9 (Operand.tmp 9) (Operand.tmp 12) 9) (T := 9) (v := ?vy12x) rfl rfl rfl rfl (by kernel_rfl) (by kernel_rfl) (by kernel_rfl) (fun _ _ _ h => h) (by rfl) ?hy12x hHeld ?ry12x
  case hy12x => (intro w' hSw; (try dsimp only at hSw); go_simp <;> with_reducible rfl)
  try simp only [Act.put, sI, sZ, sS]
  refine take_op (i := 9) (d := 16) (OP := Op.binOp BinOp.add 9 (Operand.tmp 13) (Operand.tmp 15) 9) (T := 9) (v := ?vy13x) rfl rfl rfl rfl (by kernel_rfl) (by kernel_rfl) (by kernel_rfl) (fun _ _ _ h => h) (by rfl) ?hy13x hHeld ?ry13x
  case hy13x => (intro w' hSw; (try dsimp only at hSw); go_simp <;> with_reducible rfl)
  try simp only [Act.put, sI, sZ, sS]
  refine take_op (i := 10) (d := 17) (OP := Op.binOp BinOp.add 9 (Operand.tmp 16) (Operand.const (Value.string { data := #[0] })) 9) (T := 9) (v := ?vy14x) rfl rfl rfl rfl (by kernel_rfl) (by kernel_rfl) (by kernel_rfl) (fun _ _ _ h => h) (by rfl) ?hy14x hHeld ?ry14x
  case hy14x => (intro w' hSw; (try dsimp only at hSw); go_simp <;> with_reducible rfl)
  try simp only [Act.put, sI, sZ, sS]
  refine call_op (i := 14) (d := 21) (OP := Op.call { callee := Callee.value (Operand.func 231), args := #[Operand.tmp 20], argTypes := #[2] }) (T := 9) (f := 231) (args := #[.int .i64 n]) rfl rfl rfl rfl (by kernel_rfl) (by rfl) (by go_simp) ?_
  refine (hn _).mono ?_
  rintro e w4 ⟨rfl, b4⟩
  have hS4 := (And.intro (kept b4 hHeld.1) (And.intro (kept b4 hHeld.2.1) (And.intro (kept b4 hHeld.2.2.1) (And.intro (kept b4 hHeld.2.2.2.1) (kept b4 hHeld.2.2.2.2)))))
  have hB4 := hB3.trans (b4.mono hB3.size)
  refine ⟨_, rfl, hS4, ?_⟩
  replace hHeld := hS4
  try simp only [Act.put, sI, sZ, sS]
  refine take_op (i := 15) (d := 22) (OP := Op.binOp BinOp.add 9 (Operand.tmp 17) (Operand.tmp 21) 9) (T := 9) (v := ?vy15x) rfl rfl rfl rfl (by kernel_rfl) (by kernel_rfl) (by kernel_rfl) (fun _ _ _ h => h) (by rfl) ?hy15x hHeld ?ry15x
  case hy15x => (intro w' hSw; (try dsimp only at hSw); go_simp <;> with_reducible rfl)
  try simp only [Act.put, sI, sZ, sS]
  refine call_op (i := 18) (d := 25) (OP := Op.call { callee := Callee.value (Operand.func 232), args := #[Operand.tmp 24], argTypes := #[3] }) (T := 9) (f := 232) (args := #[.int .i64 x]) rfl rfl rfl rfl (by kernel_rfl) (by rfl) (by go_simp) ?_
  refine (hx _).mono ?_
  rintro e w5 ⟨rfl, b5⟩
  have hS5 := (And.intro (kept b5 hHeld.1) (And.intro (kept b5 hHeld.2.1) (And.intro (kept b5 hHeld.2.2.1) (And.intro (kept b5 hHeld.2.2.2.1) (kept b5 hHeld.2.2.2.2)))))
  have hB5 := hB4.trans (b5.mono hB4.size)
  refine ⟨_, rfl, hS5, ?_⟩
  replace hHeld := hS5
  try simp only [Act.put, sI, sZ, sS]
  refine take_op (i := 19) (d := 26) (OP := Op.binOp BinOp.add 9 (Operand.tmp 22) (Operand.tmp 25) 9) (T := 9) (v := ?vy16x) rfl rfl rfl rfl (by kernel_rfl) (by kernel_rfl) (by kernel_rfl) (fun _ _ _ h => h) (by rfl) ?hy16x hHeld ?ry16x
  case hy16x => (intro w' hSw; (try dsimp only at hSw); go_simp <;> with_reducible rfl)
  try simp only [Act.put, sI, sZ, sS]
  refine take_op (i := 20) (d := 2) (OP := Op.assign (Operand.tmp 26)) (T := 9) (v := ?vy17x) rfl rfl rfl rfl (by kernel_rfl) (by kernel_rfl) (by kernel_rfl) (fun _ _ _ h => h) (by rfl) ?hy17x hHeld ?ry17x
  case hy17x => (intro w' hSw; (try dsimp only at hSw); go_simp <;> with_reducible rfl)
  try simp only [Act.put, sI, sZ, sS]
  refine wpAnyH_done (by kernel_rfl) ?_ _
  go_wp2
  go_ret
  exact ⟨rfl, hB5⟩

end Go.Proofs.YtkkpdgfllnbigaaGreat
namespace Go.Proofs.YtkkpdgfllnbigaaGreat
open Go.RowKit Go.Shelf
set_option linter.unusedSimpArgs false

theorem B_bounds {r : Int} {l : ByteArray} (h : branchV r l = true) : 0 ≤ r ∧ r < 8 ∧ l.size ≤ 12 := by
  unfold branchV labelB at h
  simp only [Bool.and_eq_true, decide_eq_true_eq] at h
  have := Lib.size_eq l
  refine ⟨h.1.1, h.1.2, ?_⟩
  omega
theorem N_bounds {r : Int} {l : ByteArray} {n : Int} (h : nameV r l n = true) : 0 ≤ r ∧ r < 8 ∧ l.size ≤ 12 ∧ 1 ≤ n ∧ n ≤ 4611686018427387904 := by
  unfold nameV cntV at h
  simp only [Bool.and_eq_true, decide_eq_true_eq] at h
  have := B_bounds h.1
  exact ⟨this.1, this.2.1, this.2.2, h.2.1, h.2.2⟩
theorem S_bounds {g r : Int} {l : ByteArray} {n x : Int} (h : stampV g r l n x = true) : 0 ≤ r ∧ r < 8 ∧ l.size ≤ 12 ∧ 1 ≤ n ∧ n ≤ 4611686018427387904 ∧ 1 ≤ g ∧ g ≤ 4611686018427387904 ∧ 0 ≤ x ∧ x < 64 := by
  unfold stampV cntV at h
  simp only [Bool.and_eq_true, decide_eq_true_eq] at h
  have := N_bounds h.1.2
  exact ⟨this.1, this.2.1, this.2.2.1, this.2.2.2.1, this.2.2.2.2, h.1.1.1, h.1.1.2, h.2.1, h.2.2⟩

set_option maxHeartbeats 1000000 in
set_option maxRecDepth 100000 in
theorem told71_any (g r : Int) (l : ByteArray) (n x : Int) (w : World)  : Calls Tryz.prog 186 #[sv g r l n x, .func (.func 187) #[] #[], .func (.func 188) #[] #[]] w fun e w' => e = .returned (.tuple #[.string (if stampV g r l n x then keyS g r l n x else ⟨#[]⟩), .int .i64 (if stampV g r l n x then 0 else 2)]) ∧ Below w.heap.size w w' := by
  have hb := below_new w (.cells #[.int .i64 g, .int .i64 r, .string l, .int .i64 n, .int .i64 x] 43)
  obtain ⟨p0, p1, p2, p3, p4⟩ := five_new w (.int .i64 g) (.int .i64 r) (.string l) (.int .i64 n) (.int .i64 x) 43
  have hm := stamp_any g r l n x (w.alloc (.cells #[.int .i64 g, .int .i64 r, .string l, .int .i64 n, .int .i64 x] 43))
  have hf : stampV g r l n x = true → ∀ W, Below w.heap.size w W → Calls Tryz.prog 188 #[sv g r l n x] W fun e w' => e = .returned (.string (keyS g r l n x)) ∧ Below W.heap.size W w' := fun hv W hb' => by
    have := S_bounds hv
    exact stampKey_any g r l n x W (by omega) (by omega) (by omega) (by omega) (by omega) (by omega) (by omega) (by omega) (by omega)
  have k0 := fun (W : World) (h : Below (w.alloc (.cells #[.int .i64 g, .int .i64 r, .string l, .int .i64 n, .int .i64 x] 43)).heap.size (w.alloc (.cells #[.int .i64 g, .int .i64 r, .string l, .int .i64 n, .int .i64 x] 43)) W) => kept h p0
  have k1 := fun (W : World) (h : Below (w.alloc (.cells #[.int .i64 g, .int .i64 r, .string l, .int .i64 n, .int .i64 x] 43)).heap.size (w.alloc (.cells #[.int .i64 g, .int .i64 r, .string l, .int .i64 n, .int .i64 x] 43)) W) => kept h p1
  have k2 := fun (W : World) (h : Below (w.alloc (.cells #[.int .i64 g, .int .i64 r, .string l, .int .i64 n, .int .i64 x] 43)).heap.size (w.alloc (.cells #[.int .i64 g, .int .i64 r, .string l, .int .i64 n, .int .i64 x] 43)) W) => kept h p2
  have k3 := fun (W : World) (h : Below (w.alloc (.cells #[.int .i64 g, .int .i64 r, .string l, .int .i64 n, .int .i64 x] 43)).heap.size (w.alloc (.cells #[.int .i64 g, .int .i64 r, .string l, .int .i64 n, .int .i64 x] 43)) W) => kept h p3
  have k4 := fun (W : World) (h : Below (w.alloc (.cells #[.int .i64 g, .int .i64 r, .string l, .int .i64 n, .int .i64 x] 43)).heap.size (w.alloc (.cells #[.int .i64 g, .int .i64 r, .string l, .int .i64 n, .int .i64 x] 43)) W) => kept h p4
  generalize stampV g r l n x = V at hm hf ⊢
  generalize keyS g r l n x = S at hf ⊢
  cases V with
  | true =>
    rw [if_pos rfl, if_pos rfl]
    replace hf := hf rfl
    go_enter Tryz.func186, Tryz.ntmps186
    go_wp2_with (go_at_call 187; refine hm.mono ?_; rintro e w1 ⟨rfl, b1⟩; have q0 := k0 _ b1; have q1 := k1 _ b1; have q2 := k2 _ b1; have q3 := k3 _ b1; have q4 := k4 _ b1; have hb1 := hb.trans (b1.mono hb.size); clear b1)
    go_wp2_with (go_at_call 188; refine (hf _ hb1).mono ?_; rintro e w2 ⟨rfl, b2⟩)
    go_ret2
    exact ⟨rfl, hb1.trans (b2.mono hb1.size)⟩
  | false =>
    rw [if_neg (by decide), if_neg (by decide)]
    go_enter Tryz.func186, Tryz.ntmps186
    go_wp2_with (go_at_call 187; refine hm.mono ?_; rintro e w1 ⟨rfl, b1⟩; have hb1 := hb.trans (b1.mono hb.size); clear b1)
    go_ret2
    exact ⟨rfl, hb1⟩
set_option maxHeartbeats 1000000 in
theorem key_any (g r : Int) (l : ByteArray) (n x : Int) (w : World)  : Calls Tryz.prog 135 #[sv g r l n x] w fun e w' => e = .returned (.tuple #[.string (if stampV g r l n x then keyS g r l n x else ⟨#[]⟩), .int .i64 (if stampV g r l n x then 0 else 2)]) ∧ Below w.heap.size w w' := by
  have hb := below_new w (.cells #[.int .i64 g, .int .i64 r, .string l, .int .i64 n, .int .i64 x] 43)
  have hm := told71_any g r l n x (w.alloc (.cells #[.int .i64 g, .int .i64 r, .string l, .int .i64 n, .int .i64 x] 43)) 
  generalize (if stampV g r l n x then keyS g r l n x else ⟨#[]⟩) = S at hm ⊢
  generalize (if stampV g r l n x then (0 : Int) else 2) = E at hm ⊢
  go_enter Tryz.func135, Tryz.ntmps135
  go_wp2_with (go_at_call 186; refine hm.mono ?_; rintro e w1 ⟨rfl, b1⟩)
  go_ret2
  exact ⟨rfl, hb.trans (b1.mono hb.size)⟩

end Go.Proofs.YtkkpdgfllnbigaaGreat
namespace Go.Proofs.YtkkpdgfllnbigaaGreat
open Go.RowKit Go.Shelf
set_option linter.unusedSimpArgs false

theorem bel5 {B : Nat} {a w : World} {R : Nat} (hR : B ≤ R) {x' y' z' u' v' : Value} (h : Below B a w) : Below B a (((((w.setCell ⟨R, 0, none⟩ x').setCell ⟨R, 1, none⟩ y').setCell ⟨R, 2, none⟩ z').setCell ⟨R, 3, none⟩ u').setCell ⟨R, 4, none⟩ v') := (((((h.setCell (p := ⟨R, 0, none⟩) hR _).setCell (p := ⟨R, 1, none⟩) hR _).setCell (p := ⟨R, 2, none⟩) hR _).setCell (p := ⟨R, 3, none⟩) hR _).setCell (p := ⟨R, 4, none⟩) hR _)

set_option maxHeartbeats 2000000 in
set_option maxRecDepth 100000 in
theorem meant16_any (g r : Int) (l : ByteArray) (n x : Int) (s T : ByteArray) (E : Int) (w : World) (hE : E = 0 ∨ E = 2) (hf : ∀ W, Below w.heap.size w W → Calls Tryz.prog 135 #[sv g r l n x] W fun e w' => e = .returned (.tuple #[.string T, .int .i64 E]) ∧ Below W.heap.size W w') :
    Calls Tryz.prog 193 #[sv g r l n x, .string s, .func (.func 135) #[] #[]] w fun e w' => e = .returned (.tuple #[if E = 0 ∧ T = s then sv g r l n x else sv 0 0 ⟨#[]⟩ 0 0, .int .i64 (if E = 0 ∧ T = s then 0 else 4)]) ∧ Below w.heap.size w w' := by
  have hb : Below w.heap.size w ((w.alloc (.cells #[.int .i64 g, .int .i64 r, .string l, .int .i64 n, .int .i64 x] 43)).alloc (.cells #[.int .i64 0, .int .i64 0, .string ⟨#[]⟩, .int .i64 0, .int .i64 0] 43)) := ((Below.refl _ w).alloc (Nat.le_refl _) _).alloc (by simp) _
  obtain ⟨m0, m1⟩ := new2 w (.cells #[.int .i64 g, .int .i64 r, .string l, .int .i64 n, .int .i64 x] 43) (.cells #[.int .i64 0, .int .i64 0, .string ⟨#[]⟩, .int .i64 0, .int .i64 0] 43)
  have hm := hf _ hb
  obtain ⟨p0, p1, p2, p3, p4, _, _, _, _, _⟩ := blk5 m0
  have hk0 : ∀ W, Below ((w.alloc (.cells #[.int .i64 g, .int .i64 r, .string l, .int .i64 n, .int .i64 x] 43)).alloc (.cells #[.int .i64 0, .int .i64 0, .string ⟨#[]⟩, .int .i64 0, .int .i64 0] 43)).heap.size ((w.alloc (.cells #[.int .i64 g, .int .i64 r, .string l, .int .i64 n, .int .i64 x] 43)).alloc (.cells #[.int .i64 0, .int .i64 0, .string ⟨#[]⟩, .int .i64 0, .int .i64 0] 43)) W → W.heap[w.heap.size]? = some (.cells #[.int .i64 g, .int .i64 r, .string l, .int .i64 n, .int .i64 x] 43 (0, 0)) := fun W h => (h.block _ (by simp <;> omega)).trans m0
  have hk : ∀ W, Below ((w.alloc (.cells #[.int .i64 g, .int .i64 r, .string l, .int .i64 n, .int .i64 x] 43)).alloc (.cells #[.int .i64 0, .int .i64 0, .string ⟨#[]⟩, .int .i64 0, .int .i64 0] 43)).heap.size ((w.alloc (.cells #[.int .i64 g, .int .i64 r, .string l, .int .i64 n, .int .i64 x] 43)).alloc (.cells #[.int .i64 0, .int .i64 0, .string ⟨#[]⟩, .int .i64 0, .int .i64 0] 43)) W → W.heap[w.heap.size + 1]? = some (.cells #[.int .i64 0, .int .i64 0, .string ⟨#[]⟩, .int .i64 0, .int .i64 0] 43 (0, 0)) := fun W h => (h.block _ (by simp <;> omega)).trans m1
  rcases hE with rfl | rfl
  · by_cases hT : T = s
    · subst hT
      rw [if_pos ⟨rfl, rfl⟩, if_pos ⟨rfl, rfl⟩]
      go_enter Tryz.func193, Tryz.ntmps193
      go_wp2_with (go_at_call 135; refine hm.mono ?_; rintro e w1 ⟨rfl, b1⟩; have hB1 := hide (hb.trans (b1.mono hb.size)); have HR := hide (hk _ b1); obtain ⟨z0, z1, z2, z3, z4, zf0, zf1, zf2, zf3, zf4⟩ := blk5 HR.out; obtain ⟨q0, q1, q2, q3, q4, qf0, qf1, qf2, qf3, qf4⟩ := blk5 (hk0 _ b1); clear b1)
      refine ret_row_tmp (w.heap.size + 1) [.int .i64 g, .int .i64 r, .string l, .int .i64 n, .int .i64 x] rfl rfl rfl Tryz.underlying43 rfl (by kernel_rfl) (t := 43) (fr := (0, 0)) (set5 HR.out) rfl ?_
      exact ⟨rfl, bel5 (by omega) hB1.out⟩
    · have hne : (T.toList == s.toList) = false := by
        rw [beq_eq_false_iff_ne, ByteArray.toList_eq, ByteArray.toList_eq]
        exact fun e => hT (ByteArray.ext (Array.toList_inj.1 e))
      rw [if_neg (fun h : (0 : Int) = 0 ∧ T = s => hT h.2), if_neg (fun h : (0 : Int) = 0 ∧ T = s => hT h.2)]
      go_enter Tryz.func193, Tryz.ntmps193
      go_wp2_with (go_at_call 135; refine hm.mono ?_; rintro e w1 ⟨rfl, b1⟩; have hB1 := hide (hb.trans (b1.mono hb.size)); have HR := hide (hk _ (b1.alloc (o := .cells #[.int .i64 0, .int .i64 0, .string ⟨#[]⟩, .int .i64 0, .int .i64 0] 43) b1.size)); have hw1 := b1.size; obtain ⟨z0, z1, z2, z3, z4, zf0, zf1, zf2, zf3, zf4⟩ := blk5 HR.out; clear b1)
      refine ret_row_tmp (w.heap.size + 1) [.int .i64 0, .int .i64 0, .string ⟨#[]⟩, .int .i64 0, .int .i64 0] rfl rfl rfl Tryz.underlying43 rfl (by kernel_rfl) (t := 43) (fr := (0, 0)) (set5 HR.out) rfl ?_
      exact ⟨rfl, bel5 (by omega) (hB1.out.alloc hB1.out.size _)⟩
  · rw [if_neg (fun h : (2 : Int) = 0 ∧ T = s => by omega), if_neg (fun h : (2 : Int) = 0 ∧ T = s => by omega)]
    go_enter Tryz.func193, Tryz.ntmps193
    go_wp2_with (go_at_call 135; refine hm.mono ?_; rintro e w1 ⟨rfl, b1⟩; have hB1 := hide (hb.trans (b1.mono hb.size)); have HR := hide (hk _ (b1.alloc (o := .cells #[.int .i64 0, .int .i64 0, .string ⟨#[]⟩, .int .i64 0, .int .i64 0] 43) b1.size)); have hw1 := b1.size; obtain ⟨z0, z1, z2, z3, z4, zf0, zf1, zf2, zf3, zf4⟩ := blk5 HR.out; clear b1)
    refine ret_row_tmp (w.heap.size + 1) [.int .i64 0, .int .i64 0, .string ⟨#[]⟩, .int .i64 0, .int .i64 0] rfl rfl rfl Tryz.underlying43 rfl (by kernel_rfl) (t := 43) (fr := (0, 0)) (set5 HR.out) rfl ?_
    exact ⟨rfl, bel5 (by omega) (hB1.out.alloc hB1.out.size _)⟩

end Go.Proofs.YtkkpdgfllnbigaaGreat
