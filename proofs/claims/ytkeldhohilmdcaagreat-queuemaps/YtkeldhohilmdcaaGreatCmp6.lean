/-
  CMP6: stamps, names, branches held against each other.
  THEORY6: the order of stamps and of their keys; forms that are read as they were; plainly.
  CMP7: stamps held against each other, with what is laid and drawn on the way: old blocks stand, draws only go on.
  CMPD: branches, names, stamps held against each other by the document.
  Bytes: what the elder seat had besides.
  stamp: bytes of texts, converted.
-/
import Derived.Test.YtkeldhohilmdcaaGreatValid
import Derived.Deep.DeepCutAuto
import Derived.Deep.CutBlock
import Derived.Scope
import Derived.Sort.Grow
import Derived.Test.YtkeldhohilmdcaaGreatMoves
import Derived.Lib.SlBytesConst
import Derived.Laws.BitsAllLaws
import Derived.Test.YtkeldhohilmdcaaGreatKeep
import Derived.Lib.AppendStr
import Derived.Lib.ConvBytes
namespace Go.Proofs.YtkeldhohilmdcaaGreat
open Go.RowKit Go.Shelf
set_option linter.unusedSimpArgs false

theorem exec_store_new {P : Program} {ev : Operand → Value} {x y : Operand} {b : Nat} {ty T : TypeId} {cs : List Value} {c : Array Value} {W : World} (hb : W.heap.size = b) (hx : ev x = .pointer (some ⟨b, 0, none⟩)) (hy : ev y = .agg cs.toArray) (hi : (P.info? ty).map (·.size) = some cs.length) (hc : c.size = cs.length) (h1 : ∀ v ∈ cs, v.oneCell' = true) :
    (execOp ev { dst := none, op := .store ty x y, type := T, pos := "", after := #[], guard := none }).run P (W.alloc (.cells c ty)) = .ok .skip (W.alloc (.cells cs.toArray ty)) := by
  subst hb
  unfold execOp
  simp only [hx, hy]
  rw [Sem.run_bind, run_storeAt_new W ty c cs.toArray (by rw [hi, List.size_toArray]) (by rw [hc, List.size_toArray]) (all_oneCell_toArray h1)]
  rfl
theorem blk2 {w : World} {R : Nat} {t : TypeId} {x y : Value} (h : w.heap[R]? = some (.cells #[x, y] t (0, 0))) : w.cell? ⟨R, 0, none⟩ = some x ∧ w.cell? ⟨R, 1, none⟩ = some y ∧ w.frozen? ⟨R, 0, none⟩ = false ∧ w.frozen? ⟨R, 1, none⟩ = false := by
  refine ⟨?_, ?_, frozen_of_row w R 0 _ t h, frozen_of_row w R 1 _ t h⟩
  · rw [cell_of_row w R 0 _ t (0, 0) h]; rfl
  · rw [cell_of_row w R 1 _ t (0, 0) h]; rfl
theorem set3 {w : World} {R : Nat} {t : TypeId} {x y z x' y' z' : Value} (h : w.heap[R]? = some (.cells #[x, y, z] t (0, 0))) : (((w.setCell ⟨R, 0, none⟩ x').setCell ⟨R, 1, none⟩ y').setCell ⟨R, 2, none⟩ z').heap[R]? = some (.cells #[x', y', z'] t (0, 0)) := by
  rw [heap_setCell_same _ _ _ _ t _ (heap_setCell_same _ _ _ _ t _ (heap_setCell_same _ _ _ _ t _ h))]
  simp
theorem bel3 {B : Nat} {a w : World} {R : Nat} (hR : B ≤ R) {x' y' z' : Value} (h : Below B a w) : Below B a (((w.setCell ⟨R, 0, none⟩ x').setCell ⟨R, 1, none⟩ y').setCell ⟨R, 2, none⟩ z') := (((h.setCell (p := ⟨R, 0, none⟩) hR _).setCell (p := ⟨R, 1, none⟩) hR _).setCell (p := ⟨R, 2, none⟩) hR _)
theorem blk5 {w : World} {R : Nat} {t : TypeId} {x y z u v : Value} (h : w.heap[R]? = some (.cells #[x, y, z, u, v] t (0, 0))) : w.cell? ⟨R, 0, none⟩ = some x ∧ w.cell? ⟨R, 1, none⟩ = some y ∧ w.cell? ⟨R, 2, none⟩ = some z ∧ w.cell? ⟨R, 3, none⟩ = some u ∧ w.cell? ⟨R, 4, none⟩ = some v ∧ w.frozen? ⟨R, 0, none⟩ = false ∧ w.frozen? ⟨R, 1, none⟩ = false ∧ w.frozen? ⟨R, 2, none⟩ = false ∧ w.frozen? ⟨R, 3, none⟩ = false ∧ w.frozen? ⟨R, 4, none⟩ = false := by
  refine ⟨?_, ?_, ?_, ?_, ?_, frozen_of_row w R 0 _ t h, frozen_of_row w R 1 _ t h, frozen_of_row w R 2 _ t h, frozen_of_row w R 3 _ t h, frozen_of_row w R 4 _ t h⟩
  · rw [cell_of_row w R 0 _ t (0, 0) h]; rfl
  · rw [cell_of_row w R 1 _ t (0, 0) h]; rfl
  · rw [cell_of_row w R 2 _ t (0, 0) h]; rfl
  · rw [cell_of_row w R 3 _ t (0, 0) h]; rfl
  · rw [cell_of_row w R 4 _ t (0, 0) h]; rfl
theorem set5 {w : World} {R : Nat} {t : TypeId} {x y z u v x' y' z' u' v' : Value} (h : w.heap[R]? = some (.cells #[x, y, z, u, v] t (0, 0))) : (((((w.setCell ⟨R, 0, none⟩ x').setCell ⟨R, 1, none⟩ y').setCell ⟨R, 2, none⟩ z').setCell ⟨R, 3, none⟩ u').setCell ⟨R, 4, none⟩ v').heap[R]? = some (.cells #[x', y', z', u', v'] t (0, 0)) := by
  rw [heap_setCell_same _ _ _ _ t _ (heap_setCell_same _ _ _ _ t _ (heap_setCell_same _ _ _ _ t _ (heap_setCell_same _ _ _ _ t _ (heap_setCell_same _ _ _ _ t _ h))))]
  simp
theorem noGoto_ret {Q : Exit → Act → World → Prop} {a : Act} {w : World} (h : Q .ret a w) : Exit.noGoto Q .ret a w := h
end Go.Proofs.YtkeldhohilmdcaaGreat
namespace Go.Proofs.YtkeldhohilmdcaaGreat
open Go.RowKit Go.Shelf
set_option linter.unusedSimpArgs false

/-- An order by -1, 0, 1. -/
structure Ord {α : Type} (f : α → α → Int) : Prop where
  range : ∀ a b, f a b = -1 ∨ f a b = 0 ∨ f a b = 1
  anti : ∀ a b, f a b = - f b a
  eq : ∀ a b, f a b = 0 → a = b
  trans : ∀ a b c, f a b = -1 → f b c = -1 → f a c = -1

theorem Ord.refl {α : Type} {f : α → α → Int} (h : Ord f) (a : α) : f a a = 0 := by have := h.anti a a; omega

theorem cb_range : ∀ l m : List UInt8, Lib.compareBytes l m = -1 ∨ Lib.compareBytes l m = 0 ∨ Lib.compareBytes l m = 1
  | [], [] => by simp [Lib.compareBytes]
  | [], _ :: _ => by simp [Lib.compareBytes]
  | _ :: _, [] => by simp [Lib.compareBytes]
  | a :: l, b :: m => by
    rw [Lib.compareBytes]
    split
    · simp
    · split
      · simp
      · exact cb_range l m

theorem cb_anti : ∀ l m : List UInt8, Lib.compareBytes l m = - Lib.compareBytes m l
  | [], [] => rfl
  | [], _ :: _ => rfl
  | _ :: _, [] => rfl
  | a :: l, b :: m => by
    rw [Lib.compareBytes, Lib.compareBytes]
    by_cases h1 : a < b
    · have h2 : ¬ b < a := fun h => absurd (UInt8.lt_iff_toNat_lt.1 h) (by have := UInt8.lt_iff_toNat_lt.1 h1; omega)
      rw [if_pos h1, if_neg h2, if_pos h1]
    · rw [if_neg h1]
      by_cases h2 : b < a
      · rw [if_pos h2, if_pos h2]; rfl
      · rw [if_neg h2, if_neg h2, if_neg h1]
        exact cb_anti l m

theorem u8_eq {a b : UInt8} (h1 : ¬ a < b) (h2 : ¬ b < a) : a = b := by
  apply UInt8.toNat_inj.1
  rw [UInt8.lt_iff_toNat_lt] at h1 h2
  omega

theorem cb_eq : ∀ l m : List UInt8, Lib.compareBytes l m = 0 → l = m
  | [], [], _ => rfl
  | [], _ :: _, h => by simp [Lib.compareBytes] at h
  | _ :: _, [], h => by simp [Lib.compareBytes] at h
  | a :: l, b :: m, h => by
    rw [Lib.compareBytes] at h
    by_cases h1 : a < b
    · rw [if_pos h1] at h; cases h
    · rw [if_neg h1] at h
      by_cases h2 : b < a
      · rw [if_pos h2] at h; cases h
      · rw [if_neg h2] at h
        rw [u8_eq h1 h2, cb_eq l m h]

theorem cb_trans : ∀ l m k : List UInt8, Lib.compareBytes l m = -1 → Lib.compareBytes m k = -1 → Lib.compareBytes l k = -1
  | [], [], _, h, _ => by simp [Lib.compareBytes] at h
  | _ :: _, [], _, h, _ => by simp [Lib.compareBytes] at h
  | _, _ :: _, [], _, h => by simp [Lib.compareBytes] at h
  | [], _ :: _, _ :: _, _, _ => rfl
  | a :: l, b :: m, c :: k, h1, h2 => by
    rw [Lib.compareBytes] at h1 h2 ⊢
    simp only [UInt8.lt_iff_toNat_lt] at h1 h2 ⊢
    by_cases ab : a.toNat < b.toNat
    · by_cases bc : b.toNat < c.toNat
      · rw [if_pos (by omega)]
      · rw [if_neg bc] at h2
        by_cases cb : c.toNat < b.toNat
        · rw [if_pos cb] at h2; cases h2
        · rw [if_pos (by omega)]
    · rw [if_neg ab] at h1
      by_cases ba : b.toNat < a.toNat
      · rw [if_pos ba] at h1; cases h1
      · rw [if_neg ba] at h1
        by_cases bc : b.toNat < c.toNat
        · rw [if_pos (by omega)]
        · rw [if_neg bc] at h2
          by_cases cb : c.toNat < b.toNat
          · rw [if_pos cb] at h2; cases h2
          · rw [if_neg cb] at h2
            rw [if_neg (by omega), if_neg (by omega)]
            exact cb_trans l m k h1 h2

theorem ba_eq {a b : ByteArray} (h : a.data.toList = b.data.toList) : a = b := ByteArray.ext (Array.toList_inj.1 h)

theorem ord_B : Ord cmpB := ⟨fun _ _ => cb_range _ _, fun _ _ => cb_anti _ _, fun _ _ h => ba_eq (cb_eq _ _ h), fun _ _ _ => cb_trans _ _ _⟩

/-- Stamps as tuples. -/
abbrev St := Int × Int × ByteArray × Int × Int
theorem less_cb : ∀ (a b : List UInt8), Op.bytesLess a b = decide (Lib.compareBytes a b = -1)
  | [], [] => by simp [Op.bytesLess, Lib.compareBytes]
  | [], _ :: _ => by simp [Op.bytesLess, Lib.compareBytes]
  | _ :: _, [] => by simp [Op.bytesLess, Lib.compareBytes]
  | a :: l, b :: m => by
    have := less_cb l m
    rw [Lib.compareBytes, Op.bytesLess]
    by_cases h1 : a < b
    · simp [h1]
    · by_cases h2 : b < a
      · simp [h1, h2]
        intro e
        subst e
        exact absurd h2 h1
      · have e := u8_eq h1 h2
        subst e
        simp [this]
end Go.Proofs.YtkeldhohilmdcaaGreat
namespace Go.Proofs.YtkeldhohilmdcaaGreat
open Go.RowKit Go.Shelf
set_option linter.unusedSimpArgs false

/-- Below, and draws only go on. -/
structure BelowG (B : Nat) (w w' : World) : Prop where
  low : Below B w w'
  drawn : w.drawn ≤ w'.drawn
theorem BelowG.refl (B : Nat) (w : World) : BelowG B w w := ⟨Below.refl B w, Nat.le_refl _⟩
theorem BelowG.size {B : Nat} {w w' : World} (h : BelowG B w w') : w.heap.size ≤ w'.heap.size := h.low.size
theorem BelowG.block {B : Nat} {w w' : World} (h : BelowG B w w') : ∀ k, k < B → w'.heap[k]? = w.heap[k]? := h.low.block
theorem BelowG.trans {B : Nat} {a b c : World} (h : BelowG B a b) (k : BelowG B b c) : BelowG B a c := ⟨h.low.trans k.low, Nat.le_trans h.drawn k.drawn⟩
theorem BelowG.mono {B B' : Nat} {w w' : World} (h : BelowG B w w') (hB : B' ≤ B) : BelowG B' w w' := ⟨h.low.mono hB, h.drawn⟩
theorem BelowG.alloc {B : Nat} {w w' : World} (h : BelowG B w w') (hB : B ≤ w'.heap.size) (o : Obj) : BelowG B w (w'.alloc o) := ⟨h.low.alloc hB o, h.drawn⟩
theorem BelowG.drew {B : Nat} {w w' : World} (h : BelowG B w w') : BelowG B w w'.drew := ⟨h.low.drew, Nat.le_succ_of_le h.drawn⟩
theorem BelowG.drewN {B : Nat} {w w' : World} (h : BelowG B w w') (n : Nat) : BelowG B w (w'.drewN n) := ⟨⟨h.low.os, h.low.tape, h.low.output, h.low.size, h.low.block⟩, Nat.le_trans h.drawn (Nat.le_add_right _ _)⟩
end Go.Proofs.YtkeldhohilmdcaaGreat
namespace Go.Proofs.YtkeldhohilmdcaaGreat
open Go.RowKit Go.Shelf
set_option linter.unusedSimpArgs false

end Go.Proofs.YtkeldhohilmdcaaGreat
namespace Go.Proofs.YtkeldhohilmdcaaGreat
open Go.RowKit

theorem conv_rd {w : World} {ao : Option Addr} {n cap : Nat} {l : List Int} (hr : Rd w ao l) (hn : l.length = n) : (convert 115 9 (.slice ao n cap)).run Tryz.prog w = .ok (.string (strOfNums l)) w := by
  cases ao with
  | none =>
    have := hr.1 rfl
    subst this
    exact run_convert_bytes_nil w 115 5 Tryz.underlying115 Tryz.underlying5 _ _ 9 Tryz.underlying9
  | some a =>
    cases l with
    | nil =>
      simp at hn
      subst hn
      rw [run_convert_bytes_string w 115 9 5 _ 0 cap Tryz.underlying115 Tryz.underlying5 Tryz.underlying9, run_bytesToString w a 0 cap [] (by simp [loadCells, loadCellsFrom])]
      rfl
    | cons b l =>
      obtain ⟨ab, off, ha, _⟩ := hr.at (k := 0) (b := b) rfl
      cases ha
      refine run_convert_bytes_arg w 115 5 Tryz.underlying115 Tryz.underlying5 ab off n cap (b :: l) hn ?_ 9 Tryz.underlying9
      intro i hi
      have := hr.2 _ rfl i (.int .u8 ((b :: l).getD i 0)) (by rw [u8s_get, List.getD, List.getElem?_eq_getElem (by omega)]; rfl)
      rwa [add_lit] at this
end Go.Proofs.YtkeldhohilmdcaaGreat
namespace Go.Proofs.YtkeldhohilmdcaaGreat
open Go.RowKit Go.Shelf Go.Sort
set_option linter.unusedSimpArgs false

def ints (l : List UInt8) : List Int := l.map (fun b => (b.toNat : Int))
theorem ints_length (l : List UInt8) : (ints l).length = l.length := by simp [ints]
theorem ints_append (l m : List UInt8) : ints (l ++ m) = ints l ++ ints m := by simp [ints]
theorem ints_size (s : ByteArray) : (ints s.data.toList).length = s.size := by rw [ints_length, ← Lib.size_eq]
theorem str_ints (l : List UInt8) : strOfNums (ints l) = ⟨l.toArray⟩ := by
  unfold strOfNums ints
  rw [List.map_map]
  congr 2
  conv => rhs; rw [← List.map_id l]
  apply List.map_congr_left
  intro b _
  simp
/-- The bytes of a text, in new memory. -/
theorem conv_str (s : ByteArray) (W : World) : ∃ c W', (convert 9 115 (.string s)).run Tryz.prog W = .ok (.slice (some ⟨W.heap.size, 0, none⟩) s.size c) W' ∧ Rd W' (some ⟨W.heap.size, 0, none⟩) (ints s.data.toList) ∧ Below W.heap.size W W' := by
  refine ⟨_, _, Lib.run_convert_string_bytes (P := Tryz.prog) W 9 115 5 s Tryz.underlying9 Tryz.underlying115 Tryz.underlying5, ⟨by simp, ?_⟩, ⟨rfl, rfl, rfl, by rw [Lib.bytesWorld_size]; omega, fun k hk => Lib.bytesWorld_at_old W 5 s k hk⟩⟩
  intro a ha j u hj
  cases ha
  rw [u8s_get] at hj
  have hl : s.data.toList.length = s.size := (Lib.size_eq s).symm
  have hjl : j < s.size := by
    cases hg : (ints s.data.toList)[j]? with
    | none => rw [hg] at hj; cases hj
    | some v => have := (List.getElem?_eq_some_iff.1 hg).1; rw [ints_size] at this; exact this
  rw [add_lit, Nat.zero_add, Lib.bytesWorld_cell W 5 s j hjl, ← hj]
  simp [ints, List.getD, List.getElem?_eq_getElem (show j < s.data.toList.length by omega)]
theorem ext_take (s : ByteArray) (n : Nat) : s.extract 0 n = ⟨(s.data.toList.take n).toArray⟩ := by
  apply ByteArray.ext
  apply Array.toList_inj.1
  simp [ByteArray.data_extract]
theorem meant_iff (V : Bool) (t s e : ByteArray) : ((if V then (0 : Int) else 2) = 0 ∧ (if V then t else e) = s) ↔ (V && decide (t = s)) = true := by
  cases V <;> simp
theorem set3_other {w : World} {R b : Nat} {k : Nat} {x y z : Value} (h : R ≠ b) : (((w.setCell ⟨R, 0, none⟩ x).setCell ⟨R, 1, none⟩ y).setCell ⟨R, 2, none⟩ z).cell? ⟨b, k, none⟩ = w.cell? ⟨b, k, none⟩ := by
  refine World.cell?_of_block ?_
  rw [Below.heap_setCell _ _ _ _ (Ne.symm h), Below.heap_setCell _ _ _ _ (Ne.symm h), Below.heap_setCell _ _ _ _ (Ne.symm h)]
end Go.Proofs.YtkeldhohilmdcaaGreat
