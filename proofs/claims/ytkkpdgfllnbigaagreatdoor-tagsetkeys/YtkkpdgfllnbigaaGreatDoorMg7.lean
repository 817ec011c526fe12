/-
  CMP6: stamps, names, branches held against each other.
  THEORY6: the order of stamps and of their keys; forms that are read as they were; plainly.
  CMP7: stamps held against each other, with what is laid and drawn on the way: old blocks stand, draws only go on.
  CMPD: branches, names, stamps held against each other by the document.
  Bytes: what the elder seat had besides.
  stamp: bytes of texts, converted.
  KEYS: what the program's and the document's keys of stamps are.
  TOLD: Put, Text, Key and their like of the program.
-/
import Derived.Test.YtkkpdgfllnbigaaGreatDoorMg6
import Derived.Deep.DeepCutAuto
import Derived.Deep.CutBlock
import Derived.Scope
import Derived.Sort.Grow
import Derived.Test.YtkkpdgfllnbigaaGreatDoorMg2
import Derived.Lib.SlBytesConst
import Derived.Laws.BitsAllLaws
import Derived.Test.YtkkpdgfllnbigaaGreatDoorMg5
import Derived.Lib.AppendStr
import Derived.Lib.ConvBytes
namespace Go.Proofs.YtkkpdgfllnbigaaGreatDoor
open Go.RowKit Go.Shelf
set_option linter.unusedSimpArgs false

theorem exec_store_new {P : Program} {ev : Operand → Value} {x y : Operand} {b : Nat} {ty T : TypeId} {cs : List Value} {c : Array Value} {W : World} (hb : W.heap.size = b) (hx : ev x = .pointer (some ⟨b, 0, none⟩)) (hy : ev y = .agg cs.toArray) (hi : (P.info? ty).map (·.size) = some cs.length) (hc : c.size = cs.length) (h1 : ∀ v ∈ cs, v.oneCell' = true) :
    (execOp ev { dst := none, op := .store ty x y, type := T, pos := "", after := #[], guard := none }).run P (W.alloc (.cells c ty)) = .ok .skip (W.alloc (.cells cs.toArray ty)) := by
  subst hb
  unfold execOp
  simp only [hx, hy]
  rw [Sem.run_bind, run_storeAt_new W ty c cs.toArray (by rw [hi, List.size_toArray]) (by rw [hc, List.size_toArray]) (all_oneCell_toArray h1)]
  rfl
theorem blk2 {w : World} {R : Nat} {t : TypeId} {x y : Value} (h : w.heap[R]? = some (.cells #[x, y] t (0, 0))) : w.cell? ⟨R, 0, none⟩ = some x ∧ w.cell? ⟨R, 1, none⟩ = some y ∧ w.frozen? ⟨R, 0, none⟩ = false ∧ w.frozen? ⟨R, 1, none⟩ = false := by
  refine ⟨?_, ?_, frozen_of_row w R 0 _ t h, frozen_of_row w R 1 _ t h⟩
  · rw [cell_of_row w R 0 _ t (0, 0) h]; rfl
  · rw [cell_of_row w R 1 _ t (0, 0) h]; rfl
theorem set3 {w : World} {R : Nat} {t : TypeId} {x y z x' y' z' : Value} (h : w.heap[R]? = some (.cells #[x, y, z] t (0, 0))) : (((w.setCell ⟨R, 0, none⟩ x').setCell ⟨R, 1, none⟩ y').setCell ⟨R, 2, none⟩ z').heap[R]? = some (.cells #[x', y', z'] t (0, 0)) := by
  rw [heap_setCell_same _ _ _ _ t _ (heap_setCell_same _ _ _ _ t _ (heap_setCell_same _ _ _ _ t _ h))]
  simp
theorem bel3 {B : Nat} {a w : World} {R : Nat} (hR : B ≤ R) {x' y' z' : Value} (h : Below B a w) : Below B a (((w.setCell ⟨R, 0, none⟩ x').setCell ⟨R, 1, none⟩ y').setCell ⟨R, 2, none⟩ z') := (((h.setCell (p := ⟨R, 0, none⟩) hR _).setCell (p := ⟨R, 1, none⟩) hR _).setCell (p := ⟨R, 2, none⟩) hR _)
theorem blk5 {w : World} {R : Nat} {t : TypeId} {x y z u v : Value} (h : w.heap[R]? = some (.cells #[x, y, z, u, v] t (0, 0))) : w.cell? ⟨R, 0, none⟩ = some x ∧ w.cell? ⟨R, 1, none⟩ = some y ∧ w.cell? ⟨R, 2, none⟩ = some z ∧ w.cell? ⟨R, 3, none⟩ = some u ∧ w.cell? ⟨R, 4, none⟩ = some v ∧ w.frozen? ⟨R, 0, none⟩ = false ∧ w.frozen? ⟨R, 1, none⟩ = false ∧ w.frozen? ⟨R, 2, none⟩ = false ∧ w.frozen? ⟨R, 3, none⟩ = false ∧ w.frozen? ⟨R, 4, none⟩ = false := by
  refine ⟨?_, ?_, ?_, ?_, ?_, frozen_of_row w R 0 _ t h, frozen_of_row w R 1 _ t h, frozen_of_row w R 2 _ t h, frozen_of_row w R 3 _ t h, frozen_of_row w R 4 _ t h⟩
  · rw [cell_of_row w R 0 _ t (0, 0) h]; rfl
  · rw [cell_of_row w R 1 _ t (0, 0) h]; rfl
  · rw [cell_of_row w R 2 _ t (0, 0) h]; rfl
  · rw [cell_of_row w R 3 _ t (0, 0) h]; rfl
  · rw [cell_of_row w R 4 _ t (0, 0) h]; rfl
theorem set5 {w : World} {R : Nat} {t : TypeId} {x y z u v x' y' z' u' v' : Value} (h : w.heap[R]? = some (.cells #[x, y, z, u, v] t (0, 0))) : (((((w.setCell ⟨R, 0, none⟩ x').setCell ⟨R, 1, none⟩ y').setCell ⟨R, 2, none⟩ z').setCell ⟨R, 3, none⟩ u').setCell ⟨R, 4, none⟩ v').heap[R]? = some (.cells #[x', y', z', u', v'] t (0, 0)) := by
  rw [heap_setCell_same _ _ _ _ t _ (heap_setCell_same _ _ _ _ t _ (heap_setCell_same _ _ _ _ t _ (heap_setCell_same _ _ _ _ t _ (heap_setCell_same _ _ _ _ t _ h))))]
  simp
/-- Pairs held against each other, the first that differ decide. -/
def cmpPairs : List (Int × Int) → Int
  | [] => 0
  | p :: t => if p.1 < p.2 then -1 else if p.2 < p.1 then 1 else cmpPairs t
def prs (g r : Int) (l : ByteArray) (n x g' r' : Int) (l' : ByteArray) (n' x' : Int) : List (Int × Int) := [(g, g'), (r, r'), (cmpB l l', 0), (n, n'), (x, x')]
def cmpS (g r : Int) (l : ByteArray) (n x g' r' : Int) (l' : ByteArray) (n' x' : Int) : Int := cmpPairs (prs g r l n x g' r' l' n' x')
theorem noGoto_ret {Q : Exit → Act → World → Prop} {a : Act} {w : World} (h : Q .ret a w) : Exit.noGoto Q .ret a w := h
end Go.Proofs.YtkkpdgfllnbigaaGreatDoor
namespace Go.Proofs.YtkkpdgfllnbigaaGreatDoor
open Go.RowKit Go.Shelf
set_option linter.unusedSimpArgs false

/-- An order by -1, 0, 1. -/
structure Ord {α : Type} (f : α → α → Int) : Prop where
  range : ∀ a b, f a b = -1 ∨ f a b = 0 ∨ f a b = 1
  anti : ∀ a b, f a b = - f b a
  eq : ∀ a b, f a b = 0 → a = b
  trans : ∀ a b c, f a b = -1 → f b c = -1 → f a c = -1

theorem Ord.refl {α : Type} {f : α → α → Int} (h : Ord f) (a : α) : f a a = 0 := by have := h.anti a a; omega

theorem cb_range : ∀ l m : List UInt8, Lib.compareBytes l m = -1 ∨ Lib.compareBytes l m = 0 ∨ Lib.compareBytes l m = 1
  | [], [] => by simp [Lib.compareBytes]
  | [], _ :: _ => by simp [Lib.compareBytes]
  | _ :: _, [] => by simp [Lib.compareBytes]
  | a :: l, b :: m => by
    rw [Lib.compareBytes]
    split
    · simp
    · split
      · simp
      · exact cb_range l m

theorem cb_anti : ∀ l m : List UInt8, Lib.compareBytes l m = - Lib.compareBytes m l
  | [], [] => rfl
  | [], _ :: _ => rfl
  | _ :: _, [] => rfl
  | a :: l, b :: m => by
    rw [Lib.compareBytes, Lib.compareBytes]
    by_cases h1 : a < b
    · have h2 : ¬ b < a := fun h => absurd (UInt8.lt_iff_toNat_lt.1 h) (by have := UInt8.lt_iff_toNat_lt.1 h1; omega)
      rw [if_pos h1, if_neg h2, if_pos h1]
    · rw [if_neg h1]
      by_cases h2 : b < a
      · rw [if_pos h2, if_pos h2]; rfl
      · rw [if_neg h2, if_neg h2, if_neg h1]
        exact cb_anti l m

theorem u8_eq {a b : UInt8} (h1 : ¬ a < b) (h2 : ¬ b < a) : a = b := by
  apply UInt8.toNat_inj.1
  rw [UInt8.lt_iff_toNat_lt] at h1 h2
  omega

theorem cb_eq : ∀ l m : List UInt8, Lib.compareBytes l m = 0 → l = m
  | [], [], _ => rfl
  | [], _ :: _, h => by simp [Lib.compareBytes] at h
  | _ :: _, [], h => by simp [Lib.compareBytes] at h
  | a :: l, b :: m, h => by
    rw [Lib.compareBytes] at h
    by_cases h1 : a < b
    · rw [if_pos h1] at h; cases h
    · rw [if_neg h1] at h
      by_cases h2 : b < a
      · rw [if_pos h2] at h; cases h
      · rw [if_neg h2] at h
        rw [u8_eq h1 h2, cb_eq l m h]

theorem cb_trans : ∀ l m k : List UInt8, Lib.compareBytes l m = -1 → Lib.compareBytes m k = -1 → Lib.compareBytes l k = -1
  | [], [], _, h, _ => by simp [Lib.compareBytes] at h
  | _ :: _, [], _, h, _ => by simp [Lib.compareBytes] at h
  | _, _ :: _, [], _, h => by simp [Lib.compareBytes] at h
  | [], _ :: _, _ :: _, _, _ => rfl
  | a :: l, b :: m, c :: k, h1, h2 => by
    rw [Lib.compareBytes] at h1 h2 ⊢
    simp only [UInt8.lt_iff_toNat_lt] at h1 h2 ⊢
    by_cases ab : a.toNat < b.toNat
    · by_cases bc : b.toNat < c.toNat
      · rw [if_pos (by omega)]
      · rw [if_neg bc] at h2
        by_cases cb : c.toNat < b.toNat
        · rw [if_pos cb] at h2; cases h2
        · rw [if_pos (by omega)]
    · rw [if_neg ab] at h1
      by_cases ba : b.toNat < a.toNat
      · rw [if_pos ba] at h1; cases h1
      · rw [if_neg ba] at h1
        by_cases bc : b.toNat < c.toNat
        · rw [if_pos (by omega)]
        · rw [if_neg bc] at h2
          by_cases cb : c.toNat < b.toNat
          · rw [if_pos cb] at h2; cases h2
          · rw [if_neg cb] at h2
            rw [if_neg (by omega), if_neg (by omega)]
            exact cb_trans l m k h1 h2

theorem ba_eq {a b : ByteArray} (h : a.data.toList = b.data.toList) : a = b := ByteArray.ext (Array.toList_inj.1 h)

theorem ord_B : Ord cmpB := ⟨fun _ _ => cb_range _ _, fun _ _ => cb_anti _ _, fun _ _ h => ba_eq (cb_eq _ _ h), fun _ _ _ => cb_trans _ _ _⟩

theorem ord_I : Ord cmpI := by
  refine ⟨fun a b => ?_, fun a b => ?_, fun a b h => ?_, fun a b c h1 h2 => ?_⟩
  · unfold cmpI; split <;> (try split) <;> simp
  · unfold cmpI; split <;> split <;> (try split) <;> omega
  · unfold cmpI at h; split at h <;> (try split at h) <;> omega
  · unfold cmpI at *; split at h1 <;> (try split at h1) <;> split at h2 <;> (try split at h2) <;> (try omega) <;> (rw [if_pos (by omega)])

/-- One order, and another one behind it. -/
def lex {α β : Type} (f : α → α → Int) (g : β → β → Int) (a b : α × β) : Int := if f a.1 b.1 = 0 then g a.2 b.2 else f a.1 b.1
theorem Ord.lex {α β : Type} {f : α → α → Int} {g : β → β → Int} (hf : Ord f) (hg : Ord g) : Ord (lex f g) := by
  refine ⟨?_, ?_, ?_, ?_⟩
  · intro a b
    unfold Go.Proofs.YtkkpdgfllnbigaaGreatDoor.lex
    split
    · exact hg.range _ _
    · exact hf.range _ _
  · intro a b
    unfold Go.Proofs.YtkkpdgfllnbigaaGreatDoor.lex
    have h1 := hf.anti a.1 b.1
    by_cases h : f b.1 a.1 = 0
    · rw [if_pos (by omega), if_pos h]; exact hg.anti _ _
    · rw [if_neg (by omega), if_neg h]; exact h1
  · intro a b h
    unfold Go.Proofs.YtkkpdgfllnbigaaGreatDoor.lex at h
    split at h
    next h0 => exact Prod.ext (hf.eq _ _ h0) (hg.eq _ _ h)
    next h0 => exact absurd h h0
  · intro a b c h1 h2
    unfold Go.Proofs.YtkkpdgfllnbigaaGreatDoor.lex at h1 h2 ⊢
    by_cases ha : f a.1 b.1 = 0
    · rw [if_pos ha] at h1
      have ea := hf.eq _ _ ha
      rw [ea]
      by_cases hb : f b.1 c.1 = 0
      · rw [if_pos hb] at h2 ⊢; exact hg.trans _ _ _ h1 h2
      · rw [if_neg hb] at h2 ⊢; exact h2
    · rw [if_neg ha] at h1
      by_cases hb : f b.1 c.1 = 0
      · rw [if_pos hb] at h2
        have eb := hf.eq _ _ hb
        rw [← eb, if_neg ha]; exact h1
      · rw [if_neg hb] at h2
        have := hf.trans _ _ _ h1 h2
        rw [if_neg (by omega)]; exact this
theorem Ord.le {α : Type} {f : α → α → Int} (h : Ord f) {a b c : α} (h1 : f a b ≤ 0) (h2 : f b c ≤ 0) : f a c ≤ 0 := by
  rcases h.range a b with e | e | e
  · rcases h.range b c with e2 | e2 | e2
    · have := h.trans a b c e e2; omega
    · rw [← h.eq _ _ e2]; omega
    · omega
  · rw [h.eq _ _ e]; exact h2
  · omega
/-- Stamps as tuples. -/
abbrev St := Int × Int × ByteArray × Int × Int
def cmpT : St → St → Int := lex cmpI (lex cmpI (lex cmpB (lex cmpI cmpI)))
theorem ord_T : Ord cmpT := ord_I.lex (ord_I.lex (ord_B.lex (ord_I.lex ord_I)))
theorem pair_step (a b t : Int) : (if a < b then (-1 : Int) else if b < a then 1 else t) = if cmpI a b = 0 then t else cmpI a b := by
  unfold cmpI
  by_cases h1 : a < b
  · simp [h1]
  · by_cases h2 : b < a
    · simp [h1, h2]
    · simp [h1, h2]
theorem cmpS_eq (g r : Int) (l : ByteArray) (n x g' r' : Int) (l' : ByteArray) (n' x' : Int) : cmpS g r l n x g' r' l' n' x' = cmpT (g, r, l, n, x) (g', r', l', n', x') := by
  unfold cmpS prs cmpT Go.Proofs.YtkkpdgfllnbigaaGreatDoor.lex
  simp only [cmpPairs, pair_step]
  have hz : cmpI (cmpB l l') 0 = cmpB l l' := by
    unfold cmpI
    rcases ord_B.range l l' with e | e | e <;> rw [e] <;> decide
  rw [hz]
  congr 1
  congr 1
  congr 1
  congr 1
  by_cases h : cmpI x x' = 0
  · rw [if_pos h, h]
  · rw [if_neg h]
theorem less_cb : ∀ (a b : List UInt8), Op.bytesLess a b = decide (Lib.compareBytes a b = -1)
  | [], [] => by simp [Op.bytesLess, Lib.compareBytes]
  | [], _ :: _ => by simp [Op.bytesLess, Lib.compareBytes]
  | _ :: _, [] => by simp [Op.bytesLess, Lib.compareBytes]
  | a :: l, b :: m => by
    have := less_cb l m
    rw [Lib.compareBytes, Op.bytesLess]
    by_cases h1 : a < b
    · simp [h1]
    · by_cases h2 : b < a
      · simp [h1, h2]
        intro e
        subst e
        exact absurd h2 h1
      · have e := u8_eq h1 h2
        subst e
        simp [this]
end Go.Proofs.YtkkpdgfllnbigaaGreatDoor
namespace Go.Proofs.YtkkpdgfllnbigaaGreatDoor
open Go.RowKit Go.Shelf
set_option linter.unusedSimpArgs false

/-- Below, and draws only go on. -/
structure BelowG (B : Nat) (w w' : World) : Prop where
  low : Below B w w'
  drawn : w.drawn ≤ w'.drawn
theorem BelowG.refl (B : Nat) (w : World) : BelowG B w w := ⟨Below.refl B w, Nat.le_refl _⟩
theorem BelowG.size {B : Nat} {w w' : World} (h : BelowG B w w') : w.heap.size ≤ w'.heap.size := h.low.size
theorem BelowG.block {B : Nat} {w w' : World} (h : BelowG B w w') : ∀ k, k < B → w'.heap[k]? = w.heap[k]? := h.low.block
theorem BelowG.trans {B : Nat} {a b c : World} (h : BelowG B a b) (k : BelowG B b c) : BelowG B a c := ⟨h.low.trans k.low, Nat.le_trans h.drawn k.drawn⟩
theorem BelowG.mono {B B' : Nat} {w w' : World} (h : BelowG B w w') (hB : B' ≤ B) : BelowG B' w w' := ⟨h.low.mono hB, h.drawn⟩
theorem BelowG.alloc {B : Nat} {w w' : World} (h : BelowG B w w') (hB : B ≤ w'.heap.size) (o : Obj) : BelowG B w (w'.alloc o) := ⟨h.low.alloc hB o, h.drawn⟩
theorem BelowG.drew {B : Nat} {w w' : World} (h : BelowG B w w') : BelowG B w w'.drew := ⟨h.low.drew, Nat.le_succ_of_le h.drawn⟩
theorem BelowG.drewN {B : Nat} {w w' : World} (h : BelowG B w w') (n : Nat) : BelowG B w (w'.drewN n) := ⟨⟨h.low.os, h.low.tape, h.low.output, h.low.size, h.low.block⟩, Nat.le_trans h.drawn (Nat.le_add_right _ _)⟩
end Go.Proofs.YtkkpdgfllnbigaaGreatDoor
namespace Go.Proofs.YtkkpdgfllnbigaaGreatDoor
open Go.RowKit Go.Shelf
set_option linter.unusedSimpArgs false

end Go.Proofs.YtkkpdgfllnbigaaGreatDoor
namespace Go.Proofs.YtkkpdgfllnbigaaGreatDoor
open Go.RowKit

theorem conv_rd {w : World} {ao : Option Addr} {n cap : Nat} {l : List Int} (hr : Rd w ao l) (hn : l.length = n) : (convert 64 9 (.slice ao n cap)).run Tryz.prog w = .ok (.string (strOfNums l)) w := by
  cases ao with
  | none =>
    have := hr.1 rfl
    subst this
    exact run_convert_bytes_nil w 64 5 Tryz.underlying64 Tryz.underlying5 _ _ 9 Tryz.underlying9
  | some a =>
    cases l with
    | nil =>
      simp at hn
      subst hn
      rw [run_convert_bytes_string w 64 9 5 _ 0 cap Tryz.underlying64 Tryz.underlying5 Tryz.underlying9, run_bytesToString w a 0 cap [] (by simp [loadCells, loadCellsFrom])]
      rfl
    | cons b l =>
      obtain ⟨ab, off, ha, _⟩ := hr.at (k := 0) (b := b) rfl
      cases ha
      refine run_convert_bytes_arg w 64 5 Tryz.underlying64 Tryz.underlying5 ab off n cap (b :: l) hn ?_ 9 Tryz.underlying9
      intro i hi
      have := hr.2 _ rfl i (.int .u8 ((b :: l).getD i 0)) (by rw [u8s_get, List.getD, List.getElem?_eq_getElem (by omega)]; rfl)
      rwa [add_lit] at this
end Go.Proofs.YtkkpdgfllnbigaaGreatDoor
namespace Go.Proofs.YtkkpdgfllnbigaaGreatDoor
open Go.RowKit Go.Shelf Go.Sort
set_option linter.unusedSimpArgs false

def ints (l : List UInt8) : List Int := l.map (fun b => (b.toNat : Int))
theorem ints_length (l : List UInt8) : (ints l).length = l.length := by simp [ints]
theorem ints_append (l m : List UInt8) : ints (l ++ m) = ints l ++ ints m := by simp [ints]
theorem ints_size (s : ByteArray) : (ints s.data.toList).length = s.size := by rw [ints_length, ← Lib.size_eq]
theorem str_ints (l : List UInt8) : strOfNums (ints l) = ⟨l.toArray⟩ := by
  unfold strOfNums ints
  rw [List.map_map]
  congr 2
  conv => rhs; rw [← List.map_id l]
  apply List.map_congr_left
  intro b _
  simp
/-- The bytes of a text, in new memory. -/
theorem conv_str (s : ByteArray) (W : World) : ∃ c W', (convert 9 64 (.string s)).run Tryz.prog W = .ok (.slice (some ⟨W.heap.size, 0, none⟩) s.size c) W' ∧ Rd W' (some ⟨W.heap.size, 0, none⟩) (ints s.data.toList) ∧ Below W.heap.size W W' := by
  refine ⟨_, _, Lib.run_convert_string_bytes (P := Tryz.prog) W 9 64 5 s Tryz.underlying9 Tryz.underlying64 Tryz.underlying5, ⟨by simp, ?_⟩, ⟨rfl, rfl, rfl, by rw [Lib.bytesWorld_size]; omega, fun k hk => Lib.bytesWorld_at_old W 5 s k hk⟩⟩
  intro a ha j u hj
  cases ha
  rw [u8s_get] at hj
  have hl : s.data.toList.length = s.size := (Lib.size_eq s).symm
  have hjl : j < s.size := by
    cases hg : (ints s.data.toList)[j]? with
    | none => rw [hg] at hj; cases hj
    | some v => have := (List.getElem?_eq_some_iff.1 hg).1; rw [ints_size] at this; exact this
  rw [add_lit, Nat.zero_add, Lib.bytesWorld_cell W 5 s j hjl, ← hj]
  simp [ints, List.getD, List.getElem?_eq_getElem (show j < s.data.toList.length by omega)]
theorem ext_take (s : ByteArray) (n : Nat) : s.extract 0 n = ⟨(s.data.toList.take n).toArray⟩ := by
  apply ByteArray.ext
  apply Array.toList_inj.1
  simp [ByteArray.data_extract]
theorem meant_iff (V : Bool) (t s e : ByteArray) : ((if V then (0 : Int) else 2) = 0 ∧ (if V then t else e) = s) ↔ (V && decide (t = s)) = true := by
  cases V <;> simp
theorem set3_other {w : World} {R b : Nat} {k : Nat} {x y z : Value} (h : R ≠ b) : (((w.setCell ⟨R, 0, none⟩ x).setCell ⟨R, 1, none⟩ y).setCell ⟨R, 2, none⟩ z).cell? ⟨b, k, none⟩ = w.cell? ⟨b, k, none⟩ := by
  refine World.cell?_of_block ?_
  rw [Below.heap_setCell _ _ _ _ (Ne.symm h), Below.heap_setCell _ _ _ _ (Ne.symm h), Below.heap_setCell _ _ _ _ (Ne.symm h)]
end Go.Proofs.YtkkpdgfllnbigaaGreatDoor
namespace Go.Proofs.YtkkpdgfllnbigaaGreatDoor
open Go.RowKit Go.Shelf
set_option linter.unusedSimpArgs false

/-- The k low bytes of a number, the highest first. -/
def low (n : Nat) : Nat → List Int
  | 0 => []
  | k + 1 => ((n / 256 ^ k % 256 : Nat) : Int) :: low n k
theorem low_length (n : Nat) : ∀ k, (low n k).length = k
  | 0 => rfl
  | k + 1 => by rw [low, List.length_cons, low_length n k]
theorem low_u8 (n : Nat) : ∀ k, U8 (low n k)
  | 0 => U8.nil
  | k + 1 => by
    intro y hy
    rw [low, List.mem_cons] at hy
    rcases hy with rfl | hy
    · omega
    · exact low_u8 n k y hy
def rowK (n k : Nat) : List Int := List.replicate (8 - k) 0 ++ low n k
theorem rowK_set (n k : Nat) (h : k < 8) : (rowK n k).set (7 - k) ((n / 256 ^ k % 256 : Nat) : Int) = rowK n (k + 1) := by
  unfold rowK
  rw [show 8 - k = (7 - k) + 1 by omega, List.replicate_succ', List.append_assoc, List.set_append_right _ _ (by simp)]
  simp [low, show 8 - (k + 1) = 7 - k by omega]
theorem rowK_length (n k : Nat) (h : k ≤ 8) : (rowK n k).length = 8 := by unfold rowK; rw [List.length_append, List.length_replicate, low_length]; omega

set_option maxHeartbeats 1000000 in
set_option maxRecDepth 100000 in
theorem highest_any (n : Nat) (w : World) : Calls Tryz.prog 59 #[.int .i64 (n : Int)] w fun e w' => e = .returned (.string (strOfNums (low n 8))) ∧ Below w.heap.size w w' := by
  obtain ⟨SS, hSS⟩ : ∃ SS, SS = strOfNums (low n 8) := ⟨_, rfl⟩
  rw [← hSS]
  have HS := hide hSS
  clear hSS
  go_enter Tryz.func59, Tryz.ntmps59
  go_wp2
  go_loopw [0, 4] (fun v0 v4 wr => ∃ k : Nat, k ≤ 8 ∧ v0 = .int .i64 ((n / 256 ^ k : Nat) : Int) ∧ v4 = .int .i64 (7 - (k : Int)) ∧ Hid (wr.heap[w.heap.size]? = some (.cells (u8s (rowK n k)).toArray 137 (0, 0))) ∧ Hid (Below w.heap.size w wr)) (fun _ v4 _ => (intOf v4 + 1).toNat)
  case atStart => exact ⟨0, by omega, by simp, by simp, hide (heap_alloc_new w _), hide (below_new w _)⟩
  case round =>
    obtain ⟨k, hk, rfl, rfl, HC, HW⟩ := hrel
    by_cases hc : k < 8
    · have z1 : (0 : Int) ≤ 7 - (k : Int) := by omega
      have z2 : (7 : Int) - (k : Int) < 8 := by omega
      have hlen := rowK_length n k hk
      obtain ⟨v, hv⟩ : ∃ v, (u8s (rowK n k))[7 - k]? = some v := ⟨_, List.getElem?_eq_getElem (by rw [u8s_length]; omega)⟩
      have hcl : wr.cell? ⟨w.heap.size, 7 - k, none⟩ = some v := by rw [cell_of_row _ _ _ _ 137 (0, 0) HC.out]; simpa using hv
      have hfz : wr.frozen? ⟨w.heap.size, 7 - k, none⟩ = false := frozen_of_row _ _ _ _ 137 HC.out
      have hst := heap_setCell_same wr w.heap.size (7 - k) _ 137 (.int .u8 ((n / 256 ^ k % 256 : Nat) : Int)) HC.out
      have hrow : (wr.setCell ⟨w.heap.size, 7 - k, none⟩ (.int .u8 ((n : Int) / 256 ^ k % 256))).heap[w.heap.size]? = some (.cells (u8s (rowK n (k + 1))).toArray 137 (0, 0)) := by
        rw [show ((n : Int) / 256 ^ k % 256) = ((n / 256 ^ k % 256 : Nat) : Int) by simp, hst, ← rowK_set n k hc]
        simp [u8s, List.map_set]
      have HR := hide hrow
      clear hrow hst hv
      go_wp2
      refine ⟨⟨k + 1, by omega, ?_, ?_, hide HR.out, hide (HW.out.setCell (by simp) _)⟩, ?_⟩
      · rw [Nat.pow_succ, ← Nat.div_div_eq_div_mul]; simp
      · congr 1; omega
      · simp only [intOf]; omega
    · obtain rfl : k = 8 := by omega
      have hRd : Rd wr (some ⟨w.heap.size, 0, none⟩) (low n 8) := by
        refine ⟨by simp, ?_⟩
        intro a ha j u hj
        cases ha
        rw [add_lit, Nat.zero_add, cell_of_row _ _ _ _ 137 (0, 0) HC.out]
        simpa [rowK] using hj
      have hcv := conv_rd (n := 8) (cap := 8) hRd (low_length n 8)
      rw [← HS.out] at hcv
      go_wp2
      go_ret
      exact ⟨rfl, HW.out⟩

theorem one_any (n : Int) (w : World) (h0 : 0 ≤ n) (h1 : n ≤ 255) : Calls Tryz.prog 60 #[.int .i64 n] w fun e w' => e = .returned (.string (strOfNums [n])) ∧ Below w.heap.size w w' := by
  have wn : IntKind.u8.wrap n = n := by rw [IntKind.wrap_u8]; omega
  have hRd : Rd (w.alloc (.cells #[.int .u8 n] 5)) (some ⟨w.heap.size, 0, none⟩) [n] := rd_lit w [n] 5 (0, 0)
  have hcv := conv_rd (n := 1) (cap := 1) hRd rfl
  have hb := below_new w (.cells #[.int .u8 n] 5)
  generalize strOfNums [n] = SS at hcv ⊢
  go_enter Tryz.func60, Tryz.ntmps60
  go_wp2
  go_ret
  exact ⟨rfl, hb⟩

def keyS (g r : Int) (l : ByteArray) (n x : Int) : ByteArray := strOfNums (low g.toNat 8) ++ strOfNums [r] ++ l ++ ⟨#[0]⟩ ++ strOfNums (low n.toNat 8) ++ strOfNums [x]
theorem low_size (n : Nat) : (strOfNums (low n 8)).size = 8 := by rw [strOfNums_size, low_length]
set_option maxHeartbeats 2000000 in
set_option maxRecDepth 100000 in
theorem stampKey_any (g r : Int) (l : ByteArray) (n x : Int) (w : World) (h0 : 0 ≤ r) (h1 : r ≤ 255) (hl : l.size ≤ 1000000) (n0 : 0 ≤ n) (n1 : n ≤ 9223372036854775807) (g0 : 0 ≤ g) (g1 : g ≤ 9223372036854775807) (x0 : 0 ≤ x) (x1 : x ≤ 255) : Calls Tryz.prog 38 #[sv g r l n x] w fun e w' => e = .returned (.string (keyS g r l n x)) ∧ Below w.heap.size w w' := by
  obtain ⟨m0, m1⟩ := new2 w (.cells #[.int .i64 g, .int .i64 r, .string l, .int .i64 n, .int .i64 x] 27) (.cells #[.int .i64 r, .string l] 23)
  have hb : Below w.heap.size w ((w.alloc (.cells #[.int .i64 g, .int .i64 r, .string l, .int .i64 n, .int .i64 x] 27)).alloc (.cells #[.int .i64 r, .string l] 23)) := ((Below.refl _ w).alloc (Nat.le_refl _) _).alloc (by simp) _
  unfold keyS
  have hg : ∀ W, Calls Tryz.prog 59 #[.int .i64 g] W fun e w' => e = .returned (.string (strOfNums (low g.toNat 8))) ∧ Below W.heap.size W w' := fun W => by
    have := highest_any g.toNat W
    rw [show ((g.toNat : Nat) : Int) = g by omega] at this
    exact this
  have hn : ∀ W, Calls Tryz.prog 59 #[.int .i64 n] W fun e w' => e = .returned (.string (strOfNums (low n.toNat 8))) ∧ Below W.heap.size W w' := fun W => by
    have := highest_any n.toNat W
    rw [show ((n.toNat : Nat) : Int) = n by omega] at this
    exact this
  have hr := fun W => one_any r W h0 h1
  have hx := fun W => one_any x W x0 x1
  have sg := low_size g.toNat
  have sn := low_size n.toNat
  have sr : (strOfNums [r]).size = 1 := rfl
  have sx : (strOfNums [x]).size = 1 := rfl
  generalize strOfNums (low g.toNat 8) = DG at hg sg ⊢
  generalize strOfNums (low n.toNat 8) = DN at hn sn ⊢
  generalize strOfNums [r] = DR at hr sr ⊢
  generalize strOfNums [x] = DX at hx sx ⊢
  have f1 : ¬ 9223372036854775807 < DG.size + DR.size := by omega
  have f2 : ¬ 9223372036854775807 < DG.size + DR.size + l.size := by omega
  have f3 : ¬ 9223372036854775807 < DG.size + DR.size + l.size + 1 := by omega
  have f4 : ¬ 9223372036854775807 < DG.size + DR.size + l.size + 1 + DN.size := by omega
  have f5 : ¬ 9223372036854775807 < DG.size + DR.size + l.size + 1 + DN.size + DX.size := by omega
  clear sg sn sr sx
  go_enter Tryz.func38, Tryz.ntmps38
  go_wp2
  generalize ((w.alloc (.cells #[.int .i64 g, .int .i64 r, .string l, .int .i64 n, .int .i64 x] 27)).alloc (.cells #[.int .i64 r, .string l] 23)) = W0 at hb m0 m1 ⊢
  have hS1 : W0.drew.cell? ⟨w.heap.size, 0, none⟩ = some (.int .i64 g) ∧ W0.drew.cell? ⟨w.heap.size, 3, none⟩ = some (.int .i64 n) ∧ W0.drew.cell? ⟨w.heap.size, 4, none⟩ = some (.int .i64 x) ∧ W0.drew.cell? ⟨w.heap.size + 1, 0, none⟩ = some (.int .i64 r) ∧ W0.drew.cell? ⟨w.heap.size + 1, 1, none⟩ = some (.string l) := ⟨by show W0.cell? _ = _; rw [cell_of_row _ _ _ _ 27 (0, 0) m0]; rfl, by show W0.cell? _ = _; rw [cell_of_row _ _ _ _ 27 (0, 0) m0]; rfl, by show W0.cell? _ = _; rw [cell_of_row _ _ _ _ 27 (0, 0) m0]; rfl, by show W0.cell? _ = _; rw [cell_of_row _ _ _ _ 23 (0, 0) m1]; rfl, by show W0.cell? _ = _; rw [cell_of_row _ _ _ _ 23 (0, 0) m1]; rfl⟩
  have hBW : Below w.heap.size w W0.drew := hb.drew
  clear hb m0 m1
  refine wp_region_held_drew (S := (fun w' => w'.cell? ⟨w.heap.size, 0, none⟩ = some (.int .i64 g) ∧ w'.cell? ⟨w.heap.size, 3, none⟩ = some (.int .i64 n) ∧ w'.cell? ⟨w.heap.size, 4, none⟩ = some (.int .i64 x) ∧ w'.cell? ⟨w.heap.size + 1, 0, none⟩ = some (.int .i64 r) ∧ w'.cell? ⟨w.heap.size + 1, 1, none⟩ = some (.string l))) (by kernel_rfl) (by exact hS1) (fun hHeld => ?_)
  try dsimp only at hHeld
  refine take_op (i := 0) (d := 7) (OP := Op.fieldAddr 27 (Operand.tmp 1) 0) (T := 0) (v := ?vy1x) rfl rfl rfl rfl (by kernel_rfl) (by kernel_rfl) (by kernel_rfl) (fun _ _ _ h => h) (by rfl) ?hy1x hHeld ?ry1x
  case hy1x => (intro w' hSw; (try dsimp only at hSw); go_simp <;> with_reducible rfl)
  try simp only [Act.put, sI, sZ, sS]
  refine take_op (i := 1) (d := 8) (OP := Op.load 2 (Operand.tmp 7)) (T := 2) (v := ?vy2x) rfl rfl rfl rfl (by kernel_rfl) (by kernel_rfl) (by kernel_rfl) (fun _ _ _ h => h) (by rfl) ?hy2x hHeld ?ry2x
  case hy2x => (intro w' hSw; (try dsimp only at hSw); go_simp <;> with_reducible rfl)
  try simp only [Act.put, sI, sZ, sS]
  refine take_op (i := 3) (d := 10) (OP := Op.fieldAddr 23 (Operand.tmp 3) 0) (T := 0) (v := ?vy3x) rfl rfl rfl rfl (by kernel_rfl) (by kernel_rfl) (by kernel_rfl) (fun _ _ _ h => h) (by rfl) ?hy3x hHeld ?ry3x
  case hy3x => (intro w' hSw; (try dsimp only at hSw); go_simp <;> with_reducible rfl)
  try simp only [Act.put, sI, sZ, sS]
  refine take_op (i := 4) (d := 11) (OP := Op.load 3 (Operand.tmp 10)) (T := 3) (v := ?vy4x) rfl rfl rfl rfl (by kernel_rfl) (by kernel_rfl) (by kernel_rfl) (fun _ _ _ h => h) (by rfl) ?hy4x hHeld ?ry4x
  case hy4x => (intro w' hSw; (try dsimp only at hSw); go_simp <;> with_reducible rfl)
  try simp only [Act.put, sI, sZ, sS]
  refine take_op (i := 7) (d := 14) (OP := Op.fieldAddr 23 (Operand.tmp 3) 1) (T := 0) (v := ?vy5x) rfl rfl rfl rfl (by kernel_rfl) (by kernel_rfl) (by kernel_rfl) (fun _ _ _ h => h) (by rfl) ?hy5x hHeld ?ry5x
  case hy5x => (intro w' hSw; (try dsimp only at hSw); go_simp <;> with_reducible rfl)
  try simp only [Act.put, sI, sZ, sS]
  refine take_op (i := 8) (d := 15) (OP := Op.load 9 (Operand.tmp 14)) (T := 9) (v := ?vy6x) rfl rfl rfl rfl (by kernel_rfl) (by kernel_rfl) (by kernel_rfl) (fun _ _ _ h => h) (by rfl) ?hy6x hHeld ?ry6x
  case hy6x => (intro w' hSw; (try dsimp only at hSw); go_simp <;> with_reducible rfl)
  try simp only [Act.put, sI, sZ, sS]
  refine take_op (i := 11) (d := 18) (OP := Op.fieldAddr 27 (Operand.tmp 1) 1) (T := 0) (v := ?vy7x) rfl rfl rfl rfl (by kernel_rfl) (by kernel_rfl) (by kernel_rfl) (fun _ _ _ h => h) (by rfl) ?hy7x hHeld ?ry7x
  case hy7x => (intro w' hSw; (try dsimp only at hSw); go_simp <;> with_reducible rfl)
  try simp only [Act.put, sI, sZ, sS]
  refine take_op (i := 12) (d := 19) (OP := Op.fieldAddr 25 (Operand.tmp 18) 1) (T := 0) (v := ?vy8x) rfl rfl rfl rfl (by kernel_rfl) (by kernel_rfl) (by kernel_rfl) (fun _ _ _ h => h) (by rfl) ?hy8x hHeld ?ry8x
  case hy8x => (intro w' hSw; (try dsimp only at hSw); go_simp <;> with_reducible rfl)
  try simp only [Act.put, sI, sZ, sS]
  refine take_op (i := 13) (d := 20) (OP := Op.load 2 (Operand.tmp 19)) (T := 2) (v := ?vy9x) rfl rfl rfl rfl (by kernel_rfl) (by kernel_rfl) (by kernel_rfl) (fun _ _ _ h => h) (by rfl) ?hy9x hHeld ?ry9x
  case hy9x => (intro w' hSw; (try dsimp only at hSw); go_simp <;> with_reducible rfl)
  try simp only [Act.put, sI, sZ, sS]
  refine take_op (i := 16) (d := 23) (OP := Op.fieldAddr 27 (Operand.tmp 1) 2) (T := 0) (v := ?vy10x) rfl rfl rfl rfl (by kernel_rfl) (by kernel_rfl) (by kernel_rfl) (fun _ _ _ h => h) (by rfl) ?hy10x hHeld ?ry10x
  case hy10x => (intro w' hSw; (try dsimp only at hSw); go_simp <;> with_reducible rfl)
  try simp only [Act.put, sI, sZ, sS]
  refine take_op (i := 17) (d := 24) (OP := Op.load 3 (Operand.tmp 23)) (T := 3) (v := ?vy11x) rfl rfl rfl rfl (by kernel_rfl) (by kernel_rfl) (by kernel_rfl) (fun _ _ _ h => h) (by rfl) ?hy11x hHeld ?ry11x
  case hy11x => (intro w' hSw; (try dsimp only at hSw); go_simp <;> with_reducible rfl)
  try simp only [Act.put, sI, sZ, sS]
  refine call_op (i := 2) (d := 9) (OP := Op.call { callee := Callee.value (Operand.func 59), args := #[Operand.tmp 8], argTypes := #[2] }) (T := 9) (f := 59) (args := #[.int .i64 g]) rfl rfl rfl rfl (by kernel_rfl) (by rfl) (by go_simp) ?_
  refine (hg _).mono ?_
  rintro e w2 ⟨rfl, b2⟩
  have hS2 := (And.intro (kept b2 hHeld.1) (And.intro (kept b2 hHeld.2.1) (And.intro (kept b2 hHeld.2.2.1) (And.intro (kept b2 hHeld.2.2.2.1) (kept b2 hHeld.2.2.2.2)))))
  have hB2 := hBW.trans (b2.mono hBW.size)
  refine ⟨_, rfl, hS2, ?_⟩
  replace hHeld := hS2
  try simp only [Act.put, sI, sZ, sS]
  refine call_op (i := 5) (d := 12) (OP := Op.call { callee := Callee.value (Operand.func 60), args := #[Operand.tmp 11], argTypes := #[3] }) (T := 9) (f := 60) (args := #[.int .i64 r]) rfl rfl rfl rfl (by kernel_rfl) (by rfl) (by go_simp) ?_
  refine (hr _).mono ?_
  rintro e w3 ⟨rfl, b3⟩
  have hS3 := (And.intro (kept b3 hHeld.1) (And.intro (kept b3 hHeld.2.1) (And.intro (kept b3 hHeld.2.2.1) (And.intro (kept b3 hHeld.2.2.2.1) (kept b3 hHeld.2.2.2.2)))))
  have hB3 := hB2.trans (b3.mono hB2.size)
  refine ⟨_, rfl, hS3, ?_⟩
  replace hHeld := hS3
  try simp only [Act.put, sI, sZ, sS]
  refine take_op (i := 6) (d := 13) (OP := Op.binOp BinOp.add 9 (Operand.tmp 9) (Operand.tmp 12) 9) (T := 9) (v := ?vy12x) rfl rfl rfl rfl (by kernel_rfl) (by kernel_rfl) (by kernel_rfl) (fun _ _ _ h => h) (by rfl) ?hy12x hHeld ?ry12x
  case hy12x => (intro w' hSw; (try dsimp only at hSw); go_simp <;> with_reducible rfl)
  try simp only [Act.put, sI, sZ, sS]
  refine take_op (i := 9) (d := 16) (OP := Op.binOp BinOp.add 9 (Operand.tmp 13) (Operand.tmp 15) 9) (T := 9) (v := ?vy13x) rfl rfl rfl rfl (by kernel_rfl) (by kernel_rfl) (by kernel_rfl) (fun _ _ _ h => h) (by rfl) ?hy13x hHeld ?ry13x
  case hy13x => (intro w' hSw; (try dsimp only at hSw); go_simp <;> with_reducible rfl)
  try simp only [Act.put, sI, sZ, sS]
  refine take_op (i := 10) (d := 17) (OP := Op.binOp BinOp.add 9 (Operand.tmp 16) (Operand.const (Value.string { data := #[0] })) 9) (T := 9) (v := ?vy14x) rfl rfl rfl rfl (by kernel_rfl) (by kernel_rfl) (by kernel_rfl) (fun _ _ _ h => h) (by rfl) ?hy14x hHeld ?ry14x
  case hy14x => (intro w' hSw; (try dsimp only at hSw); go_simp <;> with_reducible rfl)
  try simp only [Act.put, sI, sZ, sS]
  refine call_op (i := 14) (d := 21) (OP := Op.call { callee := Callee.value (Operand.func 59), args := #[Operand.tmp 20], argTypes := #[2] }) (T := 9) (f := 59) (args := #[.int .i64 n]) rfl rfl rfl rfl (by kernel_rfl) (by rfl) (by go_simp) ?_
  refine (hn _).mono ?_
  rintro e w4 ⟨rfl, b4⟩
  have hS4 := (And.intro (kept b4 hHeld.1) (And.intro (kept b4 hHeld.2.1) (And.intro (kept b4 hHeld.2.2.1) (And.intro (kept b4 hHeld.2.2.2.1) (kept b4 hHeld.2.2.2.2)))))
  have hB4 := hB3.trans (b4.mono hB3.size)
  refine ⟨_, rfl, hS4, ?_⟩
  replace hHeld := hS4
  try simp only [Act.put, sI, sZ, sS]
  refine take_op (i := 15) (d := 22) (OP := Op.binOp BinOp.add 9 (Operand.tmp 17) (Operand.tmp 21) 9) (T := 9) (v := ?vy15x) rfl rfl rfl rfl (by kernel_rfl) (by kernel_rfl) (by kernel_rfl) (fun _ _ _ h => h) (by rfl) ?hy15x hHeld ?ry15x
  case hy15x => (intro w' hSw; (try dsimp only at hSw); go_simp <;> with_reducible rfl)
  try simp only [Act.put, sI, sZ, sS]
  refine call_op (i := 18) (d := 25) (OP := Op.call { callee := Callee.value (Operand.func 60), args := #[Operand.tmp 24], argTypes := #[3] }) (T := 9) (f := 60) (args := #[.int .i64 x]) rfl rfl rfl rfl (by kernel_rfl) (by rfl) (by go_simp) ?_
  refine (hx _).mono ?_
  rintro e w5 ⟨rfl, b5⟩
  have hS5 := (And.intro (kept b5 hHeld.1) (And.intro (kept b5 hHeld.2.1) (And.intro (kept b5 hHeld.2.2.1) (And.intro (kept b5 hHeld.2.2.2.1) (kept b5 hHeld.2.2.2.2)))))
  have hB5 := hB4.trans (b5.mono hB4.size)
  refine ⟨_, rfl, hS5, ?_⟩
  replace hHeld := hS5
  try simp only [Act.put, sI, sZ, sS]
  refine take_op (i := 19) (d := 26) (OP := Op.binOp BinOp.add 9 (Operand.tmp 22) (Operand.tmp 25) 9) (T := 9) (v := ?vy16x) rfl rfl rfl rfl (by kernel_rfl) (by kernel_rfl) (by kernel_rfl) (fun _ _ _ h => h) (by rfl) ?hy16x hHeld ?ry16x
  case hy16x => (intro w' hSw; (try dsimp only at hSw); go_simp <;> with_reducible rfl)
  try simp only [Act.put, sI, sZ, sS]
  refine take_op (i := 20) (d := 2) (OP := Op.assign (Operand.tmp 26)) (T := 9) (v := ?vy17x) rfl rfl rfl rfl (by kernel_rfl) (by kernel_rfl) (by kernel_rfl) (fun _ _ _ h => h) (by rfl) ?hy17x hHeld ?ry17x
  case hy17x => (intro w' hSw; (try dsimp only at hSw); go_simp <;> with_reducible rfl)
  try simp only [Act.put, sI, sZ, sS]
  refine wpAnyH_done (by kernel_rfl) ?_ _
  go_wp2
  go_ret
  exact ⟨rfl, hB5⟩

set_option maxHeartbeats 1000000 in
set_option maxRecDepth 100000 in
theorem eight_any (n : Nat) (w : World) : Calls Tryz.prog 45 #[.int .i64 (n : Int)] w fun e w' => Made 5 w w' e (low n 8) := by
  obtain ⟨i0, hi, hz0, hz1, hz2⟩ := info_parts Tryz.info5
  go_enter Tryz.func45, Tryz.ntmps45
  go_wp2
  go_loopw [3, 4] (fun v3 v4 wr => ∃ (k : Nat) (p : List Int), k ≤ 8 ∧ p.length = 8 - k ∧ v4 = .int .i64 (8 * (k : Int) - 8) ∧ Hid (p ++ low n k = low n 8) ∧ Hid (Own 5 wr w.heap.size v3 p) ∧ Hid (Below w.heap.size w wr)) (fun _ v4 _ => (intOf v4 + 8).toNat)
  case atStart => exact ⟨8, [], by omega, rfl, rfl, hide rfl, hide (Own.nil _ _ _), hide (Below.refl _ _)⟩
  case round =>
    obtain ⟨k, p, hk, hpl, rfl, HP, HO, HW⟩ := hrel
    obtain ⟨ao, cc, hv3, hnil⟩ := HO.out.form
    subst hv3
    have hp8 : p.length ≤ 8 := by omega
    have HPL := hide hpl
    clear hpl
    have hsz := HW.out.size
    by_cases hc : 0 < k
    · have z1 : (0 : Int) ≤ 8 * (k : Int) - 8 := by omega
      have wk : IntKind.u64.wrap (8 * (k : Int) - 8) = 8 * (k : Int) - 8 := by rw [IntKind.wrap_u64]; omega
      have hO := HO.out
      have hpw : 2 ^ (8 * k - 8) = 256 ^ (k - 1) := by rw [show 8 * k - 8 = 8 * (k - 1) by omega, Nat.pow_mul]
      have hnx : (p ++ [(n : Int) / 2 ^ (8 * k - 8) % 256]) ++ low n (k - 1) = low n 8 := by
        have := HP.out
        rw [show k = (k - 1) + 1 by omega, low] at this
        rw [← this, List.append_assoc]
        congr 1
        show [_] ++ _ = _ :: _
        rw [List.cons_append, List.nil_append]
        congr 1
        rw [← hpw]
        simp
      have HNX := hide hnx
      clear hnx hpw
      have hcl : (wr.alloc (.cells #[.int .u8 ((n : Int) / 2 ^ (8 * k - 8) % 256)] 5)).cell? ⟨wr.heap.size, 0, none⟩ = some (.int .u8 ((n : Int) / 2 ^ (8 * k - 8) % 256)) := by simp
      go_wp2_with (at_builtin; refine wpList_push rfl _ _ 64 rfl w.heap.size 5 i0 Tryz.underlying64 hi hz0 hz1 hz2 _ p rfl (hO.alloc _) ⟨wr.heap.size, 0, none⟩ 1 ((n : Int) / 2 ^ (8 * k - 8) % 256) rfl hcl (by omega) (Nat.le_trans hsz (by simp)) ?_; intro a9 c9 w9 hO9 hg9 hn9; have hB9 : Below w.heap.size w w9 := (HW.out.alloc hsz _).grown hg9 (by simp; omega) (fun j hj => (World.ownsRow.lt hO j hj).1); have H9 := hide (And.intro hO9 hB9); clear hO9 hB9 hg9)
      refine ⟨⟨k - 1, p ++ [(n : Int) / 2 ^ (8 * k - 8) % 256], by omega, by have := HPL.out; simp; omega, by congr 1; omega, hide HNX.out, hide (by have := H9.out.1; simpa using this), hide H9.out.2⟩, ?_⟩
      simp only [intOf]; omega
    · have z1 : ¬ (0 : Int) ≤ 8 * (k : Int) - 8 := by omega
      have hE : p = low n 8 := by
        obtain rfl : k = 0 := by omega
        have := HP.out
        rw [low, List.append_nil] at this
        exact this
      have HE := hide hE
      clear hE
      go_wp2
      go_ret
      refine ⟨ao, cc, ?_, ?_, hnil, HW.out⟩
      · rw [← HE.out]; rfl
      · rw [← HE.out]; exact HO.out

end Go.Proofs.YtkkpdgfllnbigaaGreatDoor
namespace Go.Proofs.YtkkpdgfllnbigaaGreatDoor
open Go.RowKit Go.Shelf
set_option linter.unusedSimpArgs false

theorem B_bounds {r : Int} {l : ByteArray} (h : branchV r l = true) : 0 ≤ r ∧ r < 8 ∧ l.size ≤ 12 := by
  unfold branchV labelB at h
  simp only [Bool.and_eq_true, decide_eq_true_eq] at h
  have := Lib.size_eq l
  refine ⟨h.1.1, h.1.2, ?_⟩
  omega
theorem N_bounds {r : Int} {l : ByteArray} {n : Int} (h : nameV r l n = true) : 0 ≤ r ∧ r < 8 ∧ l.size ≤ 12 ∧ 1 ≤ n ∧ n ≤ 4611686018427387904 := by
  unfold nameV cntV at h
  simp only [Bool.and_eq_true, decide_eq_true_eq] at h
  have := B_bounds h.1
  exact ⟨this.1, this.2.1, this.2.2, h.2.1, h.2.2⟩
theorem S_bounds {g r : Int} {l : ByteArray} {n x : Int} (h : stampV g r l n x = true) : 0 ≤ r ∧ r < 8 ∧ l.size ≤ 12 ∧ 1 ≤ n ∧ n ≤ 4611686018427387904 ∧ 1 ≤ g ∧ g ≤ 4611686018427387904 ∧ 0 ≤ x ∧ x < 64 := by
  unfold stampV cntV at h
  simp only [Bool.and_eq_true, decide_eq_true_eq] at h
  have := N_bounds h.1.2
  exact ⟨this.1, this.2.1, this.2.2.1, this.2.2.2.1, this.2.2.2.2, h.1.1.1, h.1.1.2, h.2.1, h.2.2⟩

set_option maxHeartbeats 1000000 in
set_option maxRecDepth 100000 in
theorem told71_any (g r : Int) (l : ByteArray) (n x : Int) (w : World)  : Calls Tryz.prog 36 #[sv g r l n x, .func (.func 37) #[] #[], .func (.func 38) #[] #[]] w fun e w' => e = .returned (.tuple #[.string (if stampV g r l n x then keyS g r l n x else ⟨#[]⟩), .int .i64 (if stampV g r l n x then 0 else 2)]) ∧ Below w.heap.size w w' := by
  have hb := below_new w (.cells #[.int .i64 g, .int .i64 r, .string l, .int .i64 n, .int .i64 x] 27)
  obtain ⟨p0, p1, p2, p3, p4⟩ := five_new w (.int .i64 g) (.int .i64 r) (.string l) (.int .i64 n) (.int .i64 x) 27
  have hm := stamp_any g r l n x (w.alloc (.cells #[.int .i64 g, .int .i64 r, .string l, .int .i64 n, .int .i64 x] 27))
  have hf : stampV g r l n x = true → ∀ W, Below w.heap.size w W → Calls Tryz.prog 38 #[sv g r l n x] W fun e w' => e = .returned (.string (keyS g r l n x)) ∧ Below W.heap.size W w' := fun hv W hb' => by
    have := S_bounds hv
    exact stampKey_any g r l n x W (by omega) (by omega) (by omega) (by omega) (by omega) (by omega) (by omega) (by omega) (by omega)
  have k0 := fun (W : World) (h : Below (w.alloc (.cells #[.int .i64 g, .int .i64 r, .string l, .int .i64 n, .int .i64 x] 27)).heap.size (w.alloc (.cells #[.int .i64 g, .int .i64 r, .string l, .int .i64 n, .int .i64 x] 27)) W) => kept h p0
  have k1 := fun (W : World) (h : Below (w.alloc (.cells #[.int .i64 g, .int .i64 r, .string l, .int .i64 n, .int .i64 x] 27)).heap.size (w.alloc (.cells #[.int .i64 g, .int .i64 r, .string l, .int .i64 n, .int .i64 x] 27)) W) => kept h p1
  have k2 := fun (W : World) (h : Below (w.alloc (.cells #[.int .i64 g, .int .i64 r, .string l, .int .i64 n, .int .i64 x] 27)).heap.size (w.alloc (.cells #[.int .i64 g, .int .i64 r, .string l, .int .i64 n, .int .i64 x] 27)) W) => kept h p2
  have k3 := fun (W : World) (h : Below (w.alloc (.cells #[.int .i64 g, .int .i64 r, .string l, .int .i64 n, .int .i64 x] 27)).heap.size (w.alloc (.cells #[.int .i64 g, .int .i64 r, .string l, .int .i64 n, .int .i64 x] 27)) W) => kept h p3
  have k4 := fun (W : World) (h : Below (w.alloc (.cells #[.int .i64 g, .int .i64 r, .string l, .int .i64 n, .int .i64 x] 27)).heap.size (w.alloc (.cells #[.int .i64 g, .int .i64 r, .string l, .int .i64 n, .int .i64 x] 27)) W) => kept h p4
  generalize stampV g r l n x = V at hm hf ⊢
  generalize keyS g r l n x = S at hf ⊢
  cases V with
  | true =>
    rw [if_pos rfl, if_pos rfl]
    replace hf := hf rfl
    go_enter Tryz.func36, Tryz.ntmps36
    go_wp2_with (go_at_call 37; refine hm.mono ?_; rintro e w1 ⟨rfl, b1⟩; have q0 := k0 _ b1; have q1 := k1 _ b1; have q2 := k2 _ b1; have q3 := k3 _ b1; have q4 := k4 _ b1; have hb1 := hb.trans (b1.mono hb.size); clear b1)
    go_wp2_with (go_at_call 38; refine (hf _ hb1).mono ?_; rintro e w2 ⟨rfl, b2⟩)
    go_ret2
    exact ⟨rfl, hb1.trans (b2.mono hb1.size)⟩
  | false =>
    rw [if_neg (by decide), if_neg (by decide)]
    go_enter Tryz.func36, Tryz.ntmps36
    go_wp2_with (go_at_call 37; refine hm.mono ?_; rintro e w1 ⟨rfl, b1⟩; have hb1 := hb.trans (b1.mono hb.size); clear b1)
    go_ret2
    exact ⟨rfl, hb1⟩
set_option maxHeartbeats 1000000 in
theorem key_any (g r : Int) (l : ByteArray) (n x : Int) (w : World)  : Calls Tryz.prog 20 #[sv g r l n x] w fun e w' => e = .returned (.tuple #[.string (if stampV g r l n x then keyS g r l n x else ⟨#[]⟩), .int .i64 (if stampV g r l n x then 0 else 2)]) ∧ Below w.heap.size w w' := by
  have hb := below_new w (.cells #[.int .i64 g, .int .i64 r, .string l, .int .i64 n, .int .i64 x] 27)
  have hm := told71_any g r l n x (w.alloc (.cells #[.int .i64 g, .int .i64 r, .string l, .int .i64 n, .int .i64 x] 27)) 
  generalize (if stampV g r l n x then keyS g r l n x else ⟨#[]⟩) = S at hm ⊢
  generalize (if stampV g r l n x then (0 : Int) else 2) = E at hm ⊢
  go_enter Tryz.func20, Tryz.ntmps20
  go_wp2_with (go_at_call 36; refine hm.mono ?_; rintro e w1 ⟨rfl, b1⟩)
  go_ret2
  exact ⟨rfl, hb.trans (b1.mono hb.size)⟩

end Go.Proofs.YtkkpdgfllnbigaaGreatDoor
