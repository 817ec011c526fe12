/-
  OPS, plainly: an operation without its memory (Od), its form and its text, those of lists, when one may be.
  WALKS over wire's Number, Join, Bytes, the document's Number, Bytes, and bytes.Clone.
  Picked.
  MEANT: a value, if its own text is the text.
  READS: the program's reader: carried from layer 1's seat.
  READS2: the program's reader, more: carried from layer 1's seat.
  DOCR: the document's reader: carried from layer 1's seat.
  DOCB: the document's reader, bytes: carried from layer 1's seat.
  Picked.
  OPS: forms of the parts: textForm 99, Put[string] 132, listForm[string] 98, namedForm 100.
-/
import Derived.Test.YtpepgoelnagoaaaGreatDoorMg5
import Derived.Test.YtpepgoelnagoaaaGreatDoorMg6
import Derived.Test.YtpepgoelnagoaaaGreatDoorMg7
import Derived.Lib.ItoaLen
import Derived.Test.YtpepgoelnagoaaaGreatDoorMg2
import Derived.Test.YtpepgoelnagoaaaGreatDoorMg3
import Derived.Deep.CutBlock
import Derived.Deep.DeepCutAuto
import Derived.Deep.QuietTactic
import Derived.BigQuiet
namespace Go.Proofs.YtpepgoelnagoaaaGreatDoor
open Go.RowKit Go.Shelf
set_option linter.unusedSimpArgs false

/-- An operation, without its memory. -/
structure Od where
  p : List ByteArray
  k : Int
  s : ByteArray
  d : Int
  n : Int
  t : ByteArray
def frB (s : ByteArray) : List Int := Plain.numL s.size ++ ints s.data.toList
def frP (p : List ByteArray) : List Int := Plain.numL p.length ++ p.flatMap frB
def frN (o : Od) : List Int := if o.d = 1 then Plain.numL (Plain.fold o.n) else if o.d = 6 then [] else frB o.t
def frO (o : Od) : List Int := Plain.numL o.d.toNat ++ frP o.p ++ frB o.s ++ frN o
def chkO (o : Od) : Int := Ki.checkE o.p o.k o.s o.d o.n o.t
/-- Numbers that an int64 holds. -/
def I64 (n : Int) : Prop := -9223372036854775808 ≤ n ∧ n ≤ 9223372036854775807
structure OkO (o : Od) : Prop where
  path : pathB o.p = true
  key : keyB o.s.data.toList = true
  d1 : 1 ≤ o.d
  d7 : o.d ≤ 7
  kind : o.k = Ki.ofD o.d
  text : o.t.size ≤ 256
  add : o.d = 1 → o.t = ⟨#[]⟩
  num : o.d ≠ 1 → o.n = 0
  pop : o.d = 6 → o.t = ⟨#[]⟩
theorem empty_toList {s : ByteArray} (h : s.toList = (⟨#[]⟩ : ByteArray).toList) : s = ⟨#[]⟩ := by
  rw [ByteArray.toList_eq, ByteArray.toList_eq] at h
  exact ByteArray.ext (Array.toList_inj.1 h)
theorem ok_of {o : Od} (h : chkO o = 0) : OkO o := by
  unfold chkO Ki.checkE at h
  split at h
  next ha =>
    unfold Ki.argB at ha
    simp only [Bool.and_eq_true, Bool.not_eq_true', beq_eq_false_iff_ne, ne_eq, beq_iff_eq] at ha
    obtain ⟨⟨⟨⟨⟨a1, a2⟩, a3⟩, a4⟩, a5, a5'⟩, a6⟩ := ha
    have hk : Ki.ofD o.d = o.k := by
      by_cases h1 : Ki.ofD o.d = o.k
      · exact h1
      · rw [if_neg h1] at h; omega
    have hd : 1 ≤ o.d ∧ o.d ≤ 7 := by
      unfold Ki.ofD at a4
      repeat' split at a4
      all_goals first | omega | exact absurd rfl a4
    refine ⟨a1, a2, hd.1, hd.2, hk.symm, by unfold Ki.textB at a6; have := of_decide_eq_true a6; omega, fun e => ?_, fun e => ?_, fun e => ?_⟩
    · unfold Ki.unT at a5'
      rw [if_pos e] at a5'
      exact empty_toList a5'
    · unfold Ki.unN at a5
      rw [if_neg e] at a5
      exact a5
    · unfold Ki.unT at a5'
      rw [if_neg (by omega), e] at a5'
      rw [if_neg (by unfold Ki.bringsD; decide)] at a5'
      exact empty_toList a5'
  next => omega
theorem keyB_size {l : List UInt8} (h : keyB l = true) : l.length ≤ 64 := by
  unfold keyB at h
  simp only [Bool.and_eq_true, decide_eq_true_eq] at h
  exact h.1.1.2
theorem OkO.ssz {o : Od} (h : OkO o) : o.s.size ≤ 64 := by
  rw [Lib.size_eq]; exact keyB_size h.key
theorem frB_len (s : ByteArray) (h : s.size ≤ 140737488355328) : (frB s).length ≤ 10 + s.size := by
  unfold frB
  have := Plain.numL_ten s.size (by omega)
  rw [List.length_append, ints_length, ← Lib.size_eq]
  omega
theorem flat_len {α : Type} {f : α → List Int} {l : List α} {B : Nat} (h : ∀ x ∈ l, (f x).length ≤ B) : (l.flatMap f).length ≤ B * l.length := by
  induction l with
  | nil => simp
  | cons x r ih =>
    have h1 := h x (by simp)
    have h2 := ih (fun y hy => h y (List.mem_cons_of_mem _ hy))
    rw [List.flatMap_cons, List.length_append, List.length_cons, Nat.mul_succ]
    omega
theorem OkO.psz {o : Od} (h : OkO o) : o.p.length ≤ 6 ∧ ∀ s ∈ o.p, s.size ≤ 64 := path_sizes h.path
theorem frP_len {p : List ByteArray} (h : pathB p = true) : (frP p).length ≤ 454 := by
  obtain ⟨h1, h2⟩ := path_sizes h
  have h3 := flat_len (f := frB) (l := p) (B := 74) (fun x hx => by have := frB_len x (by have := h2 x hx; omega); have := h2 x hx; omega)
  have h4 := Plain.numL_ten p.length (by omega)
  unfold frP
  rw [List.length_append]
  omega
theorem frN_len {o : Od} (h : OkO o) (hn : I64 o.n) : (frN o).length ≤ 266 := by
  unfold frN
  split
  · have := Plain.numL_ten (Plain.fold o.n) (Plain.fold_lt o.n hn.1 hn.2); omega
  · split
    · simp
    · have := frB_len o.t (by have := h.text; omega); have := h.text; omega
theorem frO_len {o : Od} (h : OkO o) (hn : I64 o.n) : (frO o).length ≤ 900 := by
  have h1 := frP_len h.path
  have h2 := frN_len h hn
  have h3 := frB_len o.s (by have := h.ssz; omega)
  have h4 := h.ssz
  have h5 := Plain.numL_ten o.d.toNat (by have := h.d7; omega)
  unfold frO
  rw [List.length_append, List.length_append, List.length_append]
  omega
/-- The words of an operation's text. -/
def decL (n : Int) : List UInt8 := Lib.itoa n
def doW (d : Int) : List UInt8 := (Ki.wordB Ki.doWs d).data.toList
def txW (o : Od) : List (List UInt8) := [doW o.d, wordB (joinB o.p), wordB o.s.data.toList] ++ (if o.d = 1 then [decL o.n] else if o.d = 6 then [] else [wordB o.t.data.toList])
def txO (o : Od) : List UInt8 := Lib.join (txW o) [32]
def txA (l : List Od) : List UInt8 := if l = [] then [46] else Lib.join (l.map txO) [59, 32]
/-- The error of a list. -/
def wrongL (l : List Od) : Int := match l.find? (fun o => decide (chkO o ≠ 0)) with | some o => chkO o | none => if 64 < l.length then 3 else 0
theorem wrong_ok {l : List Od} (h : wrongL l = 0) : (∀ o ∈ l, chkO o = 0) ∧ l.length ≤ 64 := by
  unfold wrongL at h
  split at h
  next o ho =>
    have := List.find?_some ho
    simp only [ne_eq, decide_not, Bool.not_eq_true', decide_eq_false_iff_not] at this
    exact absurd h this
  next ho =>
    refine ⟨fun o hm => ?_, ?_⟩
    · have := List.find?_eq_none.1 ho o hm
      simpa using this
    · split at h <;> omega
end Go.Proofs.YtpepgoelnagoaaaGreatDoor
namespace Go.Proofs.YtpepgoelnagoaaaGreatDoor
open Go.RowKit Go.Shelf
set_option linter.unusedSimpArgs false

set_option maxHeartbeats 400000 in
set_option maxRecDepth 100000 in
theorem number_any (n : Nat) (w : World) (hn : n < 18446744073709551616) :
    Calls Tryz.prog 97 #[.int .u64 n] w fun e w' => Made 5 w w' e (Plain.numL n) := by
  obtain ⟨i0, hi, hz0, hz1, hz2⟩ := info_parts Tryz.info5
  have h10 := Plain.numL_ten n hn
  go_enter Tryz.func97, Tryz.ntmps97
  go_wp2
  go_loopw [0, 3] (fun x v wr => ∃ (m : Nat) (p : List Int), m ≤ n ∧ x = .int .u64 m ∧ p ++ Plain.numL m = Plain.numL n ∧ Own 5 wr w.heap.size v p ∧ Below w.heap.size w wr)
    (fun x _ _ => (intOf x).toNat)
  case atStart => exact ⟨n, [], Nat.le_refl _, rfl, rfl, Own.nil _ _ _, Below.refl _ _⟩
  case round =>
    obtain ⟨m, p, hmn, rfl, hp, hown, hb⟩ := hrel
    have hpl : p.length ≤ 10 := by rw [← hp] at h10; simp at h10; omega
    have hsz := hb.size
    have HP : Hid (p ++ Plain.numL m = Plain.numL n) := hp
    clear hp
    by_cases hbig : 127 < m
    · go_wp2_with (at_builtin; refine wpList_push rfl _ _ 26 rfl w.heap.size 5 i0 Tryz.underlying26 hi hz0 hz1 hz2 _ _ rfl (hown.alloc _) ⟨wr.heap.size, 0, none⟩ 1 ((m : Int) % 128 + 128) rfl (by simp [go_sem]) (by omega) (by simp; omega) ?_)
      intro ao' cap' w1 hown' hgrow _
      have hb' := below_own (hb.alloc hsz _) (by simp; omega) (hown.alloc _) hgrow
      clear hgrow hown
      go_wp2
      go_roundw
      case rel => exact ⟨m / 128, p ++ [(m : Int) % 128 + 128], by omega, by go_num, by rw [← HP.out, Plain.numL_big hbig]; simp, by simpa using hown', hb'⟩
      case measure => simp [intOf]; omega
    · go_wp2_with (at_builtin; refine wpList_push rfl _ _ 26 rfl w.heap.size 5 i0 Tryz.underlying26 hi hz0 hz1 hz2 _ _ rfl (hown.alloc _) ⟨wr.heap.size, 0, none⟩ 1 (m : Int) rfl (by simp [go_sem]) (by omega) (by simp; omega) ?_)
      intro ao' cap' w1 hown' hgrow hnil
      have hb' := below_own (hb.alloc hsz _) (by simp; omega) (hown.alloc _) hgrow
      clear hgrow hown
      go_wp2
      go_ret
      have he := HP.out
      rw [Plain.numL_small (by omega)] at he
      refine ⟨ao', cap', by rw [← he]; simp, by rw [← he]; simpa using hown', hnil, hb'⟩

theorem number_int (n : Int) (w : World) (h0 : 0 ≤ n) (h1 : n < 18446744073709551616) :
    Calls Tryz.prog 97 #[.int .u64 n] w fun e w' => Made 5 w w' e (Plain.numL n.toNat) := by
  obtain ⟨m, rfl⟩ := Int.eq_ofNat_of_zero_le h0
  exact number_any m w (by omega)

set_option maxHeartbeats 400000 in
set_option maxRecDepth 100000 in
theorem join_any (ao : Option Addr) (cap : Nat) (L : List (List Int)) (w : World) (hp : Pieces w ao L) (hlen : L.length ≤ 9223372036854775807) (hsum : L.flatten.length ≤ 140737488355328) :
    Calls Tryz.prog 96 #[.slice ao L.length cap] w fun e w' => Made 5 w w' e L.flatten := by
  obtain ⟨i0, hi, hz0, hz1, hz2⟩ := info_parts Tryz.info5
  go_enter Tryz.func96, Tryz.ntmps96
  go_wp2
  go_loopw [3, 8] (fun v i wr => ∃ (k : Nat) (p : List Int) (ao' : Option Addr) (cap' : Nat), k ≤ L.length ∧ i = .int .i64 k ∧ p = (L.take k).flatten ∧ v = .slice ao' p.length cap' ∧ Own 5 wr w.heap.size (.slice ao' p.length cap') p ∧ (ao' = none → cap' = 0) ∧ Below w.heap.size w wr)
    (fun _ i _ => L.length - (intOf i).toNat)
  case atStart => exact ⟨0, [], none, 0, Nat.zero_le _, rfl, by simp, rfl, Own.nil _ _ _, by simp, Below.refl _ _⟩
  case round =>
    obtain ⟨k, p, ao', cap', hk, rfl, hpk, rfl, hown, hnil, hb⟩ := hrel
    have hsz := hb.size
    have HP : Hid (p = (L.take k).flatten) := hpk
    by_cases hlt : k < L.length
    · obtain ⟨l, hl⟩ : ∃ l, L[k]? = some l := ⟨_, List.getElem?_eq_getElem hlt⟩
      have hle : p.length + l.length ≤ 140737488355328 := by
        have h1 := flat_snoc L k l hl
        have h2 := flat_take_le L (k + 1)
        rw [h1, ← hpk, List.length_append] at h2
        omega
      have HL : Hid (L[k]? = some l) := hl
      cases ao with
      | none => have := hp.1 rfl; subst this; simp at hlt
      | some a =>
        obtain ⟨aj, cj, hc, hr, hn⟩ := (hp.below (w' := wr) hb).2 a rfl k l hl
        clear hl hpk
        obtain ⟨ab, aoff, aspot⟩ := a
        have hc0 : ∃ u, w.cell? ⟨ab, aoff, aspot⟩ = some u := by
          obtain ⟨_, _, h0, _⟩ := hp.2 _ rfl 0 (L[0]'(by omega)) (List.getElem?_eq_getElem _)
          exact ⟨_, by simpa [Addr.add] using h0⟩
        obtain ⟨_, hc0⟩ := hc0
        have hspot : aspot = none := World.cell?_spot hc0
        subst hspot
        rw [add_lit] at hc
        clear hc0
        go_wp2_with (at_builtin; refine wpList_append_rd rfl _ _ 26 rfl w.heap.size 5 i0 Tryz.underlying26 hi hz0 hz1 hz2 _ _ rfl hown aj cj l rfl hn hr hle hsz ?_)
        intro ao1 cap1 w1 hown' hgrow hnil'
        have hb' := below_own hb hsz hown hgrow
        clear hgrow hown hr hc
        go_wp2
        go_roundw
        case rel => exact ⟨k + 1, p ++ l, ao1, cap1, by omega, by go_num, by rw [flat_snoc L k l HL.out, ← HP.out], by simp, by simpa using hown', hnil', hb'⟩
        case measure => simp [intOf]; omega
    · clear hpk
      go_wp2
      go_ret
      have he : p = L.flatten := by rw [HP.out, List.take_of_length_le (by omega)]
      subst he
      exact ⟨ao', cap', rfl, hown, hnil, hb⟩

theorem Made.intro {e : TypeId} {w w1 w2 : World} {l : List Int} {x : Ending} (hb : Below w.heap.size w w1) (hs : w.heap.size ≤ w1.heap.size) (h : Made e w1 w2 x l) : Made e w w2 x l := by
  obtain ⟨ao, cap, rfl, hown, hn, hb2⟩ := h
  exact ⟨ao, cap, rfl, hown.lift hs, hn, hb.trans (hb2.mono hs)⟩

set_option maxHeartbeats 400000 in
set_option maxRecDepth 100000 in
theorem bytes_any (ao : Option Addr) (cap : Nat) (l : List Int) (w : World) (hr : Rd w ao l) (hn : ao = none → cap = 0) (hl : l.length + 10 ≤ 140737488355328) :
    Calls Tryz.prog 133 #[.slice ao l.length cap] w fun e w' => Made 5 w w' e (Plain.numL l.length ++ l) := by
  have h10 := Plain.numL_ten l.length (by omega)
  go_enter Tryz.func133, Tryz.ntmps133
  go_wp2_with (go_at_call 97; refine (number_any l.length _ (by omega)).mono ?_; rintro e w1 ⟨ao1, cap1, rfl, hown, hnil, hb⟩)
  go_wp2_with fail
  refine (join_any _ 2 [Plain.numL l.length, l] _ (Pieces.two ao1 ao cap1 cap _ _ 26 hown.rd (hr.below hb) hnil hn) (by simp) (by simp; omega)).mono ?_
  intro e w2 hm
  have hm2 : Made 5 w w2 e (Plain.numL l.length ++ l) := by
    have := hm.intro (hb.alloc hb.size _) (by have := hb.size; simp; omega)
    simpa using this
  clear hm
  obtain ⟨ao2, cap2, rfl, hown2, hnil2, hb2⟩ := hm2
  go_wp2
  go_ret
  exact ⟨ao2, cap2, by simp, hown2, hnil2, hb2⟩

end Go.Proofs.YtpepgoelnagoaaaGreatDoor
namespace Go.Proofs.YtpepgoelnagoaaaGreatDoor
open Go.RowKit Go.Shelf
set_option linter.unusedSimpArgs false
attribute [local go_sem] Oper.semAt_some

theorem ints_size (s : ByteArray) : (ints s.data.toList).length = s.size := by rw [ints_length, ← Lib.size_eq]
/-- The bytes of a text, in new memory. -/
theorem conv_str (s : ByteArray) (W : World) : ∃ c W', (convert 9 26 (.string s)).run Tryz.prog W = .ok (.slice (some ⟨W.heap.size, 0, none⟩) s.size c) W' ∧ Rd W' (some ⟨W.heap.size, 0, none⟩) (ints s.data.toList) ∧ Below W.heap.size W W' := by
  refine ⟨_, _, Lib.run_convert_string_bytes (P := Tryz.prog) W 9 26 5 s Tryz.underlying9 Tryz.underlying26 Tryz.underlying5, ⟨by simp, ?_⟩, ⟨rfl, rfl, rfl, by rw [Lib.bytesWorld_size]; omega, fun k hk => Lib.bytesWorld_at_old W 5 s k hk⟩⟩
  intro a ha j u hj
  cases ha
  rw [u8s_get] at hj
  have hl : s.data.toList.length = s.size := (Lib.size_eq s).symm
  have hjl : j < s.size := by
    cases hg : (ints s.data.toList)[j]? with
    | none => rw [hg] at hj; cases hj
    | some v => have := (List.getElem?_eq_some_iff.1 hg).1; rw [ints_size] at this; exact this
  rw [add_lit, Nat.zero_add, Lib.bytesWorld_cell W 5 s j hjl, ← hj]
  simp [ints, List.getD, List.getElem?_eq_getElem (show j < s.data.toList.length by omega)]
theorem exec_conv {ev : Operand → Value} {x : Operand} {T : TypeId} {s : ByteArray} {v : Value} {w w' : World} (hx : ev x = .string s) (hr : (convert 9 26 (.string s)).run Tryz.prog w = .ok v w') :
    (execOp ev { dst := none, op := .convert 9 26 x, type := T, pos := "", after := #[], guard := none }).run Tryz.prog w = .ok (.value v) w' := by
  simp [execOp, hx, hr, Result.andThen]
end Go.Proofs.YtpepgoelnagoaaaGreatDoor
namespace Go.Proofs.YtpepgoelnagoaaaGreatDoor
open Go.RowKit Go.Shelf
set_option linter.unusedSimpArgs false

theorem set3 {w : World} {R : Nat} {t : TypeId} {x y z x' y' z' : Value} (h : w.heap[R]? = some (.cells #[x, y, z] t (0, 0))) : (((w.setCell ⟨R, 0, none⟩ x').setCell ⟨R, 1, none⟩ y').setCell ⟨R, 2, none⟩ z').heap[R]? = some (.cells #[x', y', z'] t (0, 0)) := by
  rw [heap_setCell_same _ _ _ _ t _ (heap_setCell_same _ _ _ _ t _ (heap_setCell_same _ _ _ _ t _ h))]
  simp
end Go.Proofs.YtpepgoelnagoaaaGreatDoor
namespace Go.Proofs.YtpepgoelnagoaaaGreatDoor
open Go.RowKit

/-- At block R lies a reader with the bytes l before it; its bytes lie below S, in another block. -/
def Rdr (K : Nat → Prop) (t : TypeId) (w : World) (R S : Nat) (l : List Int) : Prop :=
  ∃ ao cap, w.heap[R]? = some (.cells #[.slice ao l.length cap, .bool true] t (0, 0)) ∧ Rd w ao l ∧ (ao = none → cap = 0) ∧ l.length ≤ cap ∧ cap ≤ 9223372036854775807 ∧
    (∀ a, ao = some a → (a.block < S ∧ K a.block) ∧ a.block ≠ R) ∧ R < S ∧ ∀ x ∈ l, 0 ≤ x ∧ x ≤ 255

variable {K : Nat → Prop}
theorem cell_blk {w : World} {R : Nat} {t : TypeId} {x y : Value} (h : w.heap[R]? = some (.cells #[x, y] t (0, 0))) : w.cell? ⟨R, 0, none⟩ = some x ∧ w.cell? ⟨R, 1, none⟩ = some y ∧ w.frozen? ⟨R, 0, none⟩ = false ∧ w.frozen? ⟨R, 1, none⟩ = false := by
  refine ⟨?_, ?_, ?_, ?_⟩
  · rw [cell_of_row w R 0 _ t (0, 0) h]; rfl
  · rw [cell_of_row w R 1 _ t (0, 0) h]; rfl
  · exact frozen_of_row w R 0 _ t h
  · exact frozen_of_row w R 1 _ t h

theorem grown_set (w : World) (R j : Nat) (v : Value) : w.grownBy (w.setCell ⟨R, j, none⟩ v) (some R) :=
  ⟨rfl, rfl, rfl, by simp, fun k _ hk => heap_setCell_other w ⟨R, j, none⟩ k v (fun e => hk (by simp [e]))⟩

theorem Rd.drop {w : World} {b off : Nat} {l : List Int} (h : Rd w (some ⟨b, off, none⟩) l) (k : Nat) : Rd w (some ⟨b, off + k, none⟩) (l.drop k) := by
  refine ⟨by simp, ?_⟩
  intro a ha j u hj
  cases ha
  have h1 := h.2 _ rfl (k + j) u (by rw [u8s_get] at hj ⊢; rw [List.getElem?_drop] at hj; exact hj)
  rw [add_lit] at h1 ⊢
  rw [Nat.add_assoc]
  exact h1

/-- The reader's slice is moved on. -/
theorem Rdr.step {t : TypeId} {w : World} {R S k cap off' cap' ab aoff : Nat} {l : List Int} (h : w.heap[R]? = some (.cells #[.slice (some ⟨ab, aoff, none⟩) l.length cap, .bool true] t (0, 0)))
    (hr : Rd w (some ⟨ab, aoff, none⟩) l) (hlc : l.length ≤ cap) (hcm : cap ≤ 9223372036854775807) (hab : ab < S ∧ K ab) (hne : ab ≠ R) (hR : R < S) (h8 : ∀ x ∈ l, 0 ≤ x ∧ x ≤ 255) (hk : k ≤ l.length)
    (hoff : (cap = k ∧ cap' = 0) ∨ (off' = aoff + k ∧ cap' = cap - k)) :
    Rdr K t (w.setCell ⟨R, 0, none⟩ (.slice (some ⟨ab, off', none⟩) (l.length - k) cap')) R S (l.drop k) ∧ w.grownBy (w.setCell ⟨R, 0, none⟩ (.slice (some ⟨ab, off', none⟩) (l.length - k) cap')) (some R) := by
  have hg := grown_set w R 0 (.slice (some ⟨ab, off', none⟩) (l.length - k) cap')
  refine ⟨⟨some ⟨ab, off', none⟩, cap', ?_, ?_, by simp, ?_, ?_, ?_, hR, fun x hx => h8 x (List.mem_of_mem_drop hx)⟩, hg⟩
  · rw [heap_setCell_same w R 0 _ t _ h]; simp
  · have h1 : Rd w (some ⟨ab, off', none⟩) (l.drop k) := by
      rcases hoff with ⟨h1, h2⟩ | ⟨rfl, _⟩
      · have : l.drop k = [] := List.drop_eq_nil_of_le (by omega)
        rw [this]; exact Rd.nil _ _
      · exact hr.drop k
    exact h1.grown hg (by intro a ha; cases ha; simpa using hne)
  · simp; omega
  · omega
  · intro a ha; cases ha; exact ⟨hab, hne⟩

/-- A reader stays where other blocks are written. -/
theorem Rdr.kept {t : TypeId} {w w' : World} {R S : Nat} {l : List Int} {row : Option Nat} (h : Rdr K t w R S l) (hg : w.grownBy w' row) (hrow : ∀ k, row = some k → S ≤ k) : Rdr K t w' R S l := by
  obtain ⟨ao, cap, h1, h2, h3, h4, h5, h6, h7, h8⟩ := h
  refine ⟨ao, cap, ?_, h2.grown hg ?_, h3, h4, h5, h6, h7, h8⟩
  · rw [hg.block R (Array.getElem?_eq_some_iff.1 h1).1 (fun e => by have := hrow R e.symm; omega)]; exact h1
  · intro a ha e
    have := hrow a.block e.symm
    have := (h6 a ha).1
    omega

end Go.Proofs.YtpepgoelnagoaaaGreatDoor
namespace Go.Proofs.YtpepgoelnagoaaaGreatDoor
open Go.RowKit
variable {K : Nat → Prop}

theorem Rdr.cells {t : TypeId} {w : World} {R S : Nat} {l : List Int} (h : Rdr K t w R S l) : ∃ ao cap, w.cell? ⟨R, 0, none⟩ = some (.slice ao l.length cap) ∧ w.cell? ⟨R, 1, none⟩ = some (.bool true) ∧ w.frozen? ⟨R, 0, none⟩ = false ∧ w.frozen? ⟨R, 1, none⟩ = false ∧ R < w.heap.size ∧ l.length ≤ 9223372036854775807 := by
  obtain ⟨ao, cap, h1, _, _, h4, h5, _⟩ := h
  obtain ⟨c0, c1, f0, f1⟩ := cell_blk h1
  exact ⟨ao, cap, c0, c1, f0, f1, (Array.getElem?_eq_some_iff.1 h1).1, by omega⟩

/-- What else a reader's cell tells. -/
theorem Rdr.more {t : TypeId} {w : World} {R S cap : Nat} {ao : Option Addr} {l : List Int} (h : Rdr K t w R S l) (c0 : w.cell? ⟨R, 0, none⟩ = some (.slice ao l.length cap)) : Rd w ao l ∧ (ao = none → cap = 0) ∧ l.length ≤ cap ∧ cap ≤ 9223372036854775807 := by
  obtain ⟨ao', cap', a1, a2, a3, a4, a5, _⟩ := h
  obtain ⟨d0, _⟩ := cell_blk a1
  rw [d0] at c0
  simp only [Option.some.injEq, Value.slice.injEq, true_and] at c0
  obtain ⟨rfl, rfl⟩ := c0
  exact ⟨a2, a3, a4, a5⟩

theorem after {w w' : World} {R : Nat} {x y : Value} (hb : Below w.heap.size w w') (hR : R < w.heap.size) (y0 : w.cell? ⟨R, 0, none⟩ = some x) (y1 : w.cell? ⟨R, 1, none⟩ = some y) (g0 : w.frozen? ⟨R, 0, none⟩ = false) (g1 : w.frozen? ⟨R, 1, none⟩ = false) :
    w'.cell? ⟨R, 0, none⟩ = some x ∧ w'.cell? ⟨R, 1, none⟩ = some y ∧ w'.frozen? ⟨R, 0, none⟩ = false ∧ w'.frozen? ⟨R, 1, none⟩ = false :=
  ⟨(hb.cell (p := ⟨R, 0, none⟩) hR).trans y0, (hb.cell (p := ⟨R, 1, none⟩) hR).trans y1, (hb.frozen (p := ⟨R, 0, none⟩) hR).trans g0, (hb.frozen (p := ⟨R, 1, none⟩) hR).trans g1⟩

theorem add_add (a : Addr) (k j : Nat) : (a.add k).add j = a.add (k + j) := by
  unfold Addr.add
  by_cases hk : k = 0
  · subst hk; simp
  · by_cases hj : j = 0
    · subst hj; simp [hk]
    · simp [hk, hj]; omega

/-- The reader's slice is moved on, whatever its address. -/
theorem Rdr.move {t : TypeId} {w : World} {R S k cap cap' m : Nat} {ao ao' : Option Addr} {l : List Int} (h : Rdr K t w R S l) (c0 : w.cell? ⟨R, 0, none⟩ = some (.slice ao l.length cap)) (hk : k ≤ l.length)
    (hoff : (cap = k ∧ ao' = ao ∧ cap' = 0) ∨ (ao' = ao.map (fun x => x.add k) ∧ cap' = cap - k)) (hm : m = l.length - k) :
    Rdr K t (w.setCell ⟨R, 0, none⟩ (.slice ao' m cap')) R S (l.drop k) ∧ w.grownBy (w.setCell ⟨R, 0, none⟩ (.slice ao' m cap')) (some R) := by
  subst hm
  have hg := grown_set w R 0 (.slice ao' (l.length - k) cap')
  refine ⟨?_, hg⟩
  obtain ⟨ao2, cap2, a1, a2, a3, a4, a5, a6, a7, a8⟩ := h
  obtain ⟨d0, _⟩ := cell_blk a1
  rw [d0] at c0
  simp only [Option.some.injEq, Value.slice.injEq, true_and] at c0
  obtain ⟨rfl, rfl⟩ := c0
  have hrd : Rd w ao' (l.drop k) ∧ (ao' = none → cap' = 0) ∧ ∀ a, ao' = some a → (a.block < S ∧ K a.block) ∧ a.block ≠ R := by
    rcases hoff with ⟨h1, rfl, rfl⟩ | ⟨rfl, rfl⟩
    · rw [List.drop_eq_nil_of_le (by omega)]
      exact ⟨Rd.nil _ _, fun _ => rfl, a6⟩
    · cases ao2 with
      | none =>
        have := a2.1 rfl
        have := a3 rfl
        refine ⟨?_, fun _ => by omega, by simp⟩
        simp only [Option.map_none]
        rw [a2.1 rfl]
        simpa using Rd.nil _ _
      | some a =>
        refine ⟨⟨by simp, ?_⟩, by simp, ?_⟩
        · intro a' ha' j u hj
          simp only [Option.map_some, Option.some.injEq] at ha'
          subst ha'
          rw [add_add]
          exact a2.2 a rfl (k + j) u (by rw [u8s_get] at hj ⊢; rw [List.getElem?_drop] at hj; exact hj)
        · intro a' ha'
          simp only [Option.map_some, Option.some.injEq] at ha'
          subst ha'
          have : (a.add k).block = a.block := by unfold Addr.add; split <;> rfl
          rw [this]
          exact a6 a rfl
  obtain ⟨r1, r2, r3⟩ := hrd
  refine ⟨ao', cap', ?_, r1.grown hg (fun a ha => by have := (r3 a ha).2; simpa using this), r2, ?_, ?_, r3, a7, fun x hx => a8 x (List.mem_of_mem_drop hx)⟩
  · rw [heap_setCell_same w R 0 _ t _ a1]; simp
  · simp; omega
  · omega

/-- The address of bytes that are there has no spot. -/
theorem Rd.plain {w : World} {ao : Option Addr} {b : Int} {l : List Int} (h : Rd w ao (b :: l)) : ∃ ab off, ao = some ⟨ab, off, none⟩ ∧ w.cell? ⟨ab, off, none⟩ = some (.int .u8 b) := by
  cases ao with
  | none => have := h.1 rfl; simp at this
  | some a =>
    obtain ⟨ab, off, sp⟩ := a
    have hc := h.2 _ rfl 0 (.int .u8 b) (by simp [u8s])
    simp only [Addr.add, if_true] at hc
    have hs : sp = none := World.cell?_spot hc
    subst hs
    exact ⟨ab, off, rfl, hc⟩

/-! ### Readers that are not there: nil, and a zero one -/

end Go.Proofs.YtpepgoelnagoaaaGreatDoor
namespace Go.Proofs.YtpepgoelnagoaaaGreatDoor
open Go.RowKit

/-- At block D lies the document's reader of the bytes LB, with l before it. -/
def Doc (T : Nat) (w : World) (D : Nat) (LB l : List Int) : Prop :=
  ∃ bo cap at', w.heap[D]? = some (.cells #[.slice bo LB.length cap, .int .i64 ((at' : Nat) : Int)] 56 (0, 0)) ∧ Rd w bo LB ∧ (bo = none → cap = 0) ∧ LB.length ≤ cap ∧ cap ≤ 9223372036854775807 ∧ LB.length ≤ 1048576 ∧
    ((LB ≠ [] → ∀ a, bo = some a → a.block < T) ∧ T ≤ D) ∧ (∀ x ∈ LB, 0 ≤ x ∧ x ≤ 255) ∧ at' ≤ LB.length ∧ l = LB.drop at'

variable {T : Nat}

theorem Doc.le {w : World} {D : Nat} {LB l : List Int} (h : Doc T w D LB l) : T ≤ D := by
  obtain ⟨_, _, _, _, _, _, _, _, _, h7, _⟩ := h
  exact h7.2

theorem Rd.grownL {w w' : World} {ao : Option Addr} {l : List Int} {row : Option Nat} (h : Rd w ao l) (hg : w.grownBy w' row) (hne : l ≠ [] → ∀ a, ao = some a → some a.block ≠ row) : Rd w' ao l := by
  cases l with
  | nil => exact Rd.nil _ _
  | cons b r => exact h.grown hg (hne (by simp))

/-- The document's reader is at another place. -/
theorem Doc.set {w : World} {D at2 cap : Nat} {bo : Option Addr} {LB l2 : List Int} {y : Value} (h : w.heap[D]? = some (.cells #[.slice bo LB.length cap, y] 56 (0, 0))) (hr : Rd w bo LB) (hn : bo = none → cap = 0) (hc : LB.length ≤ cap) (hm : cap ≤ 9223372036854775807) (hz : LB.length ≤ 1048576)
    (hb : (LB ≠ [] → ∀ a, bo = some a → a.block < T) ∧ T ≤ D) (h8 : ∀ x ∈ LB, 0 ≤ x ∧ x ≤ 255) (ha : at2 ≤ LB.length) (hl : l2 = LB.drop at2) :
    Doc T (w.setCell ⟨D, 1, none⟩ (.int .i64 ((at2 : Nat) : Int))) D LB l2 ∧ w.grownBy (w.setCell ⟨D, 1, none⟩ (.int .i64 ((at2 : Nat) : Int))) (some D) := by
  have hg := grown_set w D 1 (.int .i64 ((at2 : Nat) : Int))
  refine ⟨⟨bo, cap, at2, ?_, hr.grownL hg (fun hne a ha' => by have := hb.1 hne a ha'; have := hb.2; simp; omega), hn, hc, hm, hz, hb, h8, ha, hl⟩, hg⟩
  rw [heap_setCell_same w D 1 _ 56 _ h]; simp

theorem Doc.put {w : World} {D at2 cap n : Nat} {bo : Option Addr} {LB l2 : List Int} {y : Value} {q : Int} (h : w.heap[D]? = some (.cells #[.slice bo LB.length cap, y] 56 (0, 0))) (hr : Rd w bo LB) (hn : bo = none → cap = 0) (hc : LB.length ≤ cap) (hm : cap ≤ 9223372036854775807) (hz : LB.length ≤ 1048576)
    (hb : (LB ≠ [] → ∀ a, bo = some a → a.block < T) ∧ T ≤ D) (h8 : ∀ x ∈ LB, 0 ≤ x ∧ x ≤ 255) (ha : at2 ≤ LB.length) (hl : l2 = LB.drop at2) (hq : q = (at2 : Int)) :
    Doc T ((w.drewN n).setCell ⟨D, 1, none⟩ (.int .i64 q)) D LB l2 ∧ w.grownBy ((w.drewN n).setCell ⟨D, 1, none⟩ (.int .i64 q)) (some D) := by
  subst hq
  obtain ⟨r1, r2⟩ := Doc.set (w := w.drewN n) h hr hn hc hm hz hb h8 ha hl
  exact ⟨r1, ⟨r2.os, r2.tape, r2.output, r2.size, r2.block⟩⟩

theorem Doc.kept {w w' : World} {D : Nat} {LB l : List Int} {row : Option Nat} (h : Doc T w D LB l) (hg : w.grownBy w' row) (h1 : ∀ k, row = some k → k ≠ D ∧ T ≤ k) : Doc T w' D LB l := by
  obtain ⟨bo, cap, at', e1, e2, e3, e4, e5, e6, e7, e8, e9, e10⟩ := h
  refine ⟨bo, cap, at', ?_, e2.grownL hg ?_, e3, e4, e5, e6, e7, e8, e9, e10⟩
  · rw [hg.block D (Array.getElem?_eq_some_iff.1 e1).1 (fun e => by have := h1 D e.symm; omega)]; exact e1
  · intro hne a ha e
    have := e7.1 hne a ha
    have := h1 a.block e.symm
    omega

end Go.Proofs.YtpepgoelnagoaaaGreatDoor
namespace Go.Proofs.YtpepgoelnagoaaaGreatDoor
open Go.RowKit

variable {T : Nat}

theorem Rd.sub {w : World} {ao : Option Addr} {l : List Int} (h : Rd w ao l) (k : Nat) : Rd w (ao.map (fun x => x.add k)) (l.drop k) := by
  cases ao with
  | none => refine ⟨fun _ => ?_, by simp⟩; rw [h.1 rfl]; simp
  | some a =>
    refine ⟨by simp, ?_⟩
    intro a' ha' j u hj
    simp only [Option.map_some, Option.some.injEq] at ha'
    subst ha'
    rw [add_add]
    exact h.2 a rfl (k + j) u (by rw [u8s_get] at hj ⊢; rw [List.getElem?_drop] at hj; exact hj)

/-! ### Bytes -/

/-- The cells of the document's reader. -/
theorem Doc.cells {w : World} {D : Nat} {LB l : List Int} (h : Doc T w D LB l) : ∃ bo cap at', w.cell? ⟨D, 0, none⟩ = some (.slice bo LB.length cap) ∧ w.cell? ⟨D, 1, none⟩ = some (.int .i64 ((at' : Nat) : Int)) ∧ w.frozen? ⟨D, 1, none⟩ = false ∧ D < w.heap.size ∧ at' ≤ LB.length ∧ LB.length ≤ 1048576 ∧ Hid (l = LB.drop at') ∧ LB.length ≤ cap ∧ Rd w bo LB ∧ (bo = none → cap = 0) ∧ ∀ x ∈ LB, 0 ≤ x ∧ x ≤ 255 := by
  obtain ⟨bo, cap, at', h1, h2, h3, h4, h5, hz, h6, h7, h8, h9⟩ := h
  obtain ⟨c0, c1, _, f1⟩ := cell_blk h1
  exact ⟨bo, cap, at', c0, c1, f1, (Array.getElem?_eq_some_iff.1 h1).1, h8, hz, h9, h4, h2, h3, h7⟩

end Go.Proofs.YtpepgoelnagoaaaGreatDoor
namespace Go.Proofs.YtpepgoelnagoaaaGreatDoor
open Go.RowKit Go.Shelf
variable {K : Nat → Prop}
set_option linter.unusedSimpArgs false
variable {T : Nat}
attribute [local go_sem] Oper.semAt_some

theorem wrap_not (n : Int) (h0 : -9223372036854775808 ≤ n) (h1 : n < 0) : IntKind.u64.wrap (IntKind.u64.wrap (2 * IntKind.u64.wrap (-1 - n)) + 1) = 2 * (-1 - n) + 1 := by
  simp [IntKind.wrap, IntKind.bits, IntKind.signed]; omega
set_option maxHeartbeats 400000 in
set_option maxRecDepth 100000 in
theorem signed_any (n : Int) (w : World) (h0 : -9223372036854775808 ≤ n) (h1 : n ≤ 9223372036854775807) :
    Calls Tryz.prog 134 #[.int .i64 n] w fun e w' => Made 5 w w' e (Plain.numL (Plain.fold n)) := by
  by_cases hneg : n < 0
  · have hx := i64_not_any n h0 h1
    have hu := wrap_not n h0 hneg
    have HF : Hid (Plain.fold n = (2 * (-1 - n) + 1).toNat) := by show Plain.fold n = _; unfold Plain.fold; rw [if_pos hneg]; omega
    go_enter Tryz.func134, Tryz.ntmps134
    go_wp2_with (go_at_call 97; refine (number_int _ _ (by omega) (by omega)).mono ?_; rintro e w1 ⟨ao, cap, rfl, hown, hnil, hb⟩)
    go_ret
    rw [HF.out]
    exact ⟨ao, cap, rfl, hown, hnil, hb⟩
  · have HF : Hid (Plain.fold n = (2 * n).toNat) := by show Plain.fold n = _; unfold Plain.fold; rw [if_neg hneg]
    go_enter Tryz.func134, Tryz.ntmps134
    go_wp2_with (go_at_call 97; refine (number_int _ _ (by omega) (by omega)).mono ?_; rintro e w1 ⟨ao, cap, rfl, hown, hnil, hb⟩)
    go_ret
    rw [HF.out]
    exact ⟨ao, cap, rfl, hown, hnil, hb⟩

end Go.Proofs.YtpepgoelnagoaaaGreatDoor
namespace Go.Proofs.YtpepgoelnagoaaaGreatDoor
open Go.RowKit Go.Shelf
set_option linter.unusedSimpArgs false
attribute [local go_sem] Oper.semAt_some

theorem wpList_turn {P : Program} {ops : Array Oper} {rest : List Oper} {o : Oper} {a : Act} {w w' : World} {Q : Exit → Act → World → Prop} {OP : Op} {T : TypeId} {v : Value} (hgd : o.guard = none) (ho : o.op = OP) (ht : o.type = T)
    (hy : (execOp a.eval { dst := none, op := OP, type := T, pos := "", after := #[], guard := none }).run P w = .ok (.value v) w') (h : wpList P ops Q rest (a.put o.dst v) w') : wpList P ops Q (o :: rest) a w :=
  wpList_plain hgd fun K hK => by
    unfold Oper.wp
    rw [exec_same a.eval o ho ht, hy]
    exact hK _ _ h
theorem fn_nil137 (f : Fn) (x y : Array Value) (w : World) : (binOp .eql 137 (.func f x y) .nilFunc).run Tryz.prog w = .ok (.bool false) w := by kernel_rfl

set_option maxHeartbeats 1000000 in
set_option maxRecDepth 100000 in
theorem textForm_any (s : ByteArray) (w : World) (hs : s.size ≤ 1000000) : Calls Tryz.prog 99 #[.string s] w fun e w' => Made 5 w w' e (frB s) := by
  obtain ⟨c, W', hcv, hR, hB⟩ := conv_str s w
  have h := bytes_any (some ⟨w.heap.size, 0, none⟩) c (ints s.data.toList) W' hR (by intro e; cases e) (by rw [ints_size]; omega)
  rw [ints_size] at h
  replace h : Calls Tryz.prog 133 #[.slice (some ⟨w.heap.size, 0, none⟩) s.size c] W' fun e w' => Made 5 W' w' e (frB s) := h
  generalize frB s = L at h ⊢
  go_enter Tryz.func99, Tryz.ntmps99
  go_wp2_with (first
    | (refine wpList_turn (OP := .convert 9 26 (.tmp 3)) (T := 26) rfl rfl rfl (exec_conv rfl hcv) ?_)
    | (go_at_call 133; refine h.mono ?_; rintro e w2 hm; obtain ⟨a2, c2, rfl, ho2, hn2, hb2⟩ := hm.intro hB hB.size; clear hm))
  go_ret
  exact ⟨a2, c2, rfl, ho2, hn2, hb2⟩

/-- What a call that answers new bytes and no error leaves. -/
def MadeT (w w' : World) (x : Ending) (l : List Int) : Prop :=
  ∃ ao cap, x = .returned (.tuple #[.slice ao l.length cap, .int .i64 0]) ∧ Own 5 w' w.heap.size (.slice ao l.length cap) l ∧ (ao = none → cap = 0) ∧ Below w.heap.size w w'
theorem flatF_snoc {α : Type} (f : α → List Int) (l : List α) (k : Nat) (x : α) (h : l[k]? = some x) : (l.take (k + 1)).flatMap f = (l.take k).flatMap f ++ f x := by
  obtain ⟨hk, h2⟩ := List.getElem?_eq_some_iff.1 h
  rw [List.take_succ_eq_append_getElem hk, h2]
  simp

set_option maxHeartbeats 2000000 in
set_option maxRecDepth 100000 in
theorem putS_any (ao : Option Addr) (cap : Nat) (ps : List ByteArray) (w : World) (hr : Rs w ao ps) (hf : ∀ s ∈ ps, s.size ≤ 1000000) (hlen : ps.length ≤ 100000) :
    Calls Tryz.prog 132 #[.slice ao ps.length cap, .func (.func 99) #[] #[]] w fun e w' => MadeT w w' e (frP ps) := by
  obtain ⟨i0, hi, hz0, hz1, hz2⟩ := info_parts Tryz.info5
  have q := fn_nil137
  have h10 := Plain.numL_ten ps.length (by omega)
  go_enter Tryz.func132, Tryz.ntmps132
  go_wp2_with (go_at_call 97; refine (number_any ps.length _ (by omega)).mono ?_; rintro e w1 ⟨ao1, cap1, rfl, hown1, hnil1, hb1⟩)
  go_loopw [6, 17] (fun v i wr => ∃ (k : Nat) (p : List Int) (ao' : Option Addr) (cap' : Nat), k ≤ ps.length ∧ i = .int .i64 k ∧ p = Plain.numL ps.length ++ (ps.take k).flatMap frB ∧ v = .slice ao' p.length cap' ∧ Own 5 wr w.heap.size (.slice ao' p.length cap') p ∧ (ao' = none → cap' = 0) ∧ Below w.heap.size w wr)
    (fun _ i _ => ps.length - (intOf i).toNat)
  case atStart => exact ⟨0, _, ao1, cap1, Nat.zero_le _, rfl, rfl, by simp, by simpa using hown1, hnil1, hb1⟩
  case round =>
    obtain ⟨k, p, ao', cap', hk, rfl, hpk, rfl, hown, hnil, hb⟩ := hrel
    have hsz := hb.size
    have HP : Hid (p = Plain.numL ps.length ++ (ps.take k).flatMap frB) := hpk
    have hple : p.length ≤ 10 + 1000010 * ps.length := by
      rw [hpk, List.length_append]
      have h1 := flat_len (f := frB) (l := ps.take k) (B := 1000010) (fun x hx => by
        have h2 := hf x (List.mem_of_mem_take hx)
        have := frB_len x (by omega)
        omega)
      rw [List.length_take] at h1
      have : 1000010 * min k ps.length ≤ 1000010 * ps.length := Nat.mul_le_mul_left _ (by omega)
      omega
    clear hpk
    by_cases hlt : k < ps.length
    · obtain ⟨x, hx⟩ : ∃ q, ps[k]? = some q := ⟨_, List.getElem?_eq_getElem hlt⟩
      have hxs := hf x (List.mem_of_getElem? hx)
      obtain ⟨ab, aoff, rfl, e0⟩ := (hr.below hb).at hx
      have HX := hide hx
      clear hx
      obtain ⟨m, hm⟩ : ∃ m, m = frB x := ⟨_, rfl⟩
      have hform : ∀ w0, Calls Tryz.prog 99 #[.string x] w0 fun e w' => Made 5 w0 w' e m := fun w0 => by rw [hm]; exact textForm_any x w0 hxs
      have hml : m.length ≤ 1000010 := by have := frB_len x (by omega); rw [hm]; omega
      have HM : Hid (m = frB x) := hm
      clear hm
      go_wp2_with fail
      refine (hform _).mono ?_
      rintro e w2 ⟨ao2, cap2, rfl, hown2, hnil2, hb2⟩
      have hownA := hown.below hb2
      have hbA : Below w.heap.size w w2 := hb.trans (hb2.mono hsz)
      have hsz2 := hbA.size
      clear hown
      go_wp2_with (at_builtin; refine wpList_append_rd rfl _ _ 26 rfl w.heap.size 5 i0 Tryz.underlying26 hi hz0 hz1 hz2 _ _ rfl hownA ao2 cap2 m rfl hnil2 hown2.rd (by omega) hsz2 ?_)
      intro ao3 cap3 w3 hown3 hgrow hnil3
      have hb3 := below_own hbA hsz2 hownA hgrow
      clear hgrow hownA hown2
      go_wp2
      go_roundw
      case rel => exact ⟨k + 1, p ++ m, ao3, cap3, by omega, by go_num, by rw [flatF_snoc frB ps k x HX.out, HM.out, HP.out, List.append_assoc], by simp, by simpa using hown3, hnil3, hb3⟩
      case measure => simp [intOf]; omega
    · go_wp2
      (try rw [Exit.noGoto_ret])
      go_ret2
      have he : p = frP ps := by rw [HP.out, List.take_of_length_le (by omega)]; rfl
      subst he
      exact ⟨ao', cap', rfl, hown, hnil, hb⟩

set_option maxHeartbeats 1000000 in
set_option maxRecDepth 100000 in
theorem listS_any (ao : Option Addr) (cap : Nat) (ps : List ByteArray) (w : World) (hr : Rs w ao ps) (hf : ∀ s ∈ ps, s.size ≤ 1000000) (hlen : ps.length ≤ 100000) :
    Calls Tryz.prog 98 #[.slice ao ps.length cap, .func (.func 99) #[] #[]] w fun e w' => Made 5 w w' e (frP ps) := by
  have h := putS_any ao cap ps w hr hf hlen
  generalize frP ps = L at h ⊢
  go_enter Tryz.func98, Tryz.ntmps98
  go_wp2_with (go_at_call 132; refine h.mono ?_; rintro e w1 ⟨a1, c1, rfl, ho1, hn1, hb1⟩)
  go_ret
  exact ⟨a1, c1, rfl, ho1, hn1, hb1⟩

/-- The cells of an operation that was laid in a block of its own. -/
def Op6 (W : World) (B : Nat) (pa : Option Addr) (m pc : Nat) (o : Od) : Prop :=
  W.cell? ⟨B, 0, none⟩ = some (.slice pa m pc) ∧ W.cell? ⟨B, 1, none⟩ = some (.int .i64 o.k) ∧ W.cell? ⟨B, 2, none⟩ = some (.string o.s) ∧ W.cell? ⟨B, 3, none⟩ = some (.int .i64 o.d) ∧ W.cell? ⟨B, 4, none⟩ = some (.int .i64 o.n) ∧ W.cell? ⟨B, 5, none⟩ = some (.string o.t)
abbrev odv (pa : Option Addr) (m pc : Nat) (o : Od) : Value := Ki.opv pa m pc o.k o.s o.d o.n o.t
abbrev odC (pa : Option Addr) (m pc : Nat) (o : Od) : Array Value := #[.slice pa m pc, .int .i64 o.k, .string o.s, .int .i64 o.d, .int .i64 o.n, .string o.t]
theorem op6_of {W : World} {B : Nat} {pa : Option Addr} {m pc : Nat} {o : Od} (h : W.heap[B]? = some (.cells (odC pa m pc o) 34 (0, 0))) : Op6 W B pa m pc o :=
  ⟨(cell_of_row _ _ 0 _ 34 (0, 0) h).trans rfl, (cell_of_row _ _ 1 _ 34 (0, 0) h).trans rfl, (cell_of_row _ _ 2 _ 34 (0, 0) h).trans rfl, (cell_of_row _ _ 3 _ 34 (0, 0) h).trans rfl, (cell_of_row _ _ 4 _ 34 (0, 0) h).trans rfl, (cell_of_row _ _ 5 _ 34 (0, 0) h).trans rfl⟩
theorem op6_new (w : World) (pa : Option Addr) (m pc : Nat) (o : Od) : (w.alloc (.cells (odC pa m pc o) 34)).heap[w.heap.size]? = some (.cells (odC pa m pc o) 34 (0, 0)) := heap_alloc_new _ _

set_option maxHeartbeats 2000000 in
set_option maxRecDepth 100000 in
theorem named_any (pa : Option Addr) (m pc : Nat) (o : Od) (w : World) (ho : OkO o) (hn : I64 o.n) : Calls Tryz.prog 100 #[odv pa m pc o] w fun e w' => Made 5 w w' e (frN o) := by
  obtain ⟨p, k, s, d, n, t⟩ := o
  have ht := ho.text
  dsimp only at ht hn
  obtain ⟨w0, hw0⟩ : ∃ q, q = w.alloc (.cells (odC pa m pc ⟨p, k, s, d, n, t⟩) 34) := ⟨_, rfl⟩
  have hb0 : Below w.heap.size w w0 := by rw [hw0]; exact (Below.refl _ w).alloc (Nat.le_refl _) _
  obtain ⟨x0, x1, x2, x3, x4, x5⟩ := op6_of (op6_new w pa m pc ⟨p, k, s, d, n, t⟩)
  rw [← hw0] at x0 x1 x2 x3 x4 x5
  dsimp only at x0 x1 x2 x3 x4 x5
  have HB := hide hb0
  have HW := hide hw0
  clear hb0 hw0 ho
  have e100 : frN ⟨p, k, s, d, n, t⟩ = if d = 1 then Plain.numL (Plain.fold n) else if d = 6 then [] else frB t := rfl
  rw [e100]
  by_cases h1 : d = 1
  · subst h1
    rw [if_pos rfl]
    have h := fun W => signed_any n W hn.1 hn.2
    generalize Plain.numL (Plain.fold n) = L at h ⊢
    go_enter Tryz.func100, Tryz.ntmps100
    go_upto_region 1 with fail
    rw [← HW.out]
    go_wp2_with (go_at_call 134; refine (h _).mono ?_; rintro e w1 hm; obtain ⟨a1, c1, rfl, ho1, hn1, hb1⟩ := hm.intro HB.out HB.out.size; clear hm)
    go_ret
    exact ⟨a1, c1, rfl, ho1, hn1, hb1⟩
  have e1 : (d == 1) = false := by simpa using h1
  rw [if_neg h1]
  by_cases h6 : d = 6
  · subst h6
    rw [if_pos rfl]
    go_enter Tryz.func100, Tryz.ntmps100
    go_upto_region 1 with fail
    rw [← HW.out]
    go_wp2
    go_ret
    exact ⟨none, 0, rfl, Own.nil _ _ _, fun _ => rfl, HB.out⟩
  have e6 : (d == 6) = false := by simpa using h6
  rw [if_neg h6]
  have h := fun W => textForm_any t W (by omega)
  generalize frB t = L at h ⊢
  go_enter Tryz.func100, Tryz.ntmps100
  go_upto_region 1 with fail
  rw [← HW.out]
  go_wp2_with (go_at_call 99; refine (h _).mono ?_; rintro e w1 hm; obtain ⟨a1, c1, rfl, ho1, hn1, hb1⟩ := hm.intro HB.out HB.out.size; clear hm)
  go_ret
  exact ⟨a1, c1, rfl, ho1, hn1, hb1⟩
end Go.Proofs.YtpepgoelnagoaaaGreatDoor
