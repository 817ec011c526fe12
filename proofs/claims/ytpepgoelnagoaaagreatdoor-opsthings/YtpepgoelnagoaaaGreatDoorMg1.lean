/-
  SMALL LAWS for walks over slices of bytes: a slice that the call owns ('Own'), one that can be read ('Rd'), what a law on append leaves, strings of bytes. It names no function of the program.
  ARRAYS BY VALUE AND BLOCKS OF CELLS: a whole array out of a block, into a block, handed back; cells that lie in a block under stores and under calls. It names no function and no type of the program.
  BYTES: bytes that can be read, one by one, in part, as strings; slices of slices; a byte of what is owned is written; literals. 26 stands for the type of slices of bytes; 5 and 9 are those of bytes and of strings.
-/
import Derived.WalkKit
import Derived.WalkSpells
import Derived.WalkLawsBesides
import Derived.Laws.AppendOwnNone
import Derived.Laws.BytesArg
import Derived.Deep.WholeRow
import Derived.Deep.MidRow
import Derived.Laws.ResultCell
import Derived.Test.YtpepgoelnagoaaaGreatDoorRows
import Derived.Lib.SlBytesConst
import Derived.Laws.BitsAllLaws
namespace Go.Proofs.YtpepgoelnagoaaaGreatDoor
open Go.RowKit

/-- Bytes as cells. -/
def u8s (l : List Int) : List Value := l.map (Value.int .u8)
theorem u8s_append (a b : List Int) : u8s (a ++ b) = u8s a ++ u8s b := by simp [u8s]
theorem u8s_get (l : List Int) (j : Nat) : (u8s l)[j]? = l[j]?.map (Value.int .u8) := by simp [u8s]
theorem u8s_one {l : List Int} : ∀ u ∈ u8s l, u.oneCell' = true := by
  intro u hu; simp [u8s] at hu; obtain ⟨x, _, rfl⟩ := hu; rfl

/-- The slice value v owns the bytes l, in a block from B on. -/
def Own (e : TypeId) (w : World) (B : Nat) (v : Value) (l : List Int) : Prop := w.ownsRow B e 1 v l.length (u8s l)

/-- Behind this address lie the bytes l. -/
def Rd (w : World) (ao : Option Addr) (l : List Int) : Prop :=
  (ao = none → l = []) ∧ ∀ a, ao = some a → ∀ j u, (u8s l)[j]? = some u → w.cell? (a.add j) = some u

theorem add_lit (g off j : Nat) : (⟨g, off, none⟩ : Addr).add j = ⟨g, off + j, none⟩ := by
  unfold Addr.add; split <;> simp_all

theorem Own.shape {e : TypeId} {w : World} {B : Nat} {v : Value} {l : List Int} (h : Own e w B v l) : ∃ ao cap, v = .slice ao l.length cap ∧ Rd w ao l ∧ (∀ a, ao = some a → B ≤ a.block ∧ a.block < w.heap.size) := by
  have hlt := World.ownsRow.lt h
  have hcells := fun g => World.ownsRow.cells h (g := g)
  rcases h.2 with ⟨rfl, hn⟩ | ⟨g, cap, cur, rfl, hb, hg, rest⟩
  · refine ⟨none, 0, by rw [hn], ⟨fun _ => List.eq_nil_of_length_eq_zero hn, by simp⟩, by simp⟩
  · refine ⟨some ⟨g, 0, none⟩, cap, rfl, ⟨by simp, ?_⟩, ?_⟩
    · intro a ha j u hj
      cases ha
      exact hcells g rfl j u hj
    · intro a ha
      cases ha
      exact hlt g rfl

theorem Own.rd {e : TypeId} {w : World} {B n cap : Nat} {ao : Option Addr} {l : List Int} (h : Own e w B (.slice ao n cap) l) : Rd w ao l := by
  obtain ⟨ao', cap', hv, hr, _⟩ := h.shape
  simp only [Value.slice.injEq] at hv
  rw [hv.1]; exact hr
theorem Own.blk {e : TypeId} {w : World} {B n cap : Nat} {ao : Option Addr} {l : List Int} (h : Own e w B (.slice ao n cap) l) : ∀ a, ao = some a → B ≤ a.block ∧ a.block < w.heap.size := by
  obtain ⟨ao', cap', hv, _, hr⟩ := h.shape
  simp only [Value.slice.injEq] at hv
  rw [hv.1]; exact hr

theorem Rd.below {w w' : World} {ao : Option Addr} {l : List Int} (h : Rd w ao l) (hb : Below w.heap.size w w') : Rd w' ao l :=
  ⟨h.1, fun a ha j u hj => by
    have hc := h.2 a ha j u hj
    rw [hb.cell (World.block_lt_of_cell? w _ hc)]
    exact hc⟩

/-- Bytes stay where a block is written that is not theirs. -/
theorem Rd.grown {w w' : World} {ao : Option Addr} {l : List Int} {row : Option Nat} (h : Rd w ao l) (hg : w.grownBy w' row) (hne : ∀ a, ao = some a → some a.block ≠ row) : Rd w' ao l :=
  ⟨h.1, fun a ha j u hj => by
    refine hg.cell (h.2 a ha j u hj) ?_
    have : (a.add j).block = a.block := by unfold Addr.add; split <;> rfl
    rw [this]
    exact hne a ha⟩

theorem Rd.nil (w : World) (ao : Option Addr) : Rd w ao [] := ⟨fun _ => rfl, by simp [u8s]⟩

theorem Rd.take {w : World} {ao : Option Addr} {l : List Int} (h : Rd w ao l) (k : Nat) : Rd w ao (l.take k) :=
  ⟨fun ha => by rw [h.1 ha]; simp, fun a ha j u hj => h.2 a ha j u (by
    rw [u8s_get] at hj ⊢
    rw [List.getElem?_take] at hj
    split at hj
    · exact hj
    · cases hj)⟩

/-- Bytes that are read, laid on what is owned, at a call of append. -/
theorem wpList_append_rd {P : Program} {w : World} {ops : Array Oper} {rest : List Oper} {o : Oper} {a : Act} {Q : Exit → Act → World → Prop} (hgd : o.guard = none) (s x : Operand) (t : TypeId)
    (ho : o.op = .call { callee := .builtin .append, args := #[s, x], argTypes := #[t, t] })
    (B : Nat) (e : TypeId) (i : TypeInfo) (ht : P.underlying t = some (.slice e)) (hi : P.info? e = some i) (hz : i.zero = some (.int .u8 0))
    (hsize : i.size = 1) (hby : i.bytes = 1)
    (v : Value) (p : List Int) (hs : a.eval s = v) (hown : Own e w B v p)
    (ao : Option Addr) (c : Nat) (l : List Int) (hx : a.eval x = .slice ao l.length c) (hc : ao = none → c = 0) (hrd : Rd w ao l)
    (hbytes : p.length + l.length ≤ 140737488355328) (hbase : B ≤ w.heap.size)
    (h : ∀ ao' cap' w', Own e w' B (.slice ao' (p.length + l.length) cap') (p ++ l) → w.grownBy w' v.ownBlock → (ao' = none → cap' = 0) →
      wpList P ops Q rest (a.put o.dst (.slice ao' (p.length + l.length) cap')) w') : wpList P ops Q (o :: rest) a w := by
  cases ao with
  | none =>
    have hl := hrd.1 rfl
    subst hl
    have hc0 := hc rfl
    subst hc0
    obtain ⟨ao', cap', rfl, _, _⟩ := hown.shape
    refine wpList_append_own_none hgd s x t ho B e i 1 ht hi _ _ _ hs hown hx ?_
    have := h ao' cap' w (by simpa [Own] using hown) (World.grownBy.refl _ _) (by
      intro hn; subst hn
      rcases hown.2 with ⟨h1, _⟩ | ⟨g, cap, cur, h1, _⟩
      · simp at h1; exact h1.2
      · simp at h1)
    simpa using this
  | some ad =>
    refine wpList_append_own w hgd s x t ho B e i (.int .u8 0) 1 1 ht hi hz hsize hby rfl (by decide) v _ _ hs hown ad l.length c (u8s l) hx (by simp [u8s]) (fun j u hj => hrd.2 ad rfl j u hj) u8s_one
      (by unfold maxLen; omega) (by omega) hbase ?_
    intro v' w' hown' hg _
    have hown2 : Own e w' B v' (p ++ l) := by
      unfold Own; rw [u8s_append, List.length_append]; exact hown'
    obtain ⟨ao', cap', rfl, _, _⟩ := hown2.shape
    have hown3 := hown2
    have := h ao' cap' w' (by simpa using hown3) hg (by
      intro hn; subst hn
      rcases hown2.2 with ⟨h1, _⟩ | ⟨g, cap, cur, h1, _⟩
      · simp at h1; exact h1.2
      · simp at h1)
    simpa using this

/-- One byte more on what is owned: 'append(out, x)', where x has been laid at ad. -/
theorem wpList_push {P : Program} {w : World} {ops : Array Oper} {rest : List Oper} {o : Oper} {a : Act} {Q : Exit → Act → World → Prop} (hgd : o.guard = none) (s x : Operand) (t : TypeId)
    (ho : o.op = .call { callee := .builtin .append, args := #[s, x], argTypes := #[t, t] })
    (B : Nat) (e : TypeId) (i : TypeInfo) (ht : P.underlying t = some (.slice e)) (hi : P.info? e = some i) (hz : i.zero = some (.int .u8 0))
    (hsize : i.size = 1) (hby : i.bytes = 1)
    (v : Value) (p : List Int) (hs : a.eval s = v) (hown : Own e w B v p)
    (ad : Addr) (c : Nat) (b : Int) (hx : a.eval x = .slice (some ad) 1 c) (hcell : w.cell? ad = some (.int .u8 b))
    (hbytes : p.length + 1 ≤ 140737488355328) (hbase : B ≤ w.heap.size)
    (h : ∀ ao' cap' w', Own e w' B (.slice ao' (p.length + 1) cap') (p ++ [b]) → w.grownBy w' v.ownBlock → (ao' = none → cap' = 0) →
      wpList P ops Q rest (a.put o.dst (.slice ao' (p.length + 1) cap')) w') : wpList P ops Q (o :: rest) a w := by
  refine wpList_append_rd hgd s x t ho B e i ht hi hz hsize hby v p hs hown (some ad) c [b] hx (by simp) ⟨by simp, ?_⟩ (by simpa using hbytes) hbase ?_
  · intro a' ha' j u hj
    cases ha'
    match j, hj with
    | 0, hj => simp [u8s] at hj; subst hj; simpa [Addr.add] using hcell
  · intro ao' cap' w' h1 h2 h3
    exact h ao' cap' w' h1 h2 h3

theorem Own.alloc {e : TypeId} {w : World} {B : Nat} {v : Value} {l : List Int} (h : Own e w B v l) (o : Obj) : Own e (w.alloc o) B v l := World.ownsRow.alloc h o
theorem Own.drew {e : TypeId} {w : World} {B : Nat} {v : Value} {l : List Int} (h : Own e w B v l) : Own e w.drew B v l := h
theorem Own.nil (e : TypeId) (w : World) (B : Nat) : Own e w B (.slice none 0 0) [] := World.ownsRow_nil _ _ _ _

/-- What is owned stays so while another block is written. -/
theorem Own.kept {e : TypeId} {w w' : World} {B : Nat} {v : Value} {l : List Int} {row : Option Nat} (h : Own e w B v l) (hg : w.grownBy w' row) (hne : v.ownBlock = none ∨ v.ownBlock ≠ row) : Own e w' B v l := World.ownsRow.kept h hg hne
theorem Own.below {e : TypeId} {w w' : World} {B : Nat} {v : Value} {l : List Int} (h : Own e w B v l) (hb : Below w.heap.size w w') : Own e w' B v l :=
  h.kept (row := none) ⟨hb.os, hb.tape, hb.output, hb.size, fun k hk _ => hb.block k hk⟩ (by cases v.ownBlock <;> simp)
theorem Own.lift {e : TypeId} {w : World} {B B' : Nat} {v : Value} {l : List Int} (h : Own e w B v l) (hB : B' ≤ B) : Own e w B' v l := by
  refine ⟨h.1, ?_⟩
  rcases h.2 with h2 | ⟨g, cap, cur, h1, h2, h3⟩
  · exact .inl h2
  · exact .inr ⟨g, cap, cur, h1, by omega, h3⟩

/-- What a law that ends in 'grownBy' leaves of 'Below'. -/
theorem below_own {B : Nat} {w wr w1 : World} {e : TypeId} {v : Value} {l : List Int} (hb : Below B w wr) (hBw : B ≤ wr.heap.size)
    (hown : Own e wr B v l) (hg : wr.grownBy w1 v.ownBlock) : Below B w w1 :=
  hb.grown hg hBw (fun k hk => by have := (World.ownsRow.lt hown k hk).1; omega)

/-- What a call that answers new bytes leaves. -/
def Made (e : TypeId) (w w' : World) (x : Ending) (l : List Int) : Prop :=
  ∃ ao cap, x = .returned (.slice ao l.length cap) ∧ Own e w' w.heap.size (.slice ao l.length cap) l ∧ (ao = none → cap = 0) ∧ Below w.heap.size w w'

end Go.Proofs.YtpepgoelnagoaaaGreatDoor
namespace Go.Proofs.YtpepgoelnagoaaaGreatDoor
open Go.RowKit

theorem results_cell {fn : Func} {p : Tmp} {ty : TypeId} (h : fn.results = #[.cell p ty]) (tmps : Array Value) (P : Program) (w : World) :
    (results fn tmps).run P w = ((asAddr (tmps.getD p undef)).run P w).andThen fun a w₁ => (loadVar ty a).run P w₁ := by
  simp only [results, h]
  simp [Sem.run_bind, Result.andThen]

section
variable {P : Program}
end

theorem grown_setCell (w : World) (a : Addr) (v : Value) : w.grownBy (w.setCell a v) (some a.block) :=
  ⟨rfl, rfl, rfl, by simp, fun k _ hk => Below.heap_setCell w a v k (by intro e; subst e; exact hk rfl)⟩
theorem below_undrew0 {a w' : World} (h : Below a.drew.heap.size a.drew w') : Below a.heap.size a w' := ⟨h.os, h.tape, h.output, h.size, h.block⟩
end Go.Proofs.YtpepgoelnagoaaaGreatDoor
namespace Go.Proofs.YtpepgoelnagoaaaGreatDoor
open Go.RowKit

def U8 (l : List Int) : Prop := ∀ y ∈ l, 0 ≤ y ∧ y ≤ 255
theorem U8.take {l : List Int} (h : U8 l) (k : Nat) : U8 (l.take k) := fun y hy => h y (List.mem_of_mem_take hy)
/-- A byte of what can be read. -/
theorem Rd.at {w : World} {ao : Option Addr} {l : List Int} (h : Rd w ao l) {k : Nat} {b : Int} (hb : l[k]? = some b) : ∃ ab off, ao = some ⟨ab, off, none⟩ ∧ w.cell? ⟨ab, off + k, none⟩ = some (.int .u8 b) := by
  cases ao with
  | none => have := h.1 rfl; subst this; simp at hb
  | some a =>
    obtain ⟨ab, off, sp⟩ := a
    have hl : 0 < l.length := by have := (List.getElem?_eq_some_iff.1 hb).1; omega
    have h0 := h.2 _ rfl 0 (.int .u8 l[0]) (by rw [u8s_get, List.getElem?_eq_getElem hl]; rfl)
    simp only [Addr.add, if_true] at h0
    have hs : sp = none := World.cell?_spot h0
    subst hs
    have hk := h.2 _ rfl k (.int .u8 b) (by rw [u8s_get, hb]; rfl)
    rw [add_lit] at hk
    exact ⟨ab, off, rfl, hk⟩
/-- Behind this address lie slices of bytes, each of which can be read. -/
def Pieces (w : World) (ao : Option Addr) (L : List (List Int)) : Prop :=
  (ao = none → L = []) ∧ ∀ a, ao = some a → ∀ j l, L[j]? = some l → ∃ aj cj, w.cell? (a.add j) = some (.slice aj l.length cj) ∧ Rd w aj l ∧ (aj = none → cj = 0)
theorem Pieces.below {w w' : World} {ao : Option Addr} {L : List (List Int)} (h : Pieces w ao L) (hb : Below w.heap.size w w') : Pieces w' ao L :=
  ⟨h.1, fun a ha j l hj => by
    obtain ⟨aj, cj, hc, hr, hn⟩ := h.2 a ha j l hj
    exact ⟨aj, cj, by rw [hb.cell (World.block_lt_of_cell? w _ hc)]; exact hc, hr.below hb, hn⟩⟩
theorem Pieces.at {w : World} {ao : Option Addr} {L : List (List Int)} (h : Pieces w ao L) {k : Nat} {l : List Int} (hl : L[k]? = some l) :
    ∃ ab off aj cj, ao = some ⟨ab, off, none⟩ ∧ w.cell? ⟨ab, off + k, none⟩ = some (.slice aj l.length cj) ∧ Rd w aj l ∧ (aj = none → cj = 0) := by
  cases ao with
  | none => have := h.1 rfl; subst this; simp at hl
  | some a =>
    obtain ⟨ab, off, sp⟩ := a
    have hL : 0 < L.length := by have := (List.getElem?_eq_some_iff.1 hl).1; omega
    obtain ⟨_, _, h0, _⟩ := h.2 _ rfl 0 L[0] (List.getElem?_eq_getElem hL)
    simp only [Addr.add, if_true] at h0
    have hs : sp = none := World.cell?_spot h0
    subst hs
    obtain ⟨aj, cj, hk, hr, hn⟩ := h.2 _ rfl k l hl
    rw [add_lit] at hk
    exact ⟨ab, off, aj, cj, rfl, hk, hr, hn⟩
theorem Pieces.one {w : World} (a1 : Option Addr) (c1 : Nat) (l1 : List Int) (t : TypeId) (h1 : Rd w a1 l1) (n1 : a1 = none → c1 = 0) :
    Pieces (w.alloc (.cells #[.slice a1 l1.length c1] t)) (some ⟨w.heap.size, 0, none⟩) [l1] := by
  have hb : Below w.heap.size w (w.alloc (.cells #[.slice a1 l1.length c1] t)) := (Below.refl _ _).alloc (Nat.le_refl _) _
  refine ⟨by simp, ?_⟩
  intro a ha j l hj
  cases ha
  match j, hj with
  | 0, hj => simp at hj; subst hj; exact ⟨a1, c1, by rw [add_lit]; simp [go_sem], h1.below hb, n1⟩
theorem Pieces.two {w : World} (a1 a2 : Option Addr) (c1 c2 : Nat) (l1 l2 : List Int) (t : TypeId) (h1 : Rd w a1 l1) (h2 : Rd w a2 l2) (n1 : a1 = none → c1 = 0) (n2 : a2 = none → c2 = 0) :
    Pieces (w.alloc (.cells #[.slice a1 l1.length c1, .slice a2 l2.length c2] t)) (some ⟨w.heap.size, 0, none⟩) [l1, l2] := by
  have hb : Below w.heap.size w (w.alloc (.cells #[.slice a1 l1.length c1, .slice a2 l2.length c2] t)) := (Below.refl _ _).alloc (Nat.le_refl _) _
  refine ⟨by simp, ?_⟩
  intro a ha j l hj
  cases ha
  match j, hj with
  | 0, hj => simp at hj; subst hj; exact ⟨a1, c1, by rw [add_lit]; simp [go_sem], h1.below hb, n1⟩
  | 1, hj => simp at hj; subst hj; exact ⟨a2, c2, by rw [add_lit]; simp [go_sem], h2.below hb, n2⟩
theorem flat_snoc (L : List (List Int)) (k : Nat) (l : List Int) (h : L[k]? = some l) : (L.take (k + 1)).flatten = (L.take k).flatten ++ l := by
  obtain ⟨hk, rfl⟩ := List.getElem?_eq_some_iff.1 h
  rw [List.take_succ_eq_append_getElem hk, List.flatten_append]; simp
theorem flat_take_le (L : List (List Int)) (k : Nat) : (L.take k).flatten.length ≤ L.flatten.length := by
  have h : L.flatten = (L.take k).flatten ++ (L.drop k).flatten := by rw [← List.flatten_append, List.take_append_drop]
  rw [h, List.length_append]; omega
theorem Rd.drewN {w : World} {ao : Option Addr} {l : List Int} (h : Rd w ao l) (n : Nat) : Rd (w.drewN n) ao l := h.below ⟨rfl, rfl, rfl, Nat.le_refl _, fun _ _ => rfl⟩
theorem Pieces.drewN {w : World} {ao : Option Addr} {L : List (List Int)} (h : Pieces w ao L) (n : Nat) : Pieces (w.drewN n) ao L := h.below ⟨rfl, rfl, rfl, Nat.le_refl _, fun _ _ => rfl⟩
theorem conv_rd {w : World} {ao : Option Addr} {n cap : Nat} {l : List Int} (hr : Rd w ao l) (hn : l.length = n) : (convert 26 9 (.slice ao n cap)).run Tryz.prog w = .ok (.string (strOfNums l)) w := by
  cases ao with
  | none =>
    have := hr.1 rfl
    subst this
    exact run_convert_bytes_nil w 26 5 Tryz.underlying26 Tryz.underlying5 _ _ 9 Tryz.underlying9
  | some a =>
    cases l with
    | nil =>
      simp at hn
      subst hn
      rw [run_convert_bytes_string w 26 9 5 _ 0 cap Tryz.underlying26 Tryz.underlying5 Tryz.underlying9, run_bytesToString w a 0 cap [] (by simp [loadCells, loadCellsFrom])]
      rfl
    | cons b l =>
      obtain ⟨ab, off, ha, _⟩ := hr.at (k := 0) (b := b) rfl
      cases ha
      refine run_convert_bytes_arg w 26 5 Tryz.underlying26 Tryz.underlying5 ab off n cap (b :: l) hn ?_ 9 Tryz.underlying9
      intro i hi
      have := hr.2 _ rfl i (.int .u8 ((b :: l).getD i 0)) (by rw [u8s_get, List.getD, List.getElem?_eq_getElem (by omega)]; rfl)
      rwa [add_lit] at this
theorem Own.cap {e : TypeId} {w : World} {B n cap : Nat} {ao : Option Addr} {l : List Int} (h : Own e w B (.slice ao n cap) l) : l.length ≤ cap ∧ cap ≤ 9223372036854775807 := by
  rcases h.2 with ⟨h1, h2⟩ | ⟨g, c, cur, h1, _, _, h4, h5, _⟩
  · simp only [Value.slice.injEq] at h1; omega
  · simp only [Value.slice.injEq] at h1
    unfold maxLen at h5
    omega
theorem Rd.alloc {w : World} {ao : Option Addr} {l : List Int} (h : Rd w ao l) (o : Obj) : Rd (w.alloc o) ao l := h.below ((Below.refl _ _).alloc (Nat.le_refl _) _)
theorem U8.lit {l : List Int} (h : l.all (fun y => decide (0 ≤ y) && decide (y ≤ 255)) = true) : U8 l := fun y hy => by
  have := List.all_eq_true.1 h y hy
  simpa using this
/-- A byte of what is owned is written. -/
theorem Own.store {e : TypeId} {w : World} {B n cap k : Nat} {ao : Option Addr} {l : List Int} (h : Own e w B (.slice ao n cap) l) (hk : k < l.length) :
    ∃ g, ao = some ⟨g, 0, none⟩ ∧ w.cell? ⟨g, k, none⟩ = some (.int .u8 (l.getD k 0)) ∧ w.frozen? ⟨g, k, none⟩ = false ∧ B ≤ g ∧ g < w.heap.size ∧
      ∀ x, Own e (w.setCell ⟨g, k, none⟩ (.int .u8 x)) B (.slice ao n cap) (l.set k x) ∧ w.grownBy (w.setCell ⟨g, k, none⟩ (.int .u8 x)) (some g) := by
  have h2 := h.2
  have hb := h.blk
  rcases h2 with ⟨h1, h3⟩ | ⟨g, c, cur, h1, _⟩
  · omega
  · simp only [Value.slice.injEq] at h1
    obtain ⟨rfl, rfl, rfl⟩ := h1
    refine ⟨g, rfl, ?_, World.ownsRow.frozenAt h k, (hb _ rfl).1, (hb _ rfl).2, fun x => ?_⟩
    · rw [World.ownsRow.cellAt h k (by omega), u8s_get, List.getElem?_eq_getElem hk, List.getD_eq_getElem?_getD, List.getElem?_eq_getElem hk]; rfl
    · obtain ⟨r1, r2⟩ := World.ownsRow.stored h k (.int .u8 x)
      refine ⟨?_, r2⟩
      unfold Own
      rw [List.length_set]
      have : u8s (l.set k x) = (u8s l).set k (.int .u8 x) := by simp [u8s, List.map_set]
      rw [this]
      exact r1
theorem U8.getD {l : List Int} (h : U8 l) (q : Nat) : 0 ≤ l.getD q 0 ∧ l.getD q 0 ≤ 255 := by
  rw [List.getD_eq_getElem?_getD]
  cases hq : l[q]? with
  | none => simp
  | some b => exact h b (List.mem_of_getElem? hq)
theorem U8.set {l : List Int} (h : U8 l) (q v : Nat) (hv : v < 256) : U8 (l.set q (v : Int)) := by
  intro y hy
  rcases List.mem_or_eq_of_mem_set hy with h1 | h1
  · exact h y h1
  · rw [h1]; omega
end Go.Proofs.YtpepgoelnagoaaaGreatDoor
