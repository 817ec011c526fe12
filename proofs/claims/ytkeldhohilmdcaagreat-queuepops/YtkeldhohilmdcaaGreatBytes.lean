/-
  BYTES: bytes that can be read, one by one, in part, as strings; slices of slices; a byte of what is owned is written; literals. 61 stands for the type of slices of bytes; 5 and 9 are those of bytes and of strings.
-/
import Derived.Test.YtkeldhohilmdcaaGreatRows
import Derived.Test.YtkeldhohilmdcaaGreatArrays
import Derived.Lib.SlBytesConst
import Derived.Laws.BitsAllLaws
namespace Go.Proofs.YtkeldhohilmdcaaGreat
open Go.RowKit

def U8 (l : List Int) : Prop := ∀ y ∈ l, 0 ≤ y ∧ y ≤ 255
theorem U8.take {l : List Int} (h : U8 l) (k : Nat) : U8 (l.take k) := fun y hy => h y (List.mem_of_mem_take hy)
/-- A byte of what can be read. -/
theorem Rd.at {w : World} {ao : Option Addr} {l : List Int} (h : Rd w ao l) {k : Nat} {b : Int} (hb : l[k]? = some b) : ∃ ab off, ao = some ⟨ab, off, none⟩ ∧ w.cell? ⟨ab, off + k, none⟩ = some (.int .u8 b) := by
  cases ao with
  | none => have := h.1 rfl; subst this; simp at hb
  | some a =>
    obtain ⟨ab, off, sp⟩ := a
    have hl : 0 < l.length := by have := (List.getElem?_eq_some_iff.1 hb).1; omega
    have h0 := h.2 _ rfl 0 (.int .u8 l[0]) (by rw [u8s_get, List.getElem?_eq_getElem hl]; rfl)
    simp only [Addr.add, if_true] at h0
    have hs : sp = none := World.cell?_spot h0
    subst hs
    have hk := h.2 _ rfl k (.int .u8 b) (by rw [u8s_get, hb]; rfl)
    rw [add_lit] at hk
    exact ⟨ab, off, rfl, hk⟩
/-- Behind this address lie slices of bytes, each of which can be read. -/
def Pieces (w : World) (ao : Option Addr) (L : List (List Int)) : Prop :=
  (ao = none → L = []) ∧ ∀ a, ao = some a → ∀ j l, L[j]? = some l → ∃ aj cj, w.cell? (a.add j) = some (.slice aj l.length cj) ∧ Rd w aj l ∧ (aj = none → cj = 0)
theorem Pieces.below {w w' : World} {ao : Option Addr} {L : List (List Int)} (h : Pieces w ao L) (hb : Below w.heap.size w w') : Pieces w' ao L :=
  ⟨h.1, fun a ha j l hj => by
    obtain ⟨aj, cj, hc, hr, hn⟩ := h.2 a ha j l hj
    exact ⟨aj, cj, by rw [hb.cell (World.block_lt_of_cell? w _ hc)]; exact hc, hr.below hb, hn⟩⟩
theorem Pieces.at {w : World} {ao : Option Addr} {L : List (List Int)} (h : Pieces w ao L) {k : Nat} {l : List Int} (hl : L[k]? = some l) :
    ∃ ab off aj cj, ao = some ⟨ab, off, none⟩ ∧ w.cell? ⟨ab, off + k, none⟩ = some (.slice aj l.length cj) ∧ Rd w aj l ∧ (aj = none → cj = 0) := by
  cases ao with
  | none => have := h.1 rfl; subst this; simp at hl
  | some a =>
    obtain ⟨ab, off, sp⟩ := a
    have hL : 0 < L.length := by have := (List.getElem?_eq_some_iff.1 hl).1; omega
    obtain ⟨_, _, h0, _⟩ := h.2 _ rfl 0 L[0] (List.getElem?_eq_getElem hL)
    simp only [Addr.add, if_true] at h0
    have hs : sp = none := World.cell?_spot h0
    subst hs
    obtain ⟨aj, cj, hk, hr, hn⟩ := h.2 _ rfl k l hl
    rw [add_lit] at hk
    exact ⟨ab, off, aj, cj, rfl, hk, hr, hn⟩
theorem Pieces.one {w : World} (a1 : Option Addr) (c1 : Nat) (l1 : List Int) (t : TypeId) (h1 : Rd w a1 l1) (n1 : a1 = none → c1 = 0) :
    Pieces (w.alloc (.cells #[.slice a1 l1.length c1] t)) (some ⟨w.heap.size, 0, none⟩) [l1] := by
  have hb : Below w.heap.size w (w.alloc (.cells #[.slice a1 l1.length c1] t)) := (Below.refl _ _).alloc (Nat.le_refl _) _
  refine ⟨by simp, ?_⟩
  intro a ha j l hj
  cases ha
  match j, hj with
  | 0, hj => simp at hj; subst hj; exact ⟨a1, c1, by rw [add_lit]; simp [go_sem], h1.below hb, n1⟩
theorem Rd.drewN {w : World} {ao : Option Addr} {l : List Int} (h : Rd w ao l) (n : Nat) : Rd (w.drewN n) ao l := h.below ⟨rfl, rfl, rfl, Nat.le_refl _, fun _ _ => rfl⟩
theorem Pieces.drewN {w : World} {ao : Option Addr} {L : List (List Int)} (h : Pieces w ao L) (n : Nat) : Pieces (w.drewN n) ao L := h.below ⟨rfl, rfl, rfl, Nat.le_refl _, fun _ _ => rfl⟩
theorem Own.cap {e : TypeId} {w : World} {B n cap : Nat} {ao : Option Addr} {l : List Int} (h : Own e w B (.slice ao n cap) l) : l.length ≤ cap ∧ cap ≤ 9223372036854775807 := by
  rcases h.2 with ⟨h1, h2⟩ | ⟨g, c, cur, h1, _, _, h4, h5, _⟩
  · simp only [Value.slice.injEq] at h1; omega
  · simp only [Value.slice.injEq] at h1
    unfold maxLen at h5
    omega
theorem rd_lit (w : World) (l : List Int) (t : TypeId) (fr : Nat × Nat) : Rd (w.alloc (.cells (u8s l).toArray t fr)) (some ⟨w.heap.size, 0, none⟩) l :=
  ⟨by simp, fun a ha j u hj => by
    cases ha
    rw [add_lit, cell_of_row _ _ (0 + j) (u8s l).toArray t fr (heap_alloc_last w _), Nat.zero_add]
    simpa using hj⟩
theorem Rd.alloc {w : World} {ao : Option Addr} {l : List Int} (h : Rd w ao l) (o : Obj) : Rd (w.alloc o) ao l := h.below ((Below.refl _ _).alloc (Nat.le_refl _) _)
/-- A byte of what is owned is written. -/
theorem Own.store {e : TypeId} {w : World} {B n cap k : Nat} {ao : Option Addr} {l : List Int} (h : Own e w B (.slice ao n cap) l) (hk : k < l.length) :
    ∃ g, ao = some ⟨g, 0, none⟩ ∧ w.cell? ⟨g, k, none⟩ = some (.int .u8 (l.getD k 0)) ∧ w.frozen? ⟨g, k, none⟩ = false ∧ B ≤ g ∧ g < w.heap.size ∧
      ∀ x, Own e (w.setCell ⟨g, k, none⟩ (.int .u8 x)) B (.slice ao n cap) (l.set k x) ∧ w.grownBy (w.setCell ⟨g, k, none⟩ (.int .u8 x)) (some g) := by
  have h2 := h.2
  have hb := h.blk
  rcases h2 with ⟨h1, h3⟩ | ⟨g, c, cur, h1, _⟩
  · omega
  · simp only [Value.slice.injEq] at h1
    obtain ⟨rfl, rfl, rfl⟩ := h1
    refine ⟨g, rfl, ?_, World.ownsRow.frozenAt h k, (hb _ rfl).1, (hb _ rfl).2, fun x => ?_⟩
    · rw [World.ownsRow.cellAt h k (by omega), u8s_get, List.getElem?_eq_getElem hk, List.getD_eq_getElem?_getD, List.getElem?_eq_getElem hk]; rfl
    · obtain ⟨r1, r2⟩ := World.ownsRow.stored h k (.int .u8 x)
      refine ⟨?_, r2⟩
      unfold Own
      rw [List.length_set]
      have : u8s (l.set k x) = (u8s l).set k (.int .u8 x) := by simp [u8s, List.map_set]
      rw [this]
      exact r1
theorem U8.getD {l : List Int} (h : U8 l) (q : Nat) : 0 ≤ l.getD q 0 ∧ l.getD q 0 ≤ 255 := by
  rw [List.getD_eq_getElem?_getD]
  cases hq : l[q]? with
  | none => simp
  | some b => exact h b (List.mem_of_getElem? hq)
theorem U8.set {l : List Int} (h : U8 l) (q v : Nat) (hv : v < 256) : U8 (l.set q (v : Int)) := by
  intro y hy
  rcases List.mem_or_eq_of_mem_set hy with h1 | h1
  · exact h y h1
  · rw [h1]; omega
theorem str_back {l : List Int} (h : U8 l) : (strOfNums l).data.toList.map (fun c => (c.toNat : Int)) = l := by
  rw [strOfNums_data, List.map_map]
  have : ∀ n ∈ l, ((fun c : UInt8 => (c.toNat : Int)) ∘ fun n : Int => UInt8.ofNat n.toNat) n = n := fun n hn => by
    have := h n hn
    simp only [Function.comp, UInt8.toNat_ofNat']
    omega
  rw [List.map_congr_left this, List.map_id']
end Go.Proofs.YtkeldhohilmdcaaGreat
