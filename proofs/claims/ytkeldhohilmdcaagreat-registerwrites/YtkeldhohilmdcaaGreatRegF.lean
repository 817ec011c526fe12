/-
  The law RegisterMaps (7), walked: its maps are built by Put, asked by Get, and what may not be is refused by every call.
  register: the document's Fits (39), the law's texts (82).
-/
import Derived.Test.YtkeldhohilmdcaaGreatRegK
import Derived.Test.YtkeldhohilmdcaaGreatRegM
import Derived.Test.YtkeldhohilmdcaaGreatReg9
import Derived.Test.YtkeldhohilmdcaaGreatRefOK
namespace Go.Proofs.YtkeldhohilmdcaaGreat
open Go.RowKit Go.Shelf
set_option linter.unusedSimpArgs false
attribute [local go_sem] Oper.semAt_some

/-- A slice of pairs of strings. -/
def Rp (w : World) (ao : Option Addr) (l : List Kv) : Prop := ∀ k x, l[k]? = some x → ∃ b off, ao = some ⟨b, off, none⟩ ∧ w.cell? ⟨b, off + k * 2, none⟩ = some (.string x.1) ∧ w.cell? ⟨b, off + k * 2 + 1, none⟩ = some (.string x.2)
theorem Rp.below {w w' : World} {ao : Option Addr} {l : List Kv} (h : Rp w ao l) (hb : Below w.heap.size w w') : Rp w' ao l := fun k x hx => by
  obtain ⟨b, off, e, h1, h2⟩ := h k x hx
  exact ⟨b, off, e, cell_stays h1 hb, cell_stays h2 hb⟩
theorem Ot.form {w : World} {B : Nat} {v : Value} {L : List ByteArray} (h : Ot w B v L) : ∃ ao c, v = .slice ao L.length c := by
  rcases h with ⟨h1, h2⟩
  rcases h2 with ⟨e, e2⟩ | ⟨g, cap, cur, e, -⟩
  · exact ⟨none, 0, by rw [e, e2]⟩
  · exact ⟨_, _, e⟩
end Go.Proofs.YtkeldhohilmdcaaGreat
namespace Go.Proofs.YtkeldhohilmdcaaGreat
open Go.RowKit Go.Shelf
set_option linter.unusedSimpArgs false
attribute [local go_sem] Oper.semAt_some

set_option maxHeartbeats 2000000 in
theorem fits39 (s : St) (x : ByteArray) (w : World) (hs : s.2.2.1.size ≤ 9223372036854775807) : Calls Tryz.prog 43 #[svT s, .string x] w fun e w' => e = .returned (.bool (stV s && txtB x)) ∧ Below w.heap.size w w' := by
  obtain ⟨g, r, l, n, i⟩ := s
  obtain ⟨w0, hw0⟩ : ∃ q, q = w.alloc (.cells #[.int .i64 g, .int .i64 r, .string l, .int .i64 n, .int .i64 i] 43) := ⟨_, rfl⟩
  have m := heap_alloc_new w (.cells #[.int .i64 g, .int .i64 r, .string l, .int .i64 n, .int .i64 i] 43)
  have b0 : Below w.heap.size w (w.alloc (.cells #[.int .i64 g, .int .i64 r, .string l, .int .i64 n, .int .i64 i] 43)) := (Below.refl _ w).alloc (Nat.le_refl _) _
  rw [← hw0] at m b0
  have hst := refStamp_any g r l n i w0 hs
  have htx := fun W => refText_any x W
  have hV : stampV g r l n i = stV (g, r, l, n, i) := rfl
  rw [hV] at hst
  have c0 := (cell_of_row _ _ 0 _ 43 (0, 0) m).trans rfl
  have c1 := (cell_of_row _ _ 1 _ 43 (0, 0) m).trans rfl
  have c2 := (cell_of_row _ _ 2 _ 43 (0, 0) m).trans rfl
  have c3 := (cell_of_row _ _ 3 _ 43 (0, 0) m).trans rfl
  have c4 := (cell_of_row _ _ 4 _ 43 (0, 0) m).trans rfl
  have HB := hide b0
  have HW0 := hide hw0
  dsimp only [svT, sv] at hst ⊢
  generalize stV (g, r, l, n, i) = V at *
  generalize txtB x = TX at *
  clear hV m b0 hw0
  cases V with
  | false =>
    go_enter Tryz.func43, Tryz.ntmps43
    go_upto_region 1 with fail
    rw [← HW0.out]
    go_wp2_with (go_at_call 84; refine hst.mono ?_; rintro e w1 ⟨rfl, b1⟩; replace HB := hide (HB.out.trans (b1.mono HB.out.size)); clear b1; dsimp only)
    go_ret
    exact ⟨rfl, HB.out⟩
  | true =>
    go_enter Tryz.func43, Tryz.ntmps43
    go_upto_region 1 with fail
    rw [← HW0.out]
    go_wp2_with (first
      | (go_at_call 84; refine hst.mono ?_; rintro e w1 ⟨rfl, b1⟩; replace HB := hide (HB.out.trans (b1.mono HB.out.size)); clear b1; dsimp only)
      | (go_at_call 83; refine (htx _).mono ?_; rintro e w2 ⟨rfl, rfl⟩; dsimp only))
    go_ret
    exact ⟨rfl, HB.out⟩
set_option maxHeartbeats 2000000 in
theorem texts82 {w : World} {ao : Option Addr} {c : Nat} (l : List El) (h : Re w ao l) (hl : l.length ≤ 100000) : Calls Tryz.prog 109 #[.slice ao l.length c] w fun e w' => ∃ v, e = .returned v ∧ Ot w' w.heap.size v (l.map Prod.snd) ∧ Below w.heap.size w w' := by
  obtain ⟨N, hN⟩ : ∃ N, N = l.length := ⟨_, rfl⟩
  rw [← hN] at hl ⊢
  have H := hide (And.intro hN h)
  clear hN h
  go_enter Tryz.func109, Tryz.ntmps109
  go_wp2
  go_loopw [3, 4] (fun v iv wr => ∃ i : Nat, i ≤ N ∧ iv = .int .i64 i ∧ Hid (Ot wr w.heap.size v ((l.take i).map Prod.snd) ∧ Below w.heap.size w wr)) (fun _ iv _ => N - (intOf iv).toNat)
  case atStart => exact ⟨0, by omega, rfl, hide ⟨Ot.nil _ _, Below.refl _ _⟩⟩
  case round =>
    obtain ⟨i, hi, rfl, HI⟩ := hrel
    by_cases h1 : i < N
    · have z1 : (i : Int) < (N : Int) := by omega
      have d1 : decide (i < N) = true := by simpa using h1
      obtain ⟨x, hx⟩ : ∃ x, l[i]? = some x := ⟨_, List.getElem?_eq_getElem (by rw [← H.out.1]; exact h1)⟩
      obtain ⟨b, off, hao, -, -, -, -, -, q5⟩ := (H.out.2.below HI.out.2).cells hx
      obtain ⟨s, y⟩ := x
      dsimp only at q5
      subst hao
      obtain ⟨a1, c1, w2, run1, o1, on1⟩ := push_Ot (b := wr.heap.size) (y := y) (HI.out.1.below ((Below.refl _ wr).alloc (Nat.le_refl _) (.cells #[.string y] 9))) (heap_alloc_new wr _) (by simp; omega) (by have := HI.out.2.size; simp; omega)
      obtain ⟨KV, hKV⟩ : ∃ q, q = Value.slice a1 ((List.map Prod.snd (List.take i l)).length + 1) c1 := ⟨_, rfl⟩
      rw [← hKV] at run1 o1
      have b2 : Below w.heap.size w w2 := by
        have ba := HI.out.2.alloc HI.out.2.size (.cells #[.string y] 9)
        exact Below.only ba on1 ba.size (fun j e => (World.ownsRow.lt HI.out.1 j e).1)
      have HO := hide (And.intro o1 b2)
      have HX := hide hx
      clear hKV o1 b2 on1 hx
      go_wp2_with (at_builtin; refine wpList_app2 rfl (.tmp 11) (.tmp 17) 63 63 63 rfl rfl rfl rfl run1 ?_)
      go_roundw
      case rel =>
        refine ⟨i + 1, by omega, by go_num, hide ?_⟩
        rw [List.take_add_one, HX.out]
        simp only [Option.toList, List.map_append, List.map_cons, List.map_nil]
        exact HO.out
      case measure => simp [intOf]; omega
    · obtain rfl : i = N := by omega
      have d1 : decide (i < i) = false := by simp
      have z1 : ¬ (i : Int) < (i : Int) := by omega
      have HF := hide HI.out
      rw [H.out.1, List.take_length] at HF
      clear HI
      go_wp2
      go_ret
      exact ⟨_, rfl, HF.out.1, HF.out.2⟩
end Go.Proofs.YtkeldhohilmdcaaGreat
