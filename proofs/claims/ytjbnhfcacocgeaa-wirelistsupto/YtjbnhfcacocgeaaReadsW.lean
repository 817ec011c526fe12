/-
  THE WALK over the law WireReads.
-/
import Derived.Test.YtjbnhfcacocgeaaSteps2
namespace Go.Proofs.Ytjbnhfcacocgeaa
open Go.RowKit

/-- A script that came in: pairs of a kind and a bound. -/
def Script (w : World) (so : Option Addr) (ks : List (Int × Int)) : Prop :=
  ∀ j k m, ks[j]? = some (k, m) → ∃ sb soff, so = some ⟨sb, soff, none⟩ ∧ w.cell? ⟨sb, soff + j * 2, none⟩ = some (.int .i64 k) ∧ w.cell? ⟨sb, soff + j * 2 + 1, none⟩ = some (.int .i64 m) ∧ m ≤ 9223372036854775807

theorem Script.below {w w' : World} {so : Option Addr} {ks : List (Int × Int)} (h : Script w so ks) (hb : Below w.heap.size w w') : Script w' so ks := fun j k m hj => by
  obtain ⟨sb, soff, e1, e2, e3, e4⟩ := h j k m hj
  exact ⟨sb, soff, e1, (hb.cell (World.block_lt_of_cell? w _ e2)).trans e2, (hb.cell (World.block_lt_of_cell? w _ e3)).trans e3, e4⟩

set_option maxHeartbeats 400000 in
set_option maxRecDepth 100000 in
theorem open_lo (ao : Option Addr) (cap n : Nat) (l : List Int) (w : World) (hn : l.length = n) (hr : Rd w ao l) (hnil : ao = none → cap = 0) (hl : l.length ≤ 140737488355328) (h8 : ∀ x ∈ l, 0 ≤ x ∧ x ≤ 255) :
    Calls Try.prog 19 #[.slice ao n cap] w fun e w' => ∃ R, e = .returned (.pointer (some ⟨R, 0, none⟩)) ∧ Rdr 73 w' R (R + 1) l ∧ w.heap.size ≤ R ∧ R + 1 = w'.heap.size ∧ Below w.heap.size w w' ∧
      ∀ w'' k, w'.grownBy w'' (some k) → k < w.heap.size → Rdr 73 w'' R (R + 1) l := by
  go_enter Try.func19, Try.ntmps19
  go_wp2_with (go_at_call 38; refine (clone_len ao cap n l _ hn hr hnil hl).mono ?_; rintro e w1 ⟨ao1, cap1, rfl, hown1, hnil1, hb1⟩)
  go_ret
  have hs := hb1.size
  have hal : Below w1.heap.size w1 (w1.alloc (.cells #[.slice ao1 n cap1, .bool true] 73)) := (Below.refl _ _).alloc (Nat.le_refl _) _
  have hh : (w1.alloc (.cells #[.slice ao1 n cap1, .bool true] 73)).heap[w1.heap.size]? = some (.cells #[.slice ao1 l.length cap1, .bool true] 73 (0, 0)) := by
    rw [hn]; exact heap_alloc_new w1 _
  have hbk : ∀ a, ao1 = some a → a.block < w1.heap.size + 1 ∧ a.block ≠ w1.heap.size := by
    intro a ha
    have := hown1.blk a ha
    exact ⟨by omega, by omega⟩
  refine ⟨w1.heap.size, rfl, ⟨ao1, cap1, hh, hown1.rd.below hal, hnil1, hown1.cap.1, hown1.cap.2, hbk, by omega, h8⟩, hs, by simp, hb1.alloc hs _, ?_⟩
  intro w'' k hg hk
  refine ⟨ao1, cap1, ?_, (hown1.rd.below hal).grown hg ?_, hnil1, hown1.cap.1, hown1.cap.2, hbk, by omega, h8⟩
  · rw [hg.block w1.heap.size (by simp) (by simp; omega)]; exact hh
  · intro a ha
    have := hown1.blk a ha
    simp; omega

theorem spoil_len (ao : Option Addr) (cap B n : Nat) (l : List Int) (w : World) (hn : l.length = n) (hown : Own 5 w B (.slice ao n cap) l) (hB : B ≤ w.heap.size) (hl : l.length + 9 ≤ 140737488355328) :
    Calls Try.prog 17 #[.slice ao n cap] w fun e w' => e = .returned (.tuple #[]) ∧ w.grownBy w' (Value.ownBlock (.slice ao n cap)) := by
  subst hn
  exact spoil_any ao cap B l w hown hB hl
theorem Rdr.drewN' {t : TypeId} {w : World} {R S : Nat} {l : List Int} (h : Rdr t w R S l) (n : Nat) : Rdr t (w.drewN n) R S l := h
theorem Doc.drewN' {T : Nat} {w : World} {D : Nat} {LB l : List Int} (h : Doc T w D LB l) (n : Nat) : Doc T (w.drewN n) D LB l := h
theorem conv_cat2 {w : World} {ao : Option Addr} {cap : Nat} {l : List Int} (hr : Rd w ao (l ++ [165])) : (convert 23 9 (.slice ao (l.length + 1) cap)).run Try.prog w = .ok (.string (strOfNums l ++ { data := #[165] })) w := by
  have h := conv_rd (n := l.length + 1) (cap := cap) hr (by simp)
  have e : strOfNums (l ++ [165]) = strOfNums l ++ { data := #[165] } := by
    apply ByteArray.ext
    simp [strOfNums]
  rw [e] at h
  exact h

theorem end_len (l : List Int) : (!((endE l == 0) == ((l.length : Int) == 0))) = false := by
  cases l with
  | nil => rfl
  | cons b r => simp [endE]; omega

set_option maxHeartbeats 2000000 in
set_option maxRecDepth 100000 in
theorem reads_walk (bo so : Option Addr) (capb caps : Nat) (LB : List Int) (ks : List (Int × Int)) (w : World)
    (rb : Rd w bo LB) (nb : bo = none → capb = 0) (cb : LB.length ≤ capb) (cm : capb ≤ 1048576) (eb : ∀ x ∈ LB, 0 ≤ x ∧ x ≤ 255) (hsc : Script w so ks) (hks : ks.length ≤ 1048576) :
    Calls Try.prog 4 #[.slice bo LB.length capb, .slice so ks.length caps] w fun e w' => e = .returned (.bool true) ∧ Below w.heap.size w w' := by
  obtain ⟨i0, hi, hz0, hz1, hz2⟩ := info_parts Try.info5
  have hno : ¬ 9223372036854775807 < (strOfNums LB).size + 1 := by rw [strOfNums_size]; omega
  have zb : LB.length ≤ 1048576 := by omega
  go_enter Try.func4, Try.ntmps4
  go_wp2_with (first
    | (at_builtin; refine wpList_append_rd rfl (.const (.slice none 0 0)) (.tmp 9) 23 rfl w.heap.size 5 i0 Try.underlying23 hi hz0 hz1 hz2 _ [] rfl (Own.nil 5 _ _) bo capb LB rfl nb rb (by simp; omega) (by simp) ?_; intro oo1 co1 w1 hown1 hg1 hnil1; have b1 := below_own (l := []) (Below.refl w.heap.size _) (by simp) (Own.nil 5 _ w.heap.size) hg1; simp only [List.length_nil, Nat.zero_add, List.nil_append] at hown1 ⊢; have s1 := b1.size)
    | (at_builtin; refine wpList_push rfl (.tmp 10) (.tmp 11) 23 rfl w.heap.size 5 i0 Try.underlying23 hi hz0 hz1 hz2 _ _ rfl (hown1.alloc _) ⟨w1.heap.size, 0, none⟩ 1 165 rfl (by simp [go_sem]) (by omega) (by simp; omega) ?_; intro oo2 co2 w2 hown2 hg2 hnil2; have b2 := below_own (b1.alloc s1 _) (by simp; omega) (hown1.alloc _) hg2; have hc2 := hown2.cap.1; have hc2' : LB.length ≤ co2 := by { simp at hc2; omega })
    | (go_at_call 19; refine (open_lo oo2 co2 _ LB _ rfl (by have := hown2.rd.take LB.length; simpa using this) hnil2 (by omega) eb).mono ?_; rintro e w3 ⟨R, rfl, hR3, hlo3, hsz3, hb3, hkeep⟩; have cv1 := conv_cat2 (cap := co2) (hown2.rd.below hb3); have cv2 := conv_rd (n := LB.length) (cap := capb) (rb.below (b2.trans (hb3.mono b2.size))) rfl))
  have hs2 := b2.size
  have hs3 := hb3.size
  obtain ⟨a2, hoo⟩ : ∃ a2, oo2 = some a2 := by
    cases oo2 with
    | none => have := hown2.rd.1 rfl; simp at this
    | some a => exact ⟨a, rfl⟩
  have hblk2 := hown2.blk a2 hoo
  have hown3 := hown2.below hb3
  have hB3 : Below w.heap.size w w3 := b2.trans (hb3.mono hs2)
  refine (spoil_len oo2 co2 w.heap.size (LB.length + 1) (LB ++ [165]) w3 (by simp) hown3 (by omega) (by simp; omega)).mono ?_
  rintro e w4 ⟨rfl, hg4⟩
  subst hoo
  have hR4 := hkeep w4 a2.block hg4 hblk2.2
  have hB4 : Below w.heap.size w w4 := hB3.grown hg4 (by omega) (fun k hk => by cases hk; exact hblk2.1)
  have hs4 := hg4.size
  have hrb4 := rb.below hB4
  have hA5 : Alike w.heap.size w.heap.size (w4.alloc (.cells #[.slice bo LB.length capb, .int .i64 0] 40)) R (R + 1) w4.heap.size LB LB := by
    refine ⟨hR4.kept (World.grownBy_alloc _ _ none) (by simp), ⟨bo, capb, 0, heap_alloc_new w4 _, hrb4.below ((Below.refl _ _).alloc (Nat.le_refl _) _), nb, cb, by omega, zb, ⟨?_, by omega⟩, eb, by omega, by simp⟩, by omega, by simp, by omega, by omega, by omega, zb⟩
    intro hne a ha
    subst ha
    cases LB with
    | nil => exact absurd rfl hne
    | cons x r =>
      have := World.block_lt_of_cell? w _ (rb.2 a rfl 0 (.int .u8 x) (by simp [u8s]))
      simpa [Addr.add] using this
  have hB5 : Below w.heap.size w (w4.alloc (.cells #[.slice bo LB.length capb, .int .i64 0] 40)) := hB4.alloc (by omega) _
  have HA := hide hA5
  have HB := hide hB5
  clear hA5 hB5 hkeep cv1 cv2 hown3 hB3 hR4 hR3 hrb4 hown2 hown1 hg1 hg2 hg4 hb3 b1 b2 hB4
  go_wp2
  go_loopw [8] (fun i wr => ∃ (k : Nat) (l : List Int), k ≤ ks.length ∧ k ≤ 300 ∧ i = .int .i64 k ∧ Alike w.heap.size w.heap.size wr R (R + 1) w4.heap.size LB l ∧ Below w.heap.size w wr) (fun i _ => ks.length - (intOf i).toNat)
  case atStart => exact ⟨0, LB, by omega, by omega, rfl, HA.out, HB.out⟩
  case round =>
    obtain ⟨k, l, hk, hk3, rfl, hal, hbl⟩ := hrel
    have hsr := hbl.size
    by_cases hlt : k < ks.length ∧ k < 300
    · obtain ⟨hlt1, hlt2⟩ := hlt
      obtain ⟨⟨kind, most⟩, hx⟩ : ∃ x, ks[k]? = some x := ⟨_, List.getElem?_eq_getElem hlt1⟩
      obtain ⟨sb, soff, rfl, q1, q2, q3⟩ := (hsc.below hbl) k kind most hx
      clear hx
      go_wp2_with (first | (go_at_call 20; refine (step_any _ _ _ _ kind most LB l _ hal q3).mono ?_; rintro e w6 ⟨rfl, l6, hal6, hb6⟩; have hbl6 := hbl.trans hb6; have hend := end_len l6) | (go_at_call 21; refine (left_any R (R + 1) l6 _ hal6.1).mono ?_; rintro e w7 ⟨rfl, rfl⟩) | (go_at_call 22; refine (dleft_any w4.heap.size LB l6 _ (by exact hal6.2.1)).mono ?_; rintro e w8 ⟨rfl, nq, rfl⟩) | (go_at_call 24; refine (end_any R (R + 1) l6 _ (by exact hal6.1)).mono ?_; rintro e w9 ⟨rfl, rfl⟩) | (go_at_call 23; refine (num_any _ _).mono ?_; rintro e w10 ⟨rfl, rfl⟩))
      go_roundw
      case rel => exact ⟨k + 1, l6, by omega, by omega, by go_num, hal6, ⟨hbl6.os, hbl6.tape, hbl6.output, hbl6.size, hbl6.block⟩⟩
      case measure => simp [intOf]; omega
    · by_cases hlt1 : k < ks.length
      · have hge : ¬ k < 300 := by omega
        go_wp2_with (go_at_call 18; refine (known_any _).mono ?_; rintro e w11 ⟨rfl, hb11⟩)
        go_ret
        exact ⟨rfl, hbl.trans (hb11.mono hsr)⟩
      · go_wp2_with (go_at_call 18; refine (known_any _).mono ?_; rintro e w11 ⟨rfl, hb11⟩)
        go_ret
        exact ⟨rfl, hbl.trans (hb11.mono hsr)⟩
end Go.Proofs.Ytjbnhfcacocgeaa
