/-
  THE WALK over the law's helper spoil: it writes over the bytes that it is handed, and grows them: nothing else that was there turns.
-/
import Derived.Test.YtjbnhfcacocgeaaForth
import Derived.Maps.AppendAt
namespace Go.Proofs.Ytjbnhfcacocgeaa
open Go.RowKit

/-- The slice's block is this one, or a newer one. -/
def Near (v v' : Value) (H : Nat) : Prop := ∀ k, v'.ownBlock = some k → v.ownBlock = some k ∨ H ≤ k

theorem grown_trans' {a b c : World} {row : Option Nat} (h1 : a.grownBy b row) (h2 : b.grownBy c row) : a.grownBy c row :=
  ⟨h2.os.trans h1.os, h2.tape.trans h1.tape, h2.output.trans h1.output, Nat.le_trans h1.size h2.size, fun k hk hne => (h2.block k (by have := h1.size; omega) hne).trans (h1.block k hk hne)⟩

theorem grown_near {w wr w1 : World} {v v' : Value} (h : w.grownBy wr v.ownBlock) (hn : Near v v' w.heap.size) (hg : wr.grownBy w1 v'.ownBlock) : w.grownBy w1 v.ownBlock :=
  ⟨hg.os.trans h.os, hg.tape.trans h.tape, hg.output.trans h.output, Nat.le_trans h.size hg.size, fun k hk hne =>
    (hg.block k (by have := h.size; omega) (fun e => by
      rcases hn k e.symm with h1 | h1
      · exact hne h1.symm
      · omega)).trans (h.block k hk hne)⟩

/-- A byte of what is owned is written. -/
theorem Own.store {e : TypeId} {w : World} {B n cap k : Nat} {ao : Option Addr} {l : List Int} (h : Own e w B (.slice ao n cap) l) (hk : k < l.length) :
    ∃ g, ao = some ⟨g, 0, none⟩ ∧ (∃ u, w.cell? ⟨g, k, none⟩ = some u) ∧ w.frozen? ⟨g, k, none⟩ = false ∧
      ∀ x, Own e (w.setCell ⟨g, k, none⟩ (.int .u8 x)) B (.slice ao n cap) (l.set k x) ∧ w.grownBy (w.setCell ⟨g, k, none⟩ (.int .u8 x)) (some g) := by
  have h2 := h.2
  rcases h2 with ⟨h1, h3⟩ | ⟨g, c, cur, h1, _⟩
  · omega
  · simp only [Value.slice.injEq] at h1
    obtain ⟨rfl, rfl, rfl⟩ := h1
    refine ⟨g, rfl, ?_, World.ownsRow.frozenAt h k, fun x => ?_⟩
    · rw [World.ownsRow.cellAt h k (by omega)]
      exact ⟨_, List.getElem?_eq_getElem (by simpa [u8s] using hk)⟩
    · obtain ⟨r1, r2⟩ := World.ownsRow.stored h k (.int .u8 x)
      refine ⟨?_, r2⟩
      unfold Own
      rw [List.length_set]
      have : u8s (l.set k x) = (u8s l).set k (.int .u8 x) := by simp [u8s, List.map_set]
      rw [this]
      exact r1

set_option maxHeartbeats 400000 in
set_option maxRecDepth 100000 in
theorem spoil_any (ao : Option Addr) (cap B : Nat) (l : List Int) (w : World) (hown : Own 5 w B (.slice ao l.length cap) l) (hB : B ≤ w.heap.size) (hl : l.length + 9 ≤ 140737488355328) :
    Calls Try.prog 17 #[.slice ao l.length cap] w fun e w' => e = .returned (.tuple #[]) ∧ w.grownBy w' (Value.ownBlock (.slice ao l.length cap)) := by
  obtain ⟨i0, hi, hz0, hz1, hz2⟩ := info_parts Try.info5
  go_enter Try.func17, Try.ntmps17
  go_wp2
  go_loopw [2] (fun i wr => ∃ (k : Nat) (l' : List Int), k ≤ l.length ∧ i = .int .i64 k ∧ l'.length = l.length ∧ Own 5 wr B (.slice ao l.length cap) l' ∧ w.grownBy wr (Value.ownBlock (.slice ao l.length cap)))
    (fun i _ => l.length - (intOf i).toNat)
  case atStart => exact ⟨0, l, by omega, rfl, rfl, hown, World.grownBy.refl _ _⟩
  case round =>
    obtain ⟨k, l', hk, rfl, hll, hown', hg⟩ := hrel
    have HLL : Hid (l'.length = l.length) := hll
    by_cases hlt : k < l.length
    · obtain ⟨g, rfl, ⟨u, hu⟩, hfz, hst⟩ := hown'.store (k := k) (by omega)
      obtain ⟨s1, s2⟩ := hst 90
      have hg' : w.grownBy (wr.setCell ⟨g, k, none⟩ (.int .u8 90)) (Value.ownBlock (.slice (some ⟨g, 0, none⟩) l.length cap)) := grown_trans hg s2
      clear hst s2 hg hll
      go_wp2
      go_roundw
      case rel => exact ⟨k + 1, l'.set k 90, by omega, by go_num, by simpa using HLL.out, s1, hg'⟩
      case measure => simp [intOf]; omega
    · clear hll
      go_wp2
      have hs := hg.size
      go_loopw [0, 3] (fun v i wr' => ∃ (k : Nat) (l2 : List Int), k ≤ 9 ∧ i = .int .i64 k ∧ l2.length = l.length + k ∧ Own 5 wr' B v l2 ∧ Near (.slice ao l.length cap) v w.heap.size ∧ w.grownBy wr' (Value.ownBlock (.slice ao l.length cap)))
        (fun _ i _ => 9 - (intOf i).toNat)
      case atStart => exact ⟨0, l', by omega, rfl, by rw [HLL.out]; rfl, hown', fun k hk => .inl hk, hg⟩
      case round =>
        obtain ⟨k2, l2, hk2, rfl, hll2, hown2, hnear, hg2⟩ := hrel
        have HL2 : Hid (l2.length = l.length + k2) := hll2
        have hs2 := hg2.size
        by_cases hlt2 : k2 < 9
        · have hle2 : l2.length + 1 ≤ 140737488355328 := by omega
          clear hll2
          go_wp2_with (at_builtin; refine wpList_append_own_at _ rfl _ _ 23 rfl B 5 i0 (.int .u8 0) 1 1 Try.underlying23 hi hz0 hz1 hz2 rfl (by decide) _ _ _ rfl (World.ownsRow.alloc hown2 _) ⟨wr.heap.size, 0, none⟩ 1 1 [.int .u8 91] rfl rfl (cell_one_new _ _ _) (by simp [Value.oneCell']) (by unfold maxLen; omega) (by omega) (by simp; omega) ?_)
          intro v' w1 hown' hgrow _ hat
          have hg3 : w.grownBy w1 (Value.ownBlock (.slice ao l.length cap)) := grown_near (grown_trans' hg2 (World.grownBy_alloc _ _ _)) hnear hgrow
          have hnear' : Near (.slice ao l.length cap) v' w.heap.size := by
            intro k hk
            rcases hat with h | h
            · rw [h] at hk; exact hnear k hk
            · rw [h] at hk; simp at hk; right; omega
          have hown3 : Own 5 w1 B v' (l2 ++ [91]) := by
            unfold Own; rw [u8s_append, List.length_append]; exact hown'
          clear hown' hgrow hat hown2 hnear hg2
          go_wp2
          go_roundw
          case rel => exact ⟨k2 + 1, l2 ++ [91], by omega, by go_num, by rw [List.length_append, HL2.out]; rfl, hown3, hnear', hg3⟩
          case measure => simp [intOf]; omega
        · clear hll2
          go_wp2
          go_end0
          exact ⟨rfl, hg2⟩
end Go.Proofs.Ytjbnhfcacocgeaa
