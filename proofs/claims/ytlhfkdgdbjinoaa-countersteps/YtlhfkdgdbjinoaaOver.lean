/-
  counter: over 19 and its closure 22, slices.Clone 20, Steps 15, Sum 7.
-/
import Derived.Test.YtlhfkdgdbjinoaaIter
namespace Go.Proofs.Ytlhfkdgdbjinoaa
open Go.RowKit Go.Shelf
set_option linter.unusedSimpArgs false
attribute [local go_sem] Oper.semAt_some

/-- What is handed over: the places, each with what n is behind that step. -/
def stepsL (n : Int) (l : List Int) : List (Nat × Int) := (List.range l.length).map fun k => (k, sumN n (l.take (k + 1)))
theorem stepsL_len (n : Int) (l : List Int) : (stepsL n l).length = l.length := by simp [stepsL]
theorem stepsL_get {n : Int} {l : List Int} {k : Nat} (h : k < l.length) : (stepsL n l)[k]? = some (k, sumN n (l.take (k + 1))) := by simp [stepsL, h]
theorem stepsL_at {n : Int} {l : List Int} {k : Nat} {x : Nat × Int} (h : (stepsL n l)[k]? = some x) : k < l.length ∧ x = (k, sumN n (l.take (k + 1))) := by
  have hk : k < l.length := by rw [← stepsL_len n l]; exact (List.getElem?_eq_some_iff.1 h).1
  rw [stepsL_get hk] at h
  exact ⟨hk, (Option.some.inj h).symm⟩
def encS (x : Nat × Int) : Array Value := #[.int .i64 (x.1 : Int), .int .i64 x.2]
/-- The blocks that the closure reads. -/
def KS (ao : Option Addr) (l : List Int) (Ln Ll : Nat) (j : Nat) : Prop := j = Ln ∨ j = Ll ∨ ∃ a, ao = some a ∧ l ≠ [] ∧ j = a.block
theorem Nd.same {w W : World} {K : Nat → Prop} {ao : Option Addr} {l : List Int} (h : Nd w ao l) (hS : Same K w W) (hK : ∀ a, ao = some a → l ≠ [] → K a.block) : Nd W ao l :=
  ⟨h.1, fun a ha j u hj => by
    have hb : (a.add j).block = a.block := by unfold Addr.add; split <;> rfl
    rw [World.cell?_of_block (show W.heap[(a.add j).block]? = w.heap[(a.add j).block]? by rw [hb]; exact hS _ (hK a ha (by rintro rfl; simp [n64s] at hj)))]
    exact h.2 a ha j u hj⟩
theorem Nd.blk_lt {w : World} {ao : Option Addr} {l : List Int} (h : Nd w ao l) (hne : l ≠ []) : ∀ a, ao = some a → a.block < w.heap.size := by
  rintro a rfl
  obtain ⟨x, t, rfl⟩ := List.exists_cons_of_ne_nil hne
  obtain ⟨ab, off, e, hc⟩ := h.at (k := 0) (b := x) rfl
  cases e
  exact World.block_lt_of_cell? w _ hc
theorem enters22 : Enters Try.prog 22 := enters_of Try.func22 (by kernel_rfl) rfl

set_option maxRecDepth 100000 in
set_option maxHeartbeats 1000000 in
theorem steps_iter (n : Int) (l : List Int) (ao : Option Addr) (c Ln Ll : Nat) (w : World) (hl : l.length ≤ 1000000) (h1 : w.cell? ⟨Ln, 0, none⟩ = some (.int .i64 n)) (h2 : w.cell? ⟨Ll, 0, none⟩ = some (.slice ao l.length c)) (h : Nd w ao l) :
    Iter 22 #[.pointer (some ⟨Ln, 0, none⟩), .pointer (some ⟨Ll, 0, none⟩)] (stepsL n l) encS (KS ao l Ln Ll) w := by
  intro f D J Jx W hS hs hDK hDlt hJB hY hJ
  have hK : ∀ j, KS ao l Ln Ll j → j < w.heap.size := fun j hj => by
    rcases hj with rfl | rfl | ⟨a, e, hne, rfl⟩
    · exact World.block_lt_of_cell? w _ h1
    · exact World.block_lt_of_cell? w _ h2
    · exact h.blk_lt hne a e
  have hc1 := hS.cell (L := Ln) (.inl rfl) h1
  have hc2 := hS.cell (L := Ll) (.inr (.inl rfl)) h2
  have hn : 1 ≤ 5 := by omega
  refine (callsIn_wide (n := 5)).1 ?_
  rw [stepsL_len]
  obtain ⟨N, hN⟩ : ∃ N, N = l.length := ⟨_, rfl⟩
  rw [← hN] at hc2 hl ⊢
  have HN := hide hN
  have HH := hide (And.intro h1 (And.intro h2 (And.intro h hK)))
  clear hN h1 h2 h hK
  show CallsIn Fence.wide 5 Try.prog 22 #[.func (.yield f) #[] #[], .pointer (some ⟨Ln, 0, none⟩), .pointer (some ⟨Ll, 0, none⟩)] W _
  refine callsIn_of_wp Try.func22 rfl trivial ?_ rfl
  simp only [Try.ntmps22, List.size_toArray, List.length_cons, List.length_nil, Nat.reduceAdd, Nat.reduceSub, Array.replicate_succ, Array.replicate_zero, List.push_toArray, List.append_toArray, List.nil_append, List.cons_append]
  gi_wp2
  gi_loopw [4, 10] (fun s i wr => ∃ k : Nat, k ≤ N ∧ i = .int .i64 k ∧ s = .int .i64 (sumN n (l.take k)) ∧ J k wr ∧ Same (KS ao l Ln Ll) w wr ∧ W.heap.size ≤ wr.heap.size) (fun _ i _ => N - (intOf i).toNat)
  case atStart => exact ⟨0, Nat.zero_le _, rfl, rfl, hJ, hS, Nat.le_refl _⟩
  case round =>
    obtain ⟨k, hk, rfl, rfl, hJk, hSk, hszk⟩ := hrel
    by_cases hlt : k < N
    · have d1 : decide (k < N) = true := by simpa using hlt
      have d1' : (k : Int) < (N : Int) := by omega
      have hkl : k < l.length := by rw [← HN.out]; exact hlt
      obtain ⟨x, hx⟩ : ∃ x, l[k]? = some x := ⟨_, List.getElem?_eq_getElem hkl⟩
      obtain ⟨ab, off, rfl, hck⟩ := (HH.out.2.2.1.same hSk (fun a e hne => .inr (.inr ⟨a, e, hne, rfl⟩))).at hx
      have hst := sumN_take (n := n) hx
      have hyk := hY k _ wr (stepsL_get (n := n) hkl) hJk hSk hszk
      rw [hst] at hyk
      dsimp only [encS] at hyk
      have HK := hide (And.intro hJk (And.intro hSk (And.intro hszk hst)))
      clear hJk hSk hszk hx hst hJ hS
      obtain ⟨fn, tmps, assign, body, hy, hR⟩ := hyk
      gi_wp2
      refine hR.mono ?_
      rintro e W5 ⟨hon, (⟨rfl, hJ5⟩ | ⟨rfl, hJx5⟩)⟩
      · have hS5 := HK.out.2.1.only HH.out.2.2.2 (Nat.le_trans hs HK.out.2.2.1) hon hDK
        have HJ5 := hide (And.intro hJ5 (And.intro hS5 (Nat.le_trans HK.out.2.2.1 hon.size)))
        clear hJ5 hS5 hR hy
        gi_wp2
        go_roundw
        case rel => exact ⟨k + 1, by omega, by go_num, by rw [HK.out.2.2.2], HJ5.out.1, HJ5.out.2.1, HJ5.out.2.2⟩
        case measure => simp [intOf]; omega
      · gi_wp2
        refine bodyPost_ret (results_none rfl _ _ _) rfl ?_
        exact ⟨⟨_, rfl⟩, .inr hJx5⟩
    · obtain rfl : k = N := by omega
      have d1 : decide (k < k) = false := by simp
      have HJ := hide hJk
      clear hJk hSk
      gi_wp2
      go_end0
      exact ⟨⟨_, rfl⟩, .inl HJ.out⟩

theorem over_any (n : Int) (v : Value) (ao : Option Addr) (m c : Nat) (hv : v = .slice ao m c) (w : World) : Calls Try.prog 19 #[.int .i64 n, v] w fun e w' => e = .returned (.func (.func 22) #[] #[.pointer (some ⟨w.heap.size, 0, none⟩), .pointer (some ⟨w.heap.size + 1, 0, none⟩)]) ∧ w' = (w.alloc (.cells #[.int .i64 n] 2)).alloc (.cells #[v] 23) := by
  subst hv
  go_enter Try.func19, Try.ntmps19
  go_wp2
  go_ret
  exact ⟨rfl, rfl⟩

theorem set_one {w : World} {B i : Nat} {cs : Array Value} {ty : TypeId} (v : Value) (h : w.heap[B]? = some (.cells cs ty (0, 0))) : (w.setCell ⟨B, i, none⟩ v).heap[B]? = some (.cells (cs.setIfInBounds i v) ty (0, 0)) ∧ Only (fun j => j = B) w (w.setCell ⟨B, i, none⟩ v) := by
  refine ⟨?_, (Only.ofGrown (grown_setCell w ⟨B, i, none⟩ _)).mono (fun j _ e => by simpa using e.symm)⟩
  rw [heap_setCell_same _ _ _ _ ty _ h]
end Go.Proofs.Ytlhfkdgdbjinoaa
