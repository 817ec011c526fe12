/-
  THE STATEMENT's OWN in: whether a node stands in a list.
-/
import Derived.Test.YtleaaoknjflgoaaJoining
import Derived.Test.YtleaaoknjflgoaaMoves
namespace Go.Proofs.Ytleaaoknjflgoaa
open Go.RowKit Go.Shelf
set_option linter.unusedSimpArgs false

theorem _root_.Go.Proofs.Try.info24 : (Try.prog.info? 24).map (fun i => (i.zero, i.size, i.bytes)) = some (some (.pointer none), 1, 8) := by kernel_rfl
/-- The nodes l in a row that is owned. -/
def Ns (w : World) (B : Nat) (v : Value) (l : List T) : Prop := w.ownsRow B 24 1 v l.length (l.map T.ptr)
theorem Ns.nil (w : World) (B : Nat) : Ns w B (.slice none 0 0) [] := World.ownsRow_nil _ _ _ _
theorem Ns.only {D : Nat → Prop} {w w' : World} {B : Nat} {v : Value} {l : List T} (h : Ns w B v l) (ho : Only D w w') (hv : ∀ k, v.ownBlock = some k → ¬ D k) : Ns w' B v l := ho.row h hv
theorem Ns.below {w w' : World} {B : Nat} {v : Value} {l : List T} (h : Ns w B v l) (hb : Below w.heap.size w w') : Ns w' B v l := h.only (Only.ofBelow hb) (fun _ _ d => d.elim)
theorem Ns.shape {w : World} {B : Nat} {v : Value} {l : List T} (h : Ns w B v l) : (v = .slice none 0 0 ∧ l = []) ∨ ∃ g cap, v = .slice (some ⟨g, 0, none⟩) l.length cap ∧ B ≤ g ∧ g < w.heap.size ∧ l.length ≤ cap := by
  have hlt := World.ownsRow.lt h
  rcases h.2 with ⟨rfl, hn⟩ | ⟨g, cap, cur, rfl, hb, hg, hnc, rest⟩
  · exact .inl ⟨rfl, List.eq_nil_of_length_eq_zero hn⟩
  · exact .inr ⟨g, cap, rfl, hb, (hlt g rfl).2, hnc⟩
theorem Ns.at {w : World} {B g n cap : Nat} {l : List T} (h : Ns w B (.slice (some ⟨g, 0, none⟩) n cap) l) {k : Nat} {x : T} (hx : l[k]? = some x) : w.cell? ⟨g, k, none⟩ = some x.ptr := by
  have := World.ownsRow.cells h (g := g) rfl k x.ptr (by rw [List.getElem?_map, hx]; rfl)
  rw [add_lit, Nat.zero_add] at this
  exact this

set_option maxHeartbeats 2000000 in
set_option maxRecDepth 100000 in
theorem in_any (l : List T) (x : T) (v : Value) (B : Nat) (w : World) (h : Ns w B v l) (hl : ∀ y ∈ l, In w y) (hx : In w x) (hn : l.length ≤ 100000) :
    Calls Try.prog 59 #[v, x.ptr] w fun e w' => e = .returned (.bool (decide (x ∈ l))) ∧ w' = w := by
  obtain ⟨xa, hxa⟩ := x.ptr_shape
  obtain ⟨N, hN⟩ : ∃ N, N = l.length := ⟨_, rfl⟩
  obtain ⟨R, hR⟩ : ∃ R, R = decide (x ∈ l) := ⟨_, rfl⟩
  rw [← hR]
  obtain ⟨ao, cap, hv⟩ : ∃ ao cap, v = .slice ao N cap := by
    rcases h.shape with ⟨rfl, rfl⟩ | ⟨g, cap, rfl, _⟩
    · exact ⟨none, 0, by rw [hN]; rfl⟩
    · exact ⟨_, cap, by rw [hN]⟩
  subst hv
  rw [← hN] at hn
  have HH := hide (And.intro hN (And.intro hR (And.intro h (And.intro hl (And.intro hx hxa)))))
  rw [hxa]
  clear hN hR h hl hx hxa
  go_enter Try.func59, Try.ntmps59
  go_wp2
  go_loopw [5] (fun v5 wr => ∃ i : Nat, i ≤ N ∧ v5 = .int .i64 ((i : Int) - 1) ∧ wr = w ∧ Hid (x ∉ l.drop i)) (fun v5 _ => (intOf v5 + 1).toNat)
  case atStart => exact ⟨N, Nat.le_refl _, rfl, rfl, hide (by rw [HH.out.1, List.drop_length]; exact List.not_mem_nil)⟩
  case round =>
    obtain ⟨i, hi, rfl, rfl, HD⟩ := hrel
    cases i with
    | zero =>
      have z1 : ¬ (0 : Int) ≤ ((0 : Nat) : Int) - 1 := by omega
      have hr : R = false := by rw [HH.out.2.1]; exact decide_eq_false HD.out
      subst hr
      go_wp2
      go_ret
      exact ⟨rfl, rfl⟩
    | succ i =>
      have e0 : (((i + 1 : Nat) : Int) - 1) = (i : Int) := by omega
      rw [e0]
      have z1 : (0 : Int) ≤ (i : Int) := by omega
      have z2 : (i : Int) < (N : Int) := by omega
      have hy : l[i]? = some (l[i]'(by rw [← HH.out.1]; omega)) := List.getElem?_eq_getElem _
      generalize l[i]'(by rw [← HH.out.1]; omega) = y at hy
      have hin : In wr y := HH.out.2.2.2.1 y (List.mem_of_getElem? hy)
      obtain ⟨g, hao, hc⟩ : ∃ g, ao = some ⟨g, 0, none⟩ ∧ wr.cell? ⟨g, i, none⟩ = some y.ptr := by
        rcases HH.out.2.2.1.shape with ⟨_, e⟩ | ⟨g, c, e, _⟩
        · rw [e] at hy; simp at hy
        · simp only [Value.slice.injEq] at e
          obtain ⟨rfl, -, rfl⟩ := e
          exact ⟨g, rfl, HH.out.2.2.1.at hy⟩
      subst hao
      have hdr : l.drop i = y :: l.drop (i + 1) := by
        rw [List.drop_eq_getElem_cons (by rw [← HH.out.1]; omega)]
        congr 1
        exact (Option.some.inj ((List.getElem?_eq_getElem _).symm.trans hy))
      obtain ⟨ya, hya⟩ := y.ptr_shape
      rw [hya] at hc
      by_cases hyx : y = x
      · have hq : (binOp .eql 24 (.pointer ya) (.pointer xa)).run Try.prog wr = .ok (.bool true) wr := by
          rw [← hya, ← HH.out.2.2.2.2.2, hyx]; exact eql_same x wr
        have hr : R = true := by rw [HH.out.2.1]; exact decide_eq_true (by rw [← hyx]; exact List.mem_of_getElem? hy)
        subst hr
        clear hy hin hdr hya hyx e0
        go_wp2
        go_ret
        exact ⟨rfl, rfl⟩
      · have hq : (binOp .eql 24 (.pointer ya) (.pointer xa)).run Try.prog wr = .ok (.bool false) wr := by
          rw [← hya, ← HH.out.2.2.2.2.2]; exact eql_other hin HH.out.2.2.2.2.1 hyx
        have HX := hide (show x ∉ l.drop i by rw [hdr]; intro e; rcases List.mem_cons.1 e with e | e; exact hyx e.symm; exact HD.out e)
        clear hy hin hdr hya hyx e0
        go_wp2
        go_roundw
        case rel => exact ⟨i, by omega, by go_num, by first | rfl | trivial, hide HX.out⟩
        case measure => simp [intOf] <;> omega
end Go.Proofs.Ytleaaoknjflgoaa
