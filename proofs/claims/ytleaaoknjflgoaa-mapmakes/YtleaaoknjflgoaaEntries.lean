/-
  KEYS WITH THEIR VALUES IN A ROW, as the statement keeps them: what it is that a slice owns them, or can be read; parts of rows; rows laid behind rows; at, put, take.
-/
import Derived.Test.YtleaaoknjflgoaaTheory
import Derived.Test.YtleaaoknjflgoaaMoves
import Derived.Deep.QuietTactic
import Derived.BigQuiet
namespace Go.Proofs.Ytleaaoknjflgoaa
open Go.RowKit Go.Shelf
set_option linter.unusedSimpArgs false

abbrev Nm := ByteArray × Int
theorem _root_.Go.Proofs.Try.info44 : (Try.prog.info? 44).map (fun i => (i.zero, i.size, i.bytes)) = some (some (.agg #[.string ⟨#[]⟩, .int .i64 0]), 2, 24) := by kernel_rfl
def encN (x : Nm) : List Value := [.string x.1, .int .i64 x.2]
def flatN (l : List Nm) : List Value := l.flatMap encN
theorem flatN_nil : flatN [] = [] := rfl
theorem flatN_cons (x : Nm) (l : List Nm) : flatN (x :: l) = encN x ++ flatN l := rfl
theorem flatN_app (l m : List Nm) : flatN (l ++ m) = flatN l ++ flatN m := by simp [flatN]
theorem flatN_len : ∀ l : List Nm, (flatN l).length = l.length * 2
  | [] => rfl
  | x :: l => by rw [flatN_cons, List.length_append, flatN_len l, List.length_cons]; simp [encN]; omega
theorem flatN_get : ∀ (l : List Nm) (k j : Nat) (x : Nm), l[k]? = some x → j < 2 → (flatN l)[k * 2 + j]? = (encN x)[j]?
  | [], k, j, x, h, _ => by simp at h
  | y :: l, 0, j, x, h, hj => by
    simp at h; subst h
    rw [flatN_cons, List.getElem?_append_left (by simp [encN]; omega)]
    simp
  | y :: l, k + 1, j, x, h, hj => by
    rw [flatN_cons, List.getElem?_append_right (by simp [encN]; omega)]
    rw [show (k + 1) * 2 + j - (encN y).length = k * 2 + j by simp [encN]; omega]
    exact flatN_get l k j x (by simpa using h) hj
theorem flatN_one (l : List Nm) (v : Value) (h : v ∈ flatN l) : v.oneCell' = true := by
  simp only [flatN, List.mem_flatMap] at h
  obtain ⟨x, _, hx⟩ := h
  simp [encN] at hx
  rcases hx with rfl | rfl <;> rfl
/-- The slice value v owns the entries L, in a block from B on. -/
def On (w : World) (B : Nat) (v : Value) (L : List Nm) : Prop := w.ownsRow B 44 2 v L.length (flatN L)
theorem On.nil (w : World) (B : Nat) : On w B (.slice none 0 0) [] := World.ownsRow_nil _ _ _ _
theorem On.only {w w' : World} {B : Nat} {v : Value} {L : List Nm} {D : Nat → Prop} (h : On w B v L) (ho : Only D w w') (hv : ∀ k, v.ownBlock = some k → ¬ D k) : On w' B v L := ho.row h hv
theorem On.below {w w' : World} {B : Nat} {v : Value} {L : List Nm} (h : On w B v L) (hb : Below w.heap.size w w') : On w' B v L := h.only (Only.ofBelow hb) (fun _ _ d => d.elim)
theorem On.shape {w : World} {B : Nat} {v : Value} {L : List Nm} (h : On w B v L) : (v = .slice none 0 0 ∧ L = []) ∨ ∃ g cap, v = .slice (some ⟨g, 0, none⟩) L.length cap ∧ B ≤ g ∧ g < w.heap.size ∧ L.length ≤ cap := by
  have hlt := World.ownsRow.lt h
  rcases h.2 with ⟨rfl, hn⟩ | ⟨g, cap, cur, rfl, hb, hg, hnc, rest⟩
  · exact .inl ⟨rfl, List.eq_nil_of_length_eq_zero hn⟩
  · exact .inr ⟨g, cap, rfl, hb, (hlt g rfl).2, hnc⟩

/-- Behind this address, if it is one, lie the entries l. -/
def RnO (w : World) (ao : Option Addr) (l : List Nm) : Prop := (ao = none → l = []) ∧ ∀ a, ao = some a → ∀ j u, (flatN l)[j]? = some u → w.cell? (a.add j) = some u
theorem RnO.nil (w : World) (ao : Option Addr) : RnO w ao [] := ⟨fun _ => rfl, by simp [flatN]⟩
theorem RnO.below {w w' : World} {ao : Option Addr} {l : List Nm} (h : RnO w ao l) (hb : Below w.heap.size w w') : RnO w' ao l := ⟨h.1, fun a ha j u hj => by
  have := h.2 a ha j u hj
  exact (hb.cell (World.block_lt_of_cell? _ _ this)).trans this⟩
theorem RnO.take {w : World} {ao : Option Addr} {l : List Nm} (h : RnO w ao l) (n : Nat) : RnO w ao (l.take n) := ⟨fun e => by rw [h.1 e]; simp, fun a ha j u hj => h.2 a ha j u (by
  have : flatN l = flatN (l.take n) ++ flatN (l.drop n) := by rw [← flatN_app, List.take_append_drop]
  rw [this, List.getElem?_append_left (List.getElem?_eq_some_iff.1 hj).1]; exact hj)⟩
theorem RnO.drop {w : World} {b off : Nat} {l : List Nm} (h : RnO w (some ⟨b, off, none⟩) l) (n : Nat) (hn : n ≤ l.length) : RnO w (some ⟨b, off + n * 2, none⟩) (l.drop n) := ⟨by simp, fun a ha j u hj => by
  cases ha
  have e : flatN l = flatN (l.take n) ++ flatN (l.drop n) := by rw [← flatN_app, List.take_append_drop]
  have e2 : (flatN (l.take n)).length = n * 2 := by rw [flatN_len, List.length_take]; omega
  have := h.2 _ rfl (n * 2 + j) u (by rw [e, List.getElem?_append_right (by omega), e2, Nat.add_sub_cancel_left]; exact hj)
  rw [add_lit] at this ⊢
  rw [Nat.add_assoc]; exact this⟩
theorem slice_hi {w : World} {ao : Option Addr} {l : List Nm} {n cap : Nat} (hr : RnO w ao l) (hn : n ≤ l.length) (hc : l.length ≤ cap) (ha : ∀ a, ao = some a → a.spot = none) :
    ∃ A, (∀ w', (Instr.slice 27 (.slice ao l.length cap) none (some (.int .i64 n)) none).run Try.prog w' = .ok (.slice A n cap) w') ∧ RnO w A (l.take n) ∧ (A = none → ao = none) := by
  refine ⟨if cap = 0 then ao else ao.map (fun x => x.add (0 * 2)), fun w' => ?_, ?_, ?_⟩
  · have h2 : (0 : Int) ≤ (n : Int) ∧ (n : Int) ≤ (cap : Int) := by omega
    simp [Instr.slice, Instr.sliceBounds, Instr.sliceBound, asIntOf, run_underlying Try.underlying27, go_sem, show n ≤ cap by omega, Try.sizeOf44]
  · have : (if cap = 0 then ao else ao.map (fun x => x.add (0 * 2))) = ao := by
      split
      · rfl
      · cases ao with
        | none => rfl
        | some a => obtain ⟨b, o, s⟩ := a; have := ha _ rfl; simp only at this; subst this; rw [Option.map_some, add_lit]; simp
    rw [this]; exact hr.take n
  · split
    · exact id
    · cases ao <;> simp
theorem slice_lo {w : World} {ao : Option Addr} {l : List Nm} {n cap : Nat} (hr : RnO w ao l) (hn : n ≤ l.length) (hc : l.length ≤ cap) (ha : ∀ a, ao = some a → a.spot = none) :
    ∃ A, (∀ w', (Instr.slice 27 (.slice ao l.length cap) (some (.int .i64 n)) none none).run Try.prog w' = .ok (.slice A (l.length - n) (cap - n)) w') ∧ RnO w A (l.drop n) ∧ (A = none → ao = none) := by
  refine ⟨if cap = n then ao else ao.map (fun x => x.add (n * 2)), fun w' => ?_, ?_, ?_⟩
  · have h2 : (0 : Int) ≤ (n : Int) ∧ (n : Int) ≤ (l.length : Int) := by omega
    simp [Instr.slice, Instr.sliceBounds, Instr.sliceBound, asIntOf, run_underlying Try.underlying27, go_sem, hn, hc, show n ≤ cap by omega, Try.sizeOf44]
  · by_cases h : cap = n
    · rw [if_pos h, List.drop_eq_nil_of_le (by omega)]; exact RnO.nil _ _
    · rw [if_neg h]
      cases ao with
      | none => rw [hr.1 rfl]; simp; exact RnO.nil _ _
      | some a => obtain ⟨b, o, s⟩ := a; have := ha _ rfl; simp only at this; subst this; rw [Option.map_some, add_lit]; exact hr.drop n hn
  · split
    · exact id
    · cases ao <;> simp
/-- Entries that are read, laid on entries that are owned. -/
theorem app_ents {w : World} {B : Nat} {v : Value} {p l : List Nm} {ao : Option Addr} {c : Nat} (hown : On w B v p) (hc : ao = none → c = 0) (hrd : RnO w ao l) (hbytes : p.length + l.length ≤ 1000000) (hB : B ≤ w.heap.size) :
    ∃ a' c' w', (Builtin.append_ #[27, 27] 27 #[v, .slice ao l.length c]).run Try.prog w = .ok (.slice a' (p ++ l).length c') w' ∧ On w' B (.slice a' (p ++ l).length c') (p ++ l) ∧ Below B w w' := by
  obtain ⟨i0, hi, hz0, hz1, hz2⟩ := info_parts Try.info44
  cases ao with
  | none =>
    have hl := hrd.1 rfl
    subst hl
    have hc0 := hc rfl
    subst hc0
    obtain ⟨a', c', hv, _, _⟩ := row_form hown
    subst hv
    rw [List.append_nil]
    exact ⟨a', c', w, run_append_owned_none (P := Try.prog) (w := w) B 27 27 44 i0 2 Try.underlying27 hi _ _ _ hown, hown, Below.refl _ _⟩
  | some ad =>
    obtain ⟨v', w', hr, h2, h3, _⟩ := run_append_own (P := Try.prog) w B 27 27 44 i0 (.agg #[.string ⟨#[]⟩, .int .i64 0]) 2 24 Try.underlying27 hi hz0 hz1 hz2 rfl (by decide) v p.length (flatN p) hown ad l.length c (flatN l) (flatN_len l) (fun j u hj => hrd.2 ad rfl j u hj) (flatN_one l) (by unfold maxLen; omega) (by omega) hB
    have hO : On w' B v' (p ++ l) := by unfold On; rw [flatN_app, List.length_append]; exact h2
    obtain ⟨a', c', hv, _, _⟩ := row_form hO
    subst hv
    exact ⟨a', c', w', hr, hO, (Below.refl B w).grown h3 hB (fun k hk => (World.ownsRow.lt hown k hk).1)⟩

/-- A slice value that can be read as the list l. -/
structure Es (w : World) (v : Value) (l : List Nm) : Prop where
  ex : ∃ ao cap, v = .slice ao l.length cap ∧ RnO w ao l ∧ l.length ≤ cap ∧ (ao = none → cap = 0) ∧ (∀ a, ao = some a → a.spot = none)
theorem Es.below {w w' : World} {v : Value} {l : List Nm} (h : Es w v l) (hb : Below w.heap.size w w') : Es w' v l := by
  obtain ⟨ao, cap, h1, h2, h3⟩ := h.ex
  exact ⟨ao, cap, h1, h2.below hb, h3⟩
theorem Es.nil (w : World) : Es w (.slice none 0 0) [] := ⟨none, 0, rfl, RnO.nil _ _, Nat.le_refl _, fun _ => rfl, by simp⟩
theorem On.es {w : World} {B : Nat} {v : Value} {l : List Nm} (h : On w B v l) : Es w v l := by
  rcases h.shape with ⟨rfl, rfl⟩ | ⟨g, cap, rfl, _, _, hc⟩
  · exact Es.nil w
  · refine ⟨some ⟨g, 0, none⟩, cap, rfl, ⟨by simp, fun a ha j u hj => ?_⟩, hc, by simp, fun a ha => by cases ha; rfl⟩
    cases ha
    exact World.ownsRow.cells h (g := g) rfl j u hj
theorem RnO.at {w : World} {ao : Option Addr} {l : List Nm} (h : RnO w ao l) (ha : ∀ a, ao = some a → a.spot = none) {k : Nat} {x : Nm} (hx : l[k]? = some x) : ∃ b off, ao = some ⟨b, off, none⟩ ∧ w.cell? ⟨b, off + k * 2, none⟩ = some (.string x.1) ∧ w.cell? ⟨b, off + k * 2 + 1, none⟩ = some (.int .i64 x.2) := by
  cases ao with
  | none => have := h.1 rfl; subst this; simp at hx
  | some a =>
    obtain ⟨b, off, sp⟩ := a
    have e := ha _ rfl
    simp only at e
    subst e
    have h0 := h.2 _ rfl (k * 2) _ (flatN_get l k 0 x hx (by omega))
    have h1 := h.2 _ rfl (k * 2 + 1) _ (flatN_get l k 1 x hx (by omega))
    rw [add_lit] at h0 h1
    exact ⟨b, off, rfl, h0, by rw [Nat.add_assoc]; exact h1⟩
theorem pos_step {k : ByteArray} : ∀ {l : List Nm} {i : Nat} {x : Nm}, i ≤ pos k l → l[i]? = some x → (i < pos k l ↔ cmpB x.1 k = -1)
  | [], i, x, _, hx => by simp at hx
  | y :: l, 0, x, _, hx => by
    simp only [List.getElem?_cons_zero, Option.some.injEq] at hx
    subst hx
    rw [pos]
    split <;> simp_all
  | y :: l, i + 1, x, hi, hx => by
    rw [pos] at hi ⊢
    split at hi
    · rename_i h
      rw [if_pos h]
      have := pos_step (k := k) (l := l) (i := i) (x := x) (by omega) (by simpa using hx)
      omega
    · omega
set_option maxHeartbeats 2000000 in
set_option maxRecDepth 100000 in
theorem at_any (l : List Nm) (v : Value) (k : ByteArray) (w : World) (h : Es w v l) (hl : l.length ≤ 100000) : Calls Try.prog 8 #[v, .string k] w fun e w' => e = .returned (.tuple #[.int .i64 (pos k l : Nat), .bool (has k l)]) ∧ ∃ n, w' = w.drewN n := by
  obtain ⟨ao, cap, rfl, hr, hc, hn, ha⟩ := h.ex
  have HH := hide (And.intro hr (And.intro ha (pos_le k l)))
  obtain ⟨N, hN⟩ : ∃ N, N = l.length := ⟨_, rfl⟩
  have HN := hide hN
  rw [← hN] at hl ⊢
  obtain ⟨P, hP⟩ : ∃ P, P = pos k l := ⟨_, rfl⟩
  obtain ⟨G, hG⟩ : ∃ G, G = has k l := ⟨_, rfl⟩
  have HP := hide (And.intro hP hG)
  rw [← hP, ← hG]
  clear h hr ha hc hn hN hP hG
  go_enter Try.func8, Try.ntmps8
  go_wp2
  go_loopw [6] (fun v6 wr => ∃ i : Nat, i ≤ P ∧ v6 = .int .i64 i ∧ wr = w) (fun v6 _ => P - (intOf v6).toNat)
  case atStart => exact ⟨0, by omega, rfl, rfl⟩
  case round =>
    obtain ⟨i, hi, rfl, rfl⟩ := hrel
    have hPN : P ≤ N := by have := HH.out.2.2; rw [HP.out.1, HN.out]; exact this
    by_cases hiN : i < N
    · have z1 : (i : Int) < (N : Int) := by omega
      have hx : l[i]? = some (l[i]'(by rw [← HN.out]; exact hiN)) := List.getElem?_eq_getElem _
      generalize l[i]'(by rw [← HN.out]; exact hiN) = x at hx
      obtain ⟨b, off, hao, q0, q1⟩ := HH.out.1.at HH.out.2.1 hx
      have hst := pos_step (k := k) (by rw [← HP.out.1]; exact hi) hx
      rw [← HP.out.1] at hst
      by_cases hlt : i < P
      · have hb : Op.bytesLess x.1.toList k.toList = true := by rw [less_B]; exact decide_eq_true (hst.1 hlt)
        subst hao
        clear hx hst
        go_wp2
        go_roundw
        case rel => exact ⟨i + 1, by omega, by go_num, by first | rfl | trivial⟩
        case measure => simp [intOf]; omega
      · have hb : Op.bytesLess x.1.toList k.toList = false := by rw [less_B]; exact decide_eq_false (fun e => hlt (hst.2 e))
        have e1 : i = P := by omega
        have hg : G = (x.1.toList == k.toList) := by
          rw [HP.out.2]
          unfold has
          rw [← HP.out.1, ← e1, hx]
          simp only
          by_cases e : x.1 = k
          · rw [e]; simp
          · rw [decide_eq_false e]
            symm
            rw [beq_eq_false_iff_ne]
            intro e2
            rw [ByteArray.toList_eq, ByteArray.toList_eq] at e2
            exact e (ba_eq e2)
        subst hao
        subst hg
        have HE := hide e1
        clear hx hst e1
        go_wp2
        go_quiet (fail)
        go_wp2
        go_ret2
        exact ⟨by rw [HE.out]; rfl, _, rfl⟩
    · have z1 : ¬ (i : Int) < (N : Int) := by omega
      have z2 : decide ((i : Int) < (N : Int)) = false := by simpa using z1
      have z3 : decide (i < N) = false := by simpa using hiN
      have e1 : i = P := by omega
      have hg : G = false := by
        rw [HP.out.2]
        unfold has
        rw [← HP.out.1, List.getElem?_eq_none (by rw [← HN.out]; omega)]
      subst hg
      have HE := hide e1
      clear e1
      go_wp2
      go_quiet (fail)
      go_wp2
      go_ret2
      exact ⟨by rw [HE.out]; rfl, _, rfl⟩
end Go.Proofs.Ytleaaoknjflgoaa
