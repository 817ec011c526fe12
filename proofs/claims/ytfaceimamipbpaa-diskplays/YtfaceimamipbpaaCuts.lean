/-
  PROVED: the law DiskCuts of layer 3 (disk), the stage's theorem, returns true and leaves its arguments as they are: a cut has just the first raw writes, a cut of a cut is a cut, and what All tells makes the disk again; for every beginning, every steps and every two numbers, with no condition.
-/
import Derived.Test.YtfaceimamipbpaaOpens
import Derived.Test.YtfaceimamipbpaaCutsM
import Derived.Carry
namespace Go.Proofs.Ytfaceimamipbpaa
open Go.ChangeShapes Go.WideShapes Go.ChangeAt Go.RowKit

theorem Try.cells24 : Try.prog.cellsOf 24 = 4 := by kernel_rfl
theorem Try.cells22 : Try.prog.cellsOf 22 = 1 := by kernel_rfl
theorem Try.cells40 : Try.prog.cellsOf 40 = 3 := by kernel_rfl
theorem addr_add (a : Addr) (i j : Nat) : (a.add i).add j = a.add (i + j) := by
  cases a with
  | mk b o s =>
    unfold Addr.add
    by_cases hi : i = 0
    · subst hi; simp
    · by_cases hj : j = 0
      · subst hj; simp [hi]
      · simp [hi, hj, Nat.add_assoc]

/-- How a disk begins, as it came in. -/
theorem open_start {H : Type} {enc : TypeId × Value → H} {W : World} {v : Value} {d : DataW H} {p : List MemPlace} (h : DataW.Trod enc Try.prog W 0 (fun _ => true) true 24 v d p) :
    ∃ cap u x0 c0 l0 x1 c1 l1, v = .agg #[.int .i64 cap, .int .i64 u, .slice x0 (List.length l0) c0, .slice x1 (List.length l1) c1] ∧ Rd W x0 l0 ∧ Rd W x1 l1 ∧ (x0 = none → c0 = 0) ∧ (x1 = none → c1 = 0) ∧ U8 l0 ∧ U8 l1 := by
  obtain ⟨fuel, hf⟩ := h
  obtain ⟨xs, n, _, hx, hlen, hl2, hea⟩ := DataW.trod_struct Try.underlying24 hf
  rw [Try.cells24] at hlen
  obtain ⟨cs, rfl, hcs, hcc⟩ := cells_agg hlen (by decide)
  rw [hcc] at hea
  match cs, hcs, xs, hl2 with
  | [k0, k1, k2, k3], _, [y0, y1, y2, y3], _ =>
    have e0 : DataW.trod enc Try.prog W 0 (fun _ => true) true n 3 (([k0, k1, k2, k3].drop 0).take (Try.prog.cellsOf 3)) = some y0 := hea 0 _ rfl
    have e1 : DataW.trod enc Try.prog W 0 (fun _ => true) true n 3 (([k0, k1, k2, k3].drop 1).take (Try.prog.cellsOf 3)) = some y1 := hea 1 _ rfl
    have e2 : DataW.trod enc Try.prog W 0 (fun _ => true) true n 22 (([k0, k1, k2, k3].drop 2).take (Try.prog.cellsOf 22)) = some y2 := hea 2 _ rfl
    have e3 : DataW.trod enc Try.prog W 0 (fun _ => true) true n 22 (([k0, k1, k2, k3].drop 3).take (Try.prog.cellsOf 22)) = some y3 := hea 3 _ rfl
    rw [Try.cells3] at e0 e1
    rw [Try.cells22] at e2 e3
    simp only [List.drop_zero, List.take_succ_cons, List.take_zero, List.drop_succ_cons] at e0 e1 e2 e3
    obtain ⟨cap, r0, _, _⟩ := DataW.trod_int Try.underlying3 e0
    obtain ⟨u, r1, _, _⟩ := DataW.trod_int Try.underlying3 e1
    simp only [List.cons.injEq, and_true] at r0 r1
    subst r0 r1
    obtain ⟨x0, c0, l0, rfl, rx, nx, _, ux, _⟩ := open_bytes e2
    obtain ⟨x1, c1, l1, rfl, ry, ny, _, uy, _⟩ := open_bytes e3
    exact ⟨cap, u, x0, c0, l0, x1, c1, l1, rfl, rx, ry, nx, ny, ux, uy⟩

theorem weightsAll_mem {H : Type} (e : TypeId) {n : Nat} : ∀ {l : List (DataW H)}, (DataW.weightsAll Try.prog e l).all (· ≤ n) = true → ∀ d ∈ l, (d.weights Try.prog e).all (· ≤ n) = true
  | [], _, d, hd => by cases hd
  | a :: r, h, d, hd => by
    simp only [DataW.weightsAll, List.all_append, Bool.and_eq_true] at h
    rcases List.mem_cons.1 hd with rfl | hd
    · exact h.1
    · exact weightsAll_mem e h.2 d hd

theorem list3 {α : Type} {l : List α} (h : l.length = 3) : ∃ a b c, l = [a, b, c] := by
  match l, h with
  | [a, b, c], _ => exact ⟨a, b, c, rfl⟩
instance : Inhabited Stp := ⟨⟨0, 0, []⟩⟩
/-- Steps that came in. -/
theorem open_steps {H : Type} {enc : TypeId × Value → H} {W : World} {fuel : Nat} {v : Value} {x : DataW H × List MemPlace} (h : DataW.trod enc Try.prog W 0 (fun _ => true) true fuel 25 [v] = some x) (hw : (x.1.weights Try.prog 25).all (· ≤ reachBytes) = true) :
    ∃ so sc T, v = .slice so (List.length T) sc ∧ StepsAt W so T := by
  rcases Deep.open_slice Try.underlying25 h with ⟨hcs, hx⟩ | ⟨a, len, cap, m, n, D, Pl, hcs, _, hl, hm, hmm, hx, hel⟩
  · simp only [List.cons.injEq, and_true] at hcs
    subst hcs
    exact ⟨none, 0, [], rfl, fun _ => rfl, by simp⟩
  · simp only [List.cons.injEq, and_true] at hcs
    subst hcs
    simp only [if_true] at hmm
    rw [Try.cells40] at hel
    rw [hx] at hw
    simp only [DataW.weights, Try.underlying25, List.all_cons, List.all_append, Bool.and_eq_true] at hw
    have hwD : ∀ i, i < len → ((D i).weights Try.prog 40).all (· ≤ reachBytes) = true := fun i hi => weightsAll_mem 40 hw.2.1 (D i) (List.mem_map.2 ⟨i, List.mem_range.2 hi, rfl⟩)
    obtain ⟨f, hf⟩ := Deep.choose_lt (n := len) (p := fun i (s : Stp) => W.cell? (a.add (i * 3)) = some (.int .i64 s.kind) ∧ W.cell? (a.add (i * 3 + 1)) = some (.int .i64 s.n) ∧ ∃ aj cj, W.cell? (a.add (i * 3 + 2)) = some (.slice aj s.data.length cj) ∧ Rd W aj s.data ∧ (aj = none → cj = 0) ∧ U8 s.data ∧ s.data.length ≤ 140737488355328) (fun i hi => by
      obtain ⟨cs, h1, h2⟩ := hel i (by omega)
      obtain ⟨xs, n', _, hD, hlen, hl2, hea⟩ := DataW.trod_struct Try.underlying40 h2
      rw [Try.cells40] at hlen
      have hwi := hwD i hi
      have hDi : D i = .agg (xs.map (·.1)) := (Prod.mk.inj hD).1
      rw [hDi] at hwi
      obtain ⟨k0, k1, k2, rfl⟩ := list3 hlen
      obtain ⟨y0, y1, y2, rfl⟩ := list3 (show xs.length = 3 from hl2)
      · have e0 : DataW.trod enc Try.prog W 0 (fun _ => true) true n' 3 (([k0, k1, k2].drop 0).take (Try.prog.cellsOf 3)) = some y0 := hea 0 _ rfl
        have e1 : DataW.trod enc Try.prog W 0 (fun _ => true) true n' 3 (([k0, k1, k2].drop 1).take (Try.prog.cellsOf 3)) = some y1 := hea 1 _ rfl
        have e2 : DataW.trod enc Try.prog W 0 (fun _ => true) true n' 22 (([k0, k1, k2].drop 2).take (Try.prog.cellsOf 22)) = some y2 := hea 2 _ rfl
        rw [Try.cells3] at e0 e1
        rw [Try.cells22] at e2
        simp only [List.drop_zero, List.take_succ_cons, List.take_zero, List.drop_succ_cons] at e0 e1 e2
        obtain ⟨k, r0, _, _⟩ := DataW.trod_int Try.underlying3 e0
        obtain ⟨nn, r1, _, _⟩ := DataW.trod_int Try.underlying3 e1
        simp only [List.cons.injEq, and_true] at r0 r1
        subst r0 r1
        obtain ⟨aj, cj, l, rfl, rl, nl, lc, ul, wl⟩ := open_bytes e2
        simp only [DataW.weights, Try.underlying40, List.map_cons, List.map_nil, DataW.weightsEach, List.all_append, Bool.and_eq_true] at hwi
        have hcap : cj ≤ reachBytes := cap_le wl hwi.2.2.1
        obtain ⟨_, _, hc⟩ := World.cells?_some h1
        refine ⟨⟨k, nn, l⟩, ?_, ?_, aj, cj, ?_, rl, nl, ul, ?_⟩
        · have := hc 0 (by omega)
          rw [addr_add, Nat.add_zero] at this
          simpa using this
        · have := hc 1 (by omega)
          rw [addr_add] at this
          simpa using this
        · have := hc 2 (by omega)
          rw [addr_add] at this
          simpa using this
        · simp only
          unfold reachBytes at hcap
          omega)
    refine ⟨some a, cap, (List.range len).map f, by simp, by simp, ?_⟩
    intro a' ha' j s hj
    cases ha'
    rw [List.getElem?_map] at hj
    rcases hr : (List.range len)[j]? with _ | q
    · rw [hr] at hj; simp at hj
    · have hq := List.getElem?_eq_some_iff.1 hr
      have hjl : j < len := by simpa using hq.1
      rw [hr] at hj
      simp only [Option.map_some, Option.some.injEq] at hj
      have : q = j := by have := hq.2; simp at this; exact this.symm
      subst this
      subst hj
      exact hf q hjl

theorem cuts_walk (w : World) (cap u : Int) (x0 x1 so : Option Addr) (c0 c1 sc : Nat) (l0 l1 : List Int) (T : List Stp) (n m : Int) (r0 : Rd w x0 l0) (r1 : Rd w x1 l1) (n0 : x0 = none → c0 = 0) (n1 : x1 = none → c1 = 0) (u0 : U8 l0) (u1 : U8 l1) (hT : StepsAt w so T) :
    Calls Try.prog 4 #[.agg #[.int .i64 cap, .int .i64 u, .slice x0 l0.length c0, .slice x1 l1.length c1], .slice so T.length sc, .int .i64 n, .int .i64 m] w fun e w' => e = .returned (.bool true) ∧ Below w.heap.size w w' := by
  by_cases he : ofE cap u l0 l1 = 0
  · by_cases hns : T.length ≤ 60
    · exact cuts_main w cap u x0 x1 so c0 c1 sc l0 l1 T n m he hns r0 r1 n0 n1 u0 u1 hT
    · exact cuts_long w cap u x0 x1 so c0 c1 T.length sc l0 l1 n m he (by omega) r0 r1 n0 n1 u0 u1
  · exact cuts_no w cap u x0 x1 so c0 c1 T.length sc l0 l1 n m he
end Go.Proofs.Ytfaceimamipbpaa

namespace Go.Proofs.Ytfaceimamipbpaa.diskCuts
open Go.ChangeShapes Go.WideShapes Go.ChangeAt Go.RowKit
set_option linter.unusedVariables false
set_option maxRecDepth 100000 in
theorem lifted (os : Os) (started : os.Started) (H : Type) (enc : TypeId × Value → H) :
    ReturnsInHanded {} Try.checked os 4 .any (Rows.diskCutsSpec.pre6 enc Try.prog Try.f4 Rows.diskCutsRow.domain false) (Rows.diskCutsSpec.post enc Try.prog Try.f4 false true false false) := by
  refine returnsInHanded_of_change_sized (C := Try.checked) own started (by kernel_rfl) Try.func4
    (ChangeSpec.witness6 (enc := enc) (C := Try.checked) false ⟨#[], #[.agg #[.int .i64 0, .int .i64 0, .slice none 0 0, .slice none 0 0], .slice none 0 0, .int .i64 0, .int .i64 0], []⟩ 8 (by kernel_rfl) (by kernel_rfl) (by kernel_rfl) (by kernel_rfl)) ?_
  intro W base args ds gs before hval0 hW hcnd hsz0 _
  have hval : ∀ (j : Nat) t v, Try.f4.params[j]? = some t → args[j]? = some v → Value.okWide Try.prog W .any base t v := hval0
  have hsz : (DataW.weightsEach Try.prog (Try.f4.params.toList ++ Rows.diskCutsSpec.plain.varTypes Try.prog) (ds ++ gs)).all (· ≤ reachBytes) = true := hsz0
  have hW' := hW
  obtain ⟨p, q, hA0, hV, rfl, hfz, hnd⟩ := hW
  have hA : DataW.TrodAll enc Try.prog W 0 (fun _ => true) true Try.f4.params.toList args.toList ds p := hA0
  rw [Try.params4] at hA hsz hval
  obtain ⟨v0, v1, v2, v3, d0, d1, d2, d3, p0, p1, p2, p3, rfl, rfl, rfl, h0, h1, h2, h3⟩ := trodAll_four hA
  obtain ⟨rfl, rfl⟩ := trodVars_none hV
  have k0 := h0
  have k1 := h1
  have k2 := h2
  have k3 := h3
  have lt0 : ∀ x ∈ p0, x.block < W.heap.size := by obtain ⟨m, hm⟩ := k0; exact DataW.trod_lt m _ _ _ hm
  have lt1 : ∀ x ∈ p1, x.block < W.heap.size := by obtain ⟨m, hm⟩ := k1; exact DataW.trod_lt m _ _ _ hm
  have lt2 : ∀ x ∈ p2, x.block < W.heap.size := by obtain ⟨m, hm⟩ := k2; exact DataW.trod_lt m _ _ _ hm
  have lt3 : ∀ x ∈ p3, x.block < W.heap.size := by obtain ⟨m, hm⟩ := k3; exact DataW.trod_lt m _ _ _ hm
  obtain ⟨cap, u, x0, c0, l0, x1, c1, l1, rfl, r0, r1, n0, n1, u0, u1⟩ := open_start h0
  have hw1 : (d1.weights Try.prog 25).all (· ≤ reachBytes) = true := by
    have h : (DataW.weightsEach Try.prog [24, 25, 3, 3] [d0, d1, d2, d3]).all (· ≤ reachBytes) = true := hsz
    simp only [DataW.weightsEach, List.all_append, Bool.and_eq_true] at h
    exact h.2.1
  obtain ⟨n', rfl⟩ := okWide_int Try.underlying3 (hval 2 3 v2 rfl rfl)
  obtain ⟨m', rfl⟩ := okWide_int Try.underlying3 (hval 3 3 v3 rfl rfl)
  obtain ⟨f1, he1⟩ := h1
  obtain ⟨ao1, len1, cap1, rfl⟩ := okWide_slice Try.underlying25 (hval 1 25 v1 rfl rfl)
  have he1' : DataW.trod enc Try.prog W 0 (fun _ => true) true f1 25 [.slice ao1 len1 cap1] = some (d1, p1) := he1
  obtain ⟨so, sc, T, hv1, hT⟩ := open_steps he1' hw1
  rw [hv1] at hval hA hW' k1 ⊢
  clear hA0 hval0
  refine (cuts_walk W cap u x0 x1 so c0 c1 sc l0 l1 T n' m' r0 r1 n0 n1 u0 u1 hT).mono fun e W' ⟨he, bel⟩ => ?_
  subst he
  exact ⟨_, rfl, _, _, _, [], _, [], hW', trodAll_mk1 (shut_bool Try.underlying4 _), (trodAll_cons_mk (Below.trod laidOut (by kernel_rfl) (of_decide_eq_true (by kernel_rfl)) k0 bel lt0) (trodAll_cons_mk (Below.trod laidOut (by kernel_rfl) (of_decide_eq_true (by kernel_rfl)) k1 bel lt1) (trodAll_cons_mk (Below.trod laidOut (by kernel_rfl) (of_decide_eq_true (by kernel_rfl)) k2 bel lt2) (trodAll_cons_mk (Below.trod laidOut (by kernel_rfl) (of_decide_eq_true (by kernel_rfl)) k3 bel lt3) trodAll_mk0)))), rfl, bel.frame _, fun h => by cases h⟩

theorem over : Rows.diskCutsRow.holds Try.pinned (OpenSpec.ofChange Rows.diskCutsSpec) :=
  OpenClaim.holds_of_wide 4 Try.f4 rfl rfl rfl rfl rfl rfl rfl ⟨rfl, rfl, rfl, rfl, rfl⟩ rfl rfl rfl rfl rfl (by kernel_rfl) Try.func4 (by kernel_rfl)
    (of_decide_eq_true (by kernel_rfl)) (by unfold Func.isWrapper; first | (rw [if_pos (by decide +kernel)]; kernel_rfl) | (rw [if_neg (by decide +kernel)]; exact ⟨rfl, rfl⟩))
    (fun os started H enc _ => lifted os started H enc)
end Go.Proofs.Ytfaceimamipbpaa.diskCuts
namespace Go.Proofs.Ytfaceimamipbpaa
/-- The statement. -/
theorem diskCuts_holds : Rows.DiskCutsSaid := diskCuts.over
#print axioms diskCuts_holds
end Go.Proofs.Ytfaceimamipbpaa
