/-
  HOW ARGUMENTS COME IN: slices of texts, operations, operations in a row.
  OPS: textAll 64, told 47 and 63, Text 12, TextAll 18.
-/
import Derived.Test.YtpepgoelnagoaaaGreatDoorMg10
import Derived.OpenShut
import Derived.Lib.SmallJoins
import Derived.ShutString
import Derived.ChangeOld
import Derived.Below
import Derived.SliceStrings
import Derived.Deep.Grids
import Derived.ProofKit
import Derived.SizedLaws
import Derived.Test.YtpepgoelnagoaaaGreatDoorMg11
namespace Go.Proofs.YtpepgoelnagoaaaGreatDoor
open Go.ChangeShapes Go.WideShapes Go.ChangeAt Go.RowKit Go.Lib Go.Shelf

theorem own : ownKnob Tryz.prog.godebug = none := by kernel_rfl
theorem laidOut : laidOutB Tryz.prog = true := by kernel_rfl
theorem Tryz.cells2o : Tryz.prog.cellsOf 2 = 1 := by kernel_rfl
theorem Tryz.cells9o : Tryz.prog.cellsOf 9 = 1 := by kernel_rfl
theorem Tryz.cells30o : Tryz.prog.cellsOf 30 = 1 := by kernel_rfl
theorem Tryz.cells31o : Tryz.prog.cellsOf 31 = 1 := by kernel_rfl
theorem Tryz.cells32o : Tryz.prog.cellsOf 32 = 1 := by kernel_rfl
theorem Tryz.cells34o : Tryz.prog.cellsOf 34 = 6 := by kernel_rfl
theorem Tryz.bytes9o : Tryz.prog.bytesOf 9 = 16 := by kernel_rfl
theorem Tryz.bytes34o : Tryz.prog.bytesOf 34 = 80 := by kernel_rfl
theorem addr_add0 (b : Addr) : b.add 0 = b := by unfold Addr.add; split <;> simp_all
instance : Inhabited ByteArray := ⟨⟨#[]⟩⟩
instance : Inhabited Od := ⟨⟨[], 0, ⟨#[]⟩, 0, 0, ⟨#[]⟩⟩⟩
instance : Inhabited (Option Addr) := ⟨none⟩
theorem weightsAll_mem {H : Type} {P : Program} {e : TypeId} {d : DataW H} : ∀ {l : List (DataW H)}, d ∈ l → (DataW.weightsAll P e l).all (· ≤ reachBytes) = true → (d.weights P e).all (· ≤ reachBytes) = true
  | a :: r, h, hw => by
    simp only [DataW.weightsAll, List.all_append, Bool.and_eq_true] at hw
    rcases List.mem_cons.1 h with rfl | h
    · exact hw.1
    · exact weightsAll_mem h hw.2
/-- A slice of texts that came in. -/
theorem open_path {H : Type} {enc : TypeId × Value → H} {W : World} {fuel : Nat} {v : Value} {x : DataW H × List MemPlace} (h : DataW.trod enc Tryz.prog W 0 (fun _ => true) true fuel 30 [v] = some x) (hw : (x.1.weights Tryz.prog 30).all (· ≤ reachBytes) = true) :
    ∃ ao c l, v = .slice ao (List.length l) c ∧ Ki.Rp W ao c l ∧ ∀ s ∈ l, s.size ≤ maxLen := by
  rcases Deep.open_slice Tryz.underlying30 h with ⟨hcs, hx⟩ | ⟨a, len, cap, m, n, D, Pl, hcs, _, hl, hm, hmm, hx, hel⟩
  · simp only [List.cons.injEq, and_true] at hcs
    subst hcs
    exact ⟨none, 0, [], rfl, ⟨⟨fun _ => rfl, fun _ h => by cases h⟩, by simp, fun _ => rfl, by simp⟩, by simp⟩
  · simp only [List.cons.injEq, and_true] at hcs
    subst hcs
    simp only [if_true] at hmm
    rw [Tryz.cells9o] at hel
    rw [hx] at hw
    simp only [DataW.weights, Tryz.underlying30, Tryz.bytes9o, List.all_cons, List.all_append, Bool.and_eq_true, decide_eq_true_eq] at hw
    obtain ⟨f, hf⟩ := Deep.choose_lt (n := len) (p := fun i (s : ByteArray) => W.cell? (a.add i) = some (.string s) ∧ s.size ≤ maxLen) (fun i hi => by
      obtain ⟨cs, h1, h2⟩ := hel i (by omega)
      obtain ⟨s, hs, _, hsm⟩ := DataW.trod_string Tryz.underlying9 h2
      obtain ⟨_, _, hc⟩ := World.cells?_some h1
      refine ⟨s, ?_, hsm⟩
      have := hc 0 (by omega)
      rw [hs, addr_add0] at this
      simpa using this)
    refine ⟨some a, cap, (List.range len).map f, by simp, ⟨⟨by simp, ?_⟩, by simpa using hl, by simp, ?_⟩, ?_⟩
    · intro a' ha' j s hj
      cases ha'
      rw [List.getElem?_map] at hj
      rcases hr : (List.range len)[j]? with _ | q
      · rw [hr] at hj; simp at hj
      · have hq := List.getElem?_eq_some_iff.1 hr
        have hjl : j < len := by simpa using hq.1
        rw [hr] at hj
        simp only [Option.map_some, Option.some.injEq] at hj
        have : q = j := by have := hq.2; simp at this; exact this.symm
        subst this
        subst hj
        exact (hf q hjl).1
    · have h1 := hw.1
      simp only [List.length_map, List.length_range] at h1 ⊢
      unfold reachBytes at h1
      omega
    · intro s hs
      obtain ⟨q, hq, rfl⟩ := List.mem_map.1 hs
      exact (hf q (List.mem_range.1 hq)).2
theorem list6o {α : Type} {l : List α} (h : l.length = 6) : ∃ a b c d e f, l = [a, b, c, d, e, f] := by
  match l, h with
  | [a, b, c, d, e, f], _ => exact ⟨a, b, c, d, e, f, rfl⟩
/-- Texts that are no longer than any. -/
def OpSm (o : Od) : Prop := (∀ s ∈ o.p, s.size ≤ maxLen) ∧ o.s.size ≤ maxLen ∧ o.t.size ≤ maxLen ∧ I64 o.n
/-- An operation's cells. -/
theorem open_op {H : Type} {enc : TypeId × Value → H} {W : World} {fuel : Nat} {u0 u1 u2 u3 u4 u5 : Value} {x : DataW H × List MemPlace} (h : DataW.trod enc Tryz.prog W 0 (fun _ => true) true fuel 34 [u0, u1, u2, u3, u4, u5] = some x) (hw : (x.1.weights Tryz.prog 34).all (· ≤ reachBytes) = true) :
    ∃ pa pc, ∃ o : Od, u0 = .slice pa o.p.length pc ∧ u1 = .int .i64 o.k ∧ u2 = .string o.s ∧ u3 = .int .i64 o.d ∧ u4 = .int .i64 o.n ∧ u5 = .string o.t ∧ Ki.Rp W pa pc o.p ∧ OpSm o := by
  obtain ⟨xs, n, _, hx, hl, hlen, hf⟩ := DataW.trod_struct Tryz.underlying34 h
  obtain ⟨y0, y1, y2, y3, y4, y5, rfl⟩ := list6o (show xs.length = 6 from hlen)
  have e0 : DataW.trod enc Tryz.prog W 0 (fun _ => true) true n 30 (([u0, u1, u2, u3, u4, u5].drop 0).take (Tryz.prog.cellsOf 30)) = some y0 := hf 0 _ rfl
  have e1 : DataW.trod enc Tryz.prog W 0 (fun _ => true) true n 31 (([u0, u1, u2, u3, u4, u5].drop 1).take (Tryz.prog.cellsOf 31)) = some y1 := hf 1 _ rfl
  have e2 : DataW.trod enc Tryz.prog W 0 (fun _ => true) true n 9 (([u0, u1, u2, u3, u4, u5].drop 2).take (Tryz.prog.cellsOf 9)) = some y2 := hf 2 _ rfl
  have e3 : DataW.trod enc Tryz.prog W 0 (fun _ => true) true n 32 (([u0, u1, u2, u3, u4, u5].drop 3).take (Tryz.prog.cellsOf 32)) = some y3 := hf 3 _ rfl
  have e4 : DataW.trod enc Tryz.prog W 0 (fun _ => true) true n 2 (([u0, u1, u2, u3, u4, u5].drop 4).take (Tryz.prog.cellsOf 2)) = some y4 := hf 4 _ rfl
  have e5 : DataW.trod enc Tryz.prog W 0 (fun _ => true) true n 9 (([u0, u1, u2, u3, u4, u5].drop 5).take (Tryz.prog.cellsOf 9)) = some y5 := hf 5 _ rfl
  rw [Tryz.cells30o] at e0
  rw [Tryz.cells31o] at e1
  rw [Tryz.cells9o] at e2 e5
  rw [Tryz.cells32o] at e3
  rw [Tryz.cells2o] at e4
  simp only [List.drop_zero, List.take_succ_cons, List.take_zero, List.drop_succ_cons] at e0 e1 e2 e3 e4 e5
  rw [hx] at hw
  simp only [DataW.weights, Tryz.underlying34, List.map_cons, List.map_nil, DataW.weightsEach, List.all_append, Bool.and_eq_true] at hw
  obtain ⟨k, r1, _, _⟩ := DataW.trod_int Tryz.underlying31 e1
  obtain ⟨s, r2, _, hs⟩ := DataW.trod_string Tryz.underlying9 e2
  obtain ⟨d, r3, _, _⟩ := DataW.trod_int Tryz.underlying32 e3
  obtain ⟨m, r4, _, hm⟩ := DataW.trod_int Tryz.underlying2 e4
  obtain ⟨t, r5, _, ht⟩ := DataW.trod_string Tryz.underlying9 e5
  simp only [List.cons.injEq, and_true] at r1 r2 r3 r4 r5
  subst r1 r2 r3 r4 r5
  obtain ⟨ao, c, l, rfl, q, hq⟩ := open_path e0 hw.1
  have hm' : I64 m := by
    have hm1 := hm
    simp only [Lit.wf, Bool.and_eq_true, decide_eq_true_eq, show IntKind.i64.min = -9223372036854775808 from rfl, show IntKind.i64.max = 9223372036854775807 from rfl] at hm1
    exact hm1
  exact ⟨ao, c, ⟨l, k, s, d, m, t⟩, rfl, rfl, rfl, rfl, rfl, rfl, q, hq, hs, ht, hm'⟩
/-- Operations in a slice. -/
theorem open_ops {H : Type} {enc : TypeId × Value → H} {W : World} {fuel : Nat} {v : Value} {x : DataW H × List MemPlace} (h : DataW.trod enc Tryz.prog W 0 (fun _ => true) true fuel 22 [v] = some x) (hw : (x.1.weights Tryz.prog 22).all (· ≤ reachBytes) = true) :
    ∃ ao c, ∃ l : List Od, v = .slice ao (List.length l) c ∧ Rq W ao l ∧ l.length ≤ 8796093021952 ∧ ∀ o ∈ l, OpSm o := by
  rcases Deep.open_slice Tryz.underlying22 h with ⟨hcs, _⟩ | ⟨a, len, cap, m, n, D, Pl, hcs, _, hl, hm, hmm, hx, hel⟩
  · simp only [List.cons.injEq, and_true] at hcs
    subst hcs
    exact ⟨none, 0, [], rfl, fun i o h => by simp at h, by simp, by simp⟩
  · simp only [List.cons.injEq, and_true] at hcs
    subst hcs
    simp only [if_true] at hmm
    rw [Tryz.cells34o] at hel
    rw [hx] at hw
    simp only [DataW.weights, Tryz.underlying22, Tryz.bytes34o, List.all_cons, List.all_append, Bool.and_eq_true, decide_eq_true_eq] at hw
    have hsp : 0 < len → a.spot = none := fun h0 => by
      obtain ⟨cs, h1, h2⟩ := hel 0 (by omega)
      obtain ⟨xs, n', _, _, hl', _, _⟩ := DataW.trod_struct Tryz.underlying34 h2
      rw [Tryz.cells34o] at hl'
      obtain ⟨c0, c1, c2, c3, c4, c5, rfl⟩ := list6o hl'
      obtain ⟨_, _, hc⟩ := World.cells?_some h1
      have q0 := hc 0 (by omega)
      simpa [Addr.add] using World.cell?_spot q0
    obtain ⟨f, hf⟩ := Deep.choose_lt (n := len) (p := fun i (o : Od) => OpSm o ∧ ∃ b off pa pc, some a = some ⟨b, off, none⟩ ∧ Ki.Rp W pa pc o.p ∧ W.cell? ⟨b, off + i * 6, none⟩ = some (.slice pa o.p.length pc) ∧ W.cell? ⟨b, off + i * 6 + 1, none⟩ = some (.int .i64 o.k) ∧ W.cell? ⟨b, off + i * 6 + 2, none⟩ = some (.string o.s) ∧ W.cell? ⟨b, off + i * 6 + 3, none⟩ = some (.int .i64 o.d) ∧ W.cell? ⟨b, off + i * 6 + 4, none⟩ = some (.int .i64 o.n) ∧ W.cell? ⟨b, off + i * 6 + 5, none⟩ = some (.string o.t)) (fun i hi => by
      obtain ⟨cs, h1, h2⟩ := hel i (by omega)
      obtain ⟨xs, n', _, _, hl', _, _⟩ := DataW.trod_struct Tryz.underlying34 h2
      rw [Tryz.cells34o] at hl'
      obtain ⟨c0, c1, c2, c3, c4, c5, rfl⟩ := list6o hl'
      obtain ⟨pa, pc, o, rfl, rfl, rfl, rfl, rfl, rfl, hr, ho⟩ := open_op h2 (weightsAll_mem (List.mem_map.2 ⟨i, List.mem_range.2 hi, rfl⟩) hw.2.1)
      obtain ⟨_, _, hc⟩ := World.cells?_some h1
      have q0 := hc 0 (by omega)
      have q1 := hc 1 (by omega)
      have q2 := hc 2 (by omega)
      have q3 := hc 3 (by omega)
      have q4 := hc 4 (by omega)
      have q5 := hc 5 (by omega)
      obtain ⟨b, off, spot⟩ := a
      have hspot : spot = none := hsp (by omega)
      subst hspot
      simp only [add_lit] at q0 q1 q2 q3 q4 q5
      exact ⟨o, ho, b, off, pa, pc, rfl, hr, by simpa using q0, by simpa using q1, by simpa using q2, by simpa using q3, by simpa using q4, by simpa using q5⟩)
    refine ⟨some a, cap, (List.range len).map f, by simp, fun j x hj => ?_, ?_, ?_⟩
    · rw [List.getElem?_map] at hj
      obtain ⟨i, hi, rfl⟩ := Option.map_eq_some_iff.1 hj
      have hjl := (List.getElem?_eq_some_iff.1 hi).1
      rw [List.length_range] at hjl
      rw [List.getElem?_range hjl] at hi
      cases hi
      exact (hf j hjl).2
    · have h1 := hw.1
      simp only [List.length_map, List.length_range] at h1 ⊢
      unfold reachBytes at h1
      omega
    · intro o ho
      obtain ⟨q, hq, rfl⟩ := List.mem_map.1 ho
      exact (hf q (List.mem_range.1 hq)).1
end Go.Proofs.YtpepgoelnagoaaaGreatDoor
namespace Go.Proofs.YtpepgoelnagoaaaGreatDoor
open Go.RowKit Go.Shelf
set_option linter.unusedSimpArgs false
set_option linter.unusedVariables false
attribute [local go_sem] Oper.semAt_some

def txB (o : Od) : ByteArray := ⟨(txO o).toArray⟩
theorem txB_map (l : List Od) : (l.map txB).map (·.data.toList) = l.map txO := by simp [txB]
set_option maxHeartbeats 4000000 in
set_option maxRecDepth 100000 in
theorem textAll_any (ao : Option Addr) (cap : Nat) (ps : List Od) (w : World) (hr : Rq w ao ps) (hf : OkL ps) (hE : EnvO w) :
    Calls Tryz.prog 64 #[.slice ao ps.length cap] w fun e w' => e = .returned (.string ⟨(txA ps).toArray⟩) ∧ Below w.heap.size w w' := by
  by_cases hnil : ps = []
  · subst hnil
    go_enter Tryz.func64, Tryz.ntmps64
    go_wp2
    go_ret
    exact ⟨rfl, Below.refl _ _⟩
  have hlen := hf.len
  have hpos : ps.length ≠ 0 := fun h => hnil (List.eq_nil_of_length_eq_zero h)
  have hz : ((ps.length : Int) == 0) = false := by simp; exact hnil
  have hTX : Hid (∀ W v, Os W w.heap.size v (ps.map txB) → Calls Tryz.prog 104 #[v, .string ⟨#[59, 32]⟩] W fun e w' => e = .returned (.string ⟨(txA ps).toArray⟩) ∧ Below W.heap.size W w') := hide (fun W v hv => by
    have hj : ((ps.map txB).map (·.data.toList)) = ps.map txO := txB_map ps
    have := joinW_any ⟨#[59, 32]⟩ hv (by simpa using hnil) (by simp; omega) (by
      rw [hj]
      have h1 := joinL_len (B := 9000) (xs := ps.map txO) (sep := [59, 32]) (fun x hx => by
        obtain ⟨o, ho, rfl⟩ := List.mem_map.1 hx
        exact txO_len (hf.ok o ho) (hf.num o ho))
      rw [List.length_map] at h1
      have h2 : (9000 + [59, 32].length) * ps.length ≤ 9002 * 100000 := Nat.mul_le_mul (by simp) hlen
      exact Nat.le_trans h1 (Nat.le_trans h2 (by omega)))
    rw [hj] at this
    unfold txA
    rw [if_neg hnil]
    exact this)
  generalize (⟨(txA ps).toArray⟩ : ByteArray) = X at hTX ⊢
  go_enter Tryz.func64, Tryz.ntmps64
  go_wp2
  go_loopw [3, 11] (fun v i wr => ∃ (k : Nat), k ≤ ps.length ∧ i = .int .i64 k ∧ Hid (Os wr w.heap.size v ((ps.take k).map txB)) ∧ Hid (Below w.heap.size w wr))
    (fun _ i _ => ps.length - (intOf i).toNat)
  case atStart => exact ⟨0, Nat.zero_le _, rfl, hide (by simpa using Os.nil w w.heap.size), hide (Below.refl _ _)⟩
  case round =>
    rename_i tv ti
    obtain ⟨k, hk, rfl, HO, HB⟩ := hrel
    by_cases hlt : k < ps.length
    · obtain ⟨x, hx⟩ : ∃ q, ps[k]? = some q := ⟨_, List.getElem?_eq_getElem hlt⟩
      have hxo := hf.ok x (List.mem_of_getElem? hx)
      have hxn := hf.num x (List.mem_of_getElem? hx)
      obtain ⟨ab, aoff, pa, pc, rfl, hp, c0, c1, c2, c3, c4, c5⟩ := (hr.below HB.out) k x hx
      have HX := hide hx
      clear hx
      have k48 : ∀ W, Below wr.heap.size wr W → Calls Tryz.prog 48 #[odv pa x.p.length pc x] W fun e w' => e = .returned (.string (txB x)) ∧ Below W.heap.size W w' := fun W hW => text48_any x (hp.below hW) hxo hxn ((hE.below HB.out).below hW)
      have hb1 : Below wr.heap.size wr (wr.alloc (.cells (odC pa x.p.length pc x) 34)) := (Below.refl _ wr).alloc (Nat.le_refl _) _
      obtain ⟨T, hT⟩ : ∃ q, q = txB x := ⟨_, rfl⟩
      rw [← hT] at k48
      have HX2 := hide (And.intro HX (hide hT))
      clear HX hT hxo hxn
      obtain ⟨xp, xk, xs, xd, xn, xt⟩ := x
      dsimp only at c0 c1 c2 c3 c4 c5 k48 hp hb1
      generalize xp.length = N at c0 k48 hb1
      have HB1 := hide hb1
      clear hp hb1
      go_wp2_with fail
      refine (k48 _ HB1.out).mono ?_
      rintro e u1 ⟨rfl, du1⟩
      have BU := hide (HB1.out.trans (du1.mono HB1.out.size))
      have hO1 := (HO.out.below BU.out).below ((Below.refl _ u1).alloc (Nat.le_refl _) (.cells #[.string T] 9))
      have hs1 : w.heap.size ≤ u1.heap.size := Nat.le_trans HB.out.size BU.out.size
      obtain ⟨v2, u2, hr2, hO2, -, hb2⟩ := push_str hO1 (heap_alloc_new u1 (.cells #[.string T] 9)) (by simp; omega) (by simp; omega)
      have BV := hide (((HB.out.trans (BU.out.mono HB.out.size)).alloc hs1 (.cells #[.string T] 9)).trans hb2)
      have HO2 := hide hO2
      clear hO1 hO2 hb2 du1 k48 c0 c1 c2 c3 c4 c5 hs1
      go_wp2_with (at_builtin; refine wpList_turn (OP := .call { callee := .builtin .append, args := #[.tmp 15, .tmp 18], argTypes := #[30, 30] }) (T := 30) rfl rfl rfl (exec_append rfl rfl hr2) ?_; clear hr2)
      go_roundw
      case rel => exact ⟨k + 1, by omega, by go_num, hide (by
          obtain ⟨hk', he⟩ := List.getElem?_eq_some_iff.1 HX2.out.1.out
          rw [List.take_succ_eq_append_getElem hk', he, List.map_append, List.map_cons, List.map_nil, ← HX2.out.2.out]
          exact HO2.out), BV⟩
      case measure => simp [intOf]; omega
    · have h104 := hTX.out wr _ (by have := HO.out; rw [List.take_of_length_le (by omega)] at this; exact this)
      go_wp2_with (go_at_call 104; refine h104.mono ?_; rintro e u3 ⟨rfl, du3⟩)
      go_ret
      exact ⟨rfl, HB.out.trans (du3.mono HB.out.size)⟩

def txE (o : Od) : ByteArray := if chkO o = 0 then txB o else ⟨#[]⟩
def txW' (l : List Od) : ByteArray := if wrongL l = 0 then ⟨(txA l).toArray⟩ else ⟨#[]⟩

set_option maxHeartbeats 2000000 in
set_option maxRecDepth 100000 in
theorem toldT_any {w : World} {pa : Option Addr} {pc : Nat} (o : Od) (h : Ki.Rp w pa pc o.p) (hn : I64 o.n) (hE : EnvO w) : Calls Tryz.prog 47 #[odv pa o.p.length pc o, .func (.func 45) #[] #[], .func (.func 48) #[] #[]] w fun e w' => e = .returned (.tuple #[.string (txE o), .int .i64 (chkO o)]) ∧ Below w.heap.size w w' := by
  obtain ⟨w0, hw0⟩ : ∃ q, q = w.alloc (.cells (odC pa o.p.length pc o) 34) := ⟨_, rfl⟩
  have d0 : Below w.heap.size w w0 := by rw [hw0]; exact (Below.refl _ w).alloc (Nat.le_refl _) _
  have m0 := op6_new w pa o.p.length pc o
  rw [← hw0] at m0
  obtain ⟨Sb, hSb⟩ : ∃ q, q = w.heap.size := ⟨_, rfl⟩
  rw [← hSb] at m0
  have HS : Hid (∀ W, Below w0.heap.size w0 W → Op6 W Sb pa o.p.length pc o) := hide (fun W hW => op6_of ((hW.block _ (Array.getElem?_eq_some_iff.1 m0).1).trans m0))
  have k45 : ∀ W, Below w0.heap.size w0 W → Calls Tryz.prog 45 #[odv pa o.p.length pc o] W fun e w' => e = .returned (.int .i64 (chkO o)) ∧ Below W.heap.size W w' := fun W hW => chk_any o ((h.below d0).below hW) ((hE.tabs.below d0).below hW)
  have k48 : chkO o = 0 → ∀ W, Below w0.heap.size w0 W → Calls Tryz.prog 48 #[odv pa o.p.length pc o] W fun e w' => e = .returned (.string (txB o)) ∧ Below W.heap.size W w' := fun hc W hW => text48_any o ((h.below d0).below hW) (ok_of hc) hn ((hE.below d0).below hW)
  have HE : Hid (txE o = if chkO o = 0 then txB o else ⟨#[]⟩) := hide rfl
  obtain ⟨L, hL⟩ : ∃ q, q = txE o := ⟨_, rfl⟩
  rw [← hL] at HE ⊢
  obtain ⟨v, hv⟩ : ∃ q, q = chkO o := ⟨_, rfl⟩
  rw [← hv] at HE k45 k48 ⊢
  obtain ⟨M, hM⟩ : ∃ q, q = txB o := ⟨_, rfl⟩
  rw [← hM] at HE k48
  have HW := hide (And.intro hw0 (And.intro hSb d0))
  clear h hn hE m0 hw0 hSb d0 hL hv hM
  obtain ⟨p, k, s, d, n, t⟩ := o
  dsimp only at HS k45 k48 HW ⊢
  generalize p.length = N at HS k45 k48 HW ⊢
  by_cases hv0 : v = 0
  · subst hv0
    have hE : L = M := by rw [HE.out, if_pos rfl]
    subst hE
    have kf := k48 rfl
    clear k48
    go_enter Tryz.func47, Tryz.ntmps47
    go_upto_region 1 with fail
    rw [← HW.out.1, ← HW.out.2.1]
    obtain ⟨x0, x1, x2, x3, x4, x5⟩ := HS.out w0 (Below.refl _ _)
    dsimp only at x0 x1 x2 x3 x4 x5
    go_wp2_with (first
      | (go_at_call 45; refine (k45 _ (Below.refl _ _)).mono ?_; rintro e w1 ⟨rfl, d1⟩; clear k45 x0 x1 x2 x3 x4 x5; obtain ⟨x0, x1, x2, x3, x4, x5⟩ := HS.out w1 d1; dsimp only at x0 x1 x2 x3 x4 x5; have D1 := hide d1; clear d1)
      | (go_at_call 48; refine (kf _ D1.out).mono ?_; rintro e w2 ⟨rfl, d2⟩))
    go_ret2
    exact ⟨rfl, (HW.out.2.2.trans (D1.out.mono HW.out.2.2.size)).trans (d2.mono (HW.out.2.2.trans (D1.out.mono HW.out.2.2.size)).size)⟩
  · have hv1 : (v != 0) = true := by simpa using hv0
    have hE : L = ⟨#[]⟩ := by rw [HE.out, if_neg hv0]
    subst hE
    clear k48
    go_enter Tryz.func47, Tryz.ntmps47
    go_upto_region 1 with fail
    rw [← HW.out.1, ← HW.out.2.1]
    obtain ⟨x0, x1, x2, x3, x4, x5⟩ := HS.out w0 (Below.refl _ _)
    dsimp only at x0 x1 x2 x3 x4 x5
    go_wp2_with (go_at_call 45; refine (k45 _ (Below.refl _ _)).mono ?_; rintro e w1 ⟨rfl, d1⟩; clear k45 x0 x1 x2 x3 x4 x5; have D1 := hide d1; clear d1)
    go_ret2
    exact ⟨rfl, HW.out.2.2.trans (D1.out.mono HW.out.2.2.size)⟩

set_option maxHeartbeats 2000000 in
set_option maxRecDepth 100000 in
theorem toldTA_any {w : World} {ao : Option Addr} {c : Nat} (l : List Od) (h : Rq w ao l) (hn : ∀ o ∈ l, I64 o.n) (hE : EnvO w) (hlen : l.length ≤ 100000) : Calls Tryz.prog 63 #[.slice ao l.length c, .func (.func 61) #[] #[], .func (.func 64) #[] #[]] w fun e w' => e = .returned (.tuple #[.string (txW' l), .int .i64 (wrongL l)]) ∧ Below w.heap.size w w' := by
  have k61 : Calls Tryz.prog 61 #[.slice ao l.length c] w fun e w' => e = .returned (.int .i64 (wrongL l)) ∧ Below w.heap.size w w' := checkAll_any ao c l w h hE.tabs (by omega)
  have k64 : wrongL l = 0 → ∀ W, Below w.heap.size w W → Calls Tryz.prog 64 #[.slice ao l.length c] W fun e w' => e = .returned (.string ⟨(txA l).toArray⟩) ∧ Below W.heap.size W w' := fun hc W hW => textAll_any ao c l W (h.below hW) ⟨fun o ho => ok_of ((wrong_ok hc).1 o ho), hn, hlen⟩ (hE.below hW)
  have HE : Hid (txW' l = if wrongL l = 0 then ⟨(txA l).toArray⟩ else ⟨#[]⟩) := hide rfl
  obtain ⟨L, hL⟩ : ∃ q, q = txW' l := ⟨_, rfl⟩
  rw [← hL] at HE ⊢
  obtain ⟨v, hv⟩ : ∃ q, q = wrongL l := ⟨_, rfl⟩
  rw [← hv] at HE k61 k64 ⊢
  obtain ⟨M, hM⟩ : ∃ q, q = (⟨(txA l).toArray⟩ : ByteArray) := ⟨_, rfl⟩
  rw [← hM] at HE k64
  clear h hn hE hL hv hM hlen
  generalize l.length = N at k61 k64 ⊢
  by_cases hv0 : v = 0
  · subst hv0
    have hE : L = M := by rw [HE.out, if_pos rfl]
    subst hE
    have kf := k64 rfl
    clear k64
    go_enter Tryz.func63, Tryz.ntmps63
    go_wp2_with (first
      | (go_at_call 61; refine k61.mono ?_; rintro e w1 ⟨rfl, d1⟩; clear k61; have D1 := hide d1; clear d1)
      | (go_at_call 64; refine (kf _ D1.out).mono ?_; rintro e w2 ⟨rfl, d2⟩))
    go_ret2
    exact ⟨rfl, D1.out.trans (d2.mono D1.out.size)⟩
  · have hv1 : (v != 0) = true := by simpa using hv0
    have hE : L = ⟨#[]⟩ := by rw [HE.out, if_neg hv0]
    subst hE
    clear k64
    go_enter Tryz.func63, Tryz.ntmps63
    go_wp2_with (go_at_call 61; refine k61.mono ?_; rintro e w1 ⟨rfl, d1⟩; clear k61; have D1 := hide d1; clear d1)
    go_ret2
    exact ⟨rfl, D1.out⟩

set_option maxHeartbeats 1000000 in
set_option maxRecDepth 100000 in
theorem textAllP_any {w : World} {ao : Option Addr} {c : Nat} (l : List Od) (h : Rq w ao l) (hn : ∀ o ∈ l, I64 o.n) (hE : EnvO w) (hlen : l.length ≤ 100000) : Calls Tryz.prog 18 #[.slice ao l.length c] w fun e w' => e = .returned (.tuple #[.string (txW' l), .int .i64 (wrongL l)]) ∧ Below w.heap.size w w' := by
  have k := toldTA_any (c := c) l h hn hE hlen
  generalize txW' l = L at k ⊢
  generalize wrongL l = v at k ⊢
  clear h hn hE hlen
  generalize l.length = N at k ⊢
  go_enter Tryz.func18, Tryz.ntmps18
  go_wp2_with (go_at_call 63; refine k.mono ?_; rintro e w1 ⟨rfl, d1⟩)
  go_ret2
  exact ⟨rfl, d1⟩

set_option maxHeartbeats 1000000 in
set_option maxRecDepth 100000 in
theorem textP_any {w : World} {pa : Option Addr} {pc : Nat} (o : Od) (h : Ki.Rp w pa pc o.p) (hn : I64 o.n) (hE : EnvO w) : Calls Tryz.prog 12 #[odv pa o.p.length pc o] w fun e w' => e = .returned (.tuple #[.string (txE o), .int .i64 (chkO o)]) ∧ Below w.heap.size w w' := by
  obtain ⟨w0, hw0⟩ : ∃ q, q = w.alloc (.cells (odC pa o.p.length pc o) 34) := ⟨_, rfl⟩
  have d0 : Below w.heap.size w w0 := by rw [hw0]; exact (Below.refl _ w).alloc (Nat.le_refl _) _
  have m0 := op6_new w pa o.p.length pc o
  rw [← hw0] at m0
  have k := toldT_any o (h.below d0) hn (hE.below d0)
  have HW := hide (And.intro hw0 d0)
  obtain ⟨x0, x1, x2, x3, x4, x5⟩ := op6_of m0
  generalize txE o = L at k ⊢
  generalize chkO o = v at k ⊢
  clear h hn hE hw0 d0 m0
  obtain ⟨p, k', s, d, n, t⟩ := o
  dsimp only at x0 x1 x2 x3 x4 x5 k HW ⊢
  generalize p.length = N at x0 k HW ⊢
  go_enter Tryz.func12, Tryz.ntmps12
  go_upto_region 1 with fail
  rw [← HW.out.1]
  go_wp2_with (go_at_call 47; refine k.mono ?_; rintro e w1 ⟨rfl, d1⟩)
  go_ret2
  exact ⟨rfl, HW.out.2.trans (d1.mono HW.out.2.size)⟩
end Go.Proofs.YtpepgoelnagoaaaGreatDoor
