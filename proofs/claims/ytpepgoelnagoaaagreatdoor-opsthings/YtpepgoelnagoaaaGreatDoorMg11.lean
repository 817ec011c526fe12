/-
  HOW ARGUMENTS COME IN: slices of texts, operations, operations in a row.
  OPS: textAll 64, told 47 and 63, Text 12, TextAll 18.
  OPS: field 111 to 114: what a source's method tells, unless something was wrong ahead of it.
  OPS: sources of fields (Src), and what field 111 to 114 tells of any of them.
-/
import Derived.Test.YtpepgoelnagoaaaGreatDoorMg9
import Derived.OpenShut
import Derived.Lib.SmallJoins
import Derived.ShutString
import Derived.ChangeOld
import Derived.Below
import Derived.SliceStrings
import Derived.Deep.Grids
import Derived.ProofKit
import Derived.SizedLaws
import Derived.Test.YtpepgoelnagoaaaGreatDoorMg10
namespace Go.Proofs.YtpepgoelnagoaaaGreatDoor
open Go.ChangeShapes Go.WideShapes Go.ChangeAt Go.RowKit Go.Lib Go.Shelf

theorem own : ownKnob Tryz.prog.godebug = none := by kernel_rfl
theorem laidOut : laidOutB Tryz.prog = true := by kernel_rfl
theorem Tryz.cells2o : Tryz.prog.cellsOf 2 = 1 := by kernel_rfl
theorem Tryz.cells9o : Tryz.prog.cellsOf 9 = 1 := by kernel_rfl
theorem Tryz.cells30o : Tryz.prog.cellsOf 30 = 1 := by kernel_rfl
theorem Tryz.cells31o : Tryz.prog.cellsOf 31 = 1 := by kernel_rfl
theorem Tryz.cells32o : Tryz.prog.cellsOf 32 = 1 := by kernel_rfl
theorem Tryz.cells34o : Tryz.prog.cellsOf 34 = 6 := by kernel_rfl
theorem Tryz.bytes9o : Tryz.prog.bytesOf 9 = 16 := by kernel_rfl
theorem Tryz.bytes34o : Tryz.prog.bytesOf 34 = 80 := by kernel_rfl
theorem addr_add0 (b : Addr) : b.add 0 = b := by unfold Addr.add; split <;> simp_all
instance : Inhabited ByteArray := ⟨⟨#[]⟩⟩
instance : Inhabited Od := ⟨⟨[], 0, ⟨#[]⟩, 0, 0, ⟨#[]⟩⟩⟩
instance : Inhabited (Option Addr) := ⟨none⟩
theorem weightsAll_mem {H : Type} {P : Program} {e : TypeId} {d : DataW H} : ∀ {l : List (DataW H)}, d ∈ l → (DataW.weightsAll P e l).all (· ≤ reachBytes) = true → (d.weights P e).all (· ≤ reachBytes) = true
  | a :: r, h, hw => by
    simp only [DataW.weightsAll, List.all_append, Bool.and_eq_true] at hw
    rcases List.mem_cons.1 h with rfl | h
    · exact hw.1
    · exact weightsAll_mem h hw.2
/-- A slice of texts that came in. -/
theorem open_path {H : Type} {enc : TypeId × Value → H} {W : World} {fuel : Nat} {v : Value} {x : DataW H × List MemPlace} (h : DataW.trod enc Tryz.prog W 0 (fun _ => true) true fuel 30 [v] = some x) (hw : (x.1.weights Tryz.prog 30).all (· ≤ reachBytes) = true) :
    ∃ ao c l, v = .slice ao (List.length l) c ∧ Ki.Rp W ao c l ∧ ∀ s ∈ l, s.size ≤ maxLen := by
  rcases Deep.open_slice Tryz.underlying30 h with ⟨hcs, hx⟩ | ⟨a, len, cap, m, n, D, Pl, hcs, _, hl, hm, hmm, hx, hel⟩
  · simp only [List.cons.injEq, and_true] at hcs
    subst hcs
    exact ⟨none, 0, [], rfl, ⟨⟨fun _ => rfl, fun _ h => by cases h⟩, by simp, fun _ => rfl, by simp⟩, by simp⟩
  · simp only [List.cons.injEq, and_true] at hcs
    subst hcs
    simp only [if_true] at hmm
    rw [Tryz.cells9o] at hel
    rw [hx] at hw
    simp only [DataW.weights, Tryz.underlying30, Tryz.bytes9o, List.all_cons, List.all_append, Bool.and_eq_true, decide_eq_true_eq] at hw
    obtain ⟨f, hf⟩ := Deep.choose_lt (n := len) (p := fun i (s : ByteArray) => W.cell? (a.add i) = some (.string s) ∧ s.size ≤ maxLen) (fun i hi => by
      obtain ⟨cs, h1, h2⟩ := hel i (by omega)
      obtain ⟨s, hs, _, hsm⟩ := DataW.trod_string Tryz.underlying9 h2
      obtain ⟨_, _, hc⟩ := World.cells?_some h1
      refine ⟨s, ?_, hsm⟩
      have := hc 0 (by omega)
      rw [hs, addr_add0] at this
      simpa using this)
    refine ⟨some a, cap, (List.range len).map f, by simp, ⟨⟨by simp, ?_⟩, by simpa using hl, by simp, ?_⟩, ?_⟩
    · intro a' ha' j s hj
      cases ha'
      rw [List.getElem?_map] at hj
      rcases hr : (List.range len)[j]? with _ | q
      · rw [hr] at hj; simp at hj
      · have hq := List.getElem?_eq_some_iff.1 hr
        have hjl : j < len := by simpa using hq.1
        rw [hr] at hj
        simp only [Option.map_some, Option.some.injEq] at hj
        have : q = j := by have := hq.2; simp at this; exact this.symm
        subst this
        subst hj
        exact (hf q hjl).1
    · have h1 := hw.1
      simp only [List.length_map, List.length_range] at h1 ⊢
      unfold reachBytes at h1
      omega
    · intro s hs
      obtain ⟨q, hq, rfl⟩ := List.mem_map.1 hs
      exact (hf q (List.mem_range.1 hq)).2
theorem list6o {α : Type} {l : List α} (h : l.length = 6) : ∃ a b c d e f, l = [a, b, c, d, e, f] := by
  match l, h with
  | [a, b, c, d, e, f], _ => exact ⟨a, b, c, d, e, f, rfl⟩
/-- Texts that are no longer than any. -/
def OpSm (o : Od) : Prop := (∀ s ∈ o.p, s.size ≤ maxLen) ∧ o.s.size ≤ maxLen ∧ o.t.size ≤ maxLen ∧ I64 o.n
/-- An operation's cells. -/
theorem open_op {H : Type} {enc : TypeId × Value → H} {W : World} {fuel : Nat} {u0 u1 u2 u3 u4 u5 : Value} {x : DataW H × List MemPlace} (h : DataW.trod enc Tryz.prog W 0 (fun _ => true) true fuel 34 [u0, u1, u2, u3, u4, u5] = some x) (hw : (x.1.weights Tryz.prog 34).all (· ≤ reachBytes) = true) :
    ∃ pa pc, ∃ o : Od, u0 = .slice pa o.p.length pc ∧ u1 = .int .i64 o.k ∧ u2 = .string o.s ∧ u3 = .int .i64 o.d ∧ u4 = .int .i64 o.n ∧ u5 = .string o.t ∧ Ki.Rp W pa pc o.p ∧ OpSm o := by
  obtain ⟨xs, n, _, hx, hl, hlen, hf⟩ := DataW.trod_struct Tryz.underlying34 h
  obtain ⟨y0, y1, y2, y3, y4, y5, rfl⟩ := list6o (show xs.length = 6 from hlen)
  have e0 : DataW.trod enc Tryz.prog W 0 (fun _ => true) true n 30 (([u0, u1, u2, u3, u4, u5].drop 0).take (Tryz.prog.cellsOf 30)) = some y0 := hf 0 _ rfl
  have e1 : DataW.trod enc Tryz.prog W 0 (fun _ => true) true n 31 (([u0, u1, u2, u3, u4, u5].drop 1).take (Tryz.prog.cellsOf 31)) = some y1 := hf 1 _ rfl
  have e2 : DataW.trod enc Tryz.prog W 0 (fun _ => true) true n 9 (([u0, u1, u2, u3, u4, u5].drop 2).take (Tryz.prog.cellsOf 9)) = some y2 := hf 2 _ rfl
  have e3 : DataW.trod enc Tryz.prog W 0 (fun _ => true) true n 32 (([u0, u1, u2, u3, u4, u5].drop 3).take (Tryz.prog.cellsOf 32)) = some y3 := hf 3 _ rfl
  have e4 : DataW.trod enc Tryz.prog W 0 (fun _ => true) true n 2 (([u0, u1, u2, u3, u4, u5].drop 4).take (Tryz.prog.cellsOf 2)) = some y4 := hf 4 _ rfl
  have e5 : DataW.trod enc Tryz.prog W 0 (fun _ => true) true n 9 (([u0, u1, u2, u3, u4, u5].drop 5).take (Tryz.prog.cellsOf 9)) = some y5 := hf 5 _ rfl
  rw [Tryz.cells30o] at e0
  rw [Tryz.cells31o] at e1
  rw [Tryz.cells9o] at e2 e5
  rw [Tryz.cells32o] at e3
  rw [Tryz.cells2o] at e4
  simp only [List.drop_zero, List.take_succ_cons, List.take_zero, List.drop_succ_cons] at e0 e1 e2 e3 e4 e5
  rw [hx] at hw
  simp only [DataW.weights, Tryz.underlying34, List.map_cons, List.map_nil, DataW.weightsEach, List.all_append, Bool.and_eq_true] at hw
  obtain ⟨k, r1, _, _⟩ := DataW.trod_int Tryz.underlying31 e1
  obtain ⟨s, r2, _, hs⟩ := DataW.trod_string Tryz.underlying9 e2
  obtain ⟨d, r3, _, _⟩ := DataW.trod_int Tryz.underlying32 e3
  obtain ⟨m, r4, _, hm⟩ := DataW.trod_int Tryz.underlying2 e4
  obtain ⟨t, r5, _, ht⟩ := DataW.trod_string Tryz.underlying9 e5
  simp only [List.cons.injEq, and_true] at r1 r2 r3 r4 r5
  subst r1 r2 r3 r4 r5
  obtain ⟨ao, c, l, rfl, q, hq⟩ := open_path e0 hw.1
  have hm' : I64 m := by
    have hm1 := hm
    simp only [Lit.wf, Bool.and_eq_true, decide_eq_true_eq, show IntKind.i64.min = -9223372036854775808 from rfl, show IntKind.i64.max = 9223372036854775807 from rfl] at hm1
    exact hm1
  exact ⟨ao, c, ⟨l, k, s, d, m, t⟩, rfl, rfl, rfl, rfl, rfl, rfl, q, hq, hs, ht, hm'⟩
/-- Operations in a slice. -/
theorem open_ops {H : Type} {enc : TypeId × Value → H} {W : World} {fuel : Nat} {v : Value} {x : DataW H × List MemPlace} (h : DataW.trod enc Tryz.prog W 0 (fun _ => true) true fuel 22 [v] = some x) (hw : (x.1.weights Tryz.prog 22).all (· ≤ reachBytes) = true) :
    ∃ ao c, ∃ l : List Od, v = .slice ao (List.length l) c ∧ Rq W ao l ∧ l.length ≤ 8796093021952 ∧ ∀ o ∈ l, OpSm o := by
  rcases Deep.open_slice Tryz.underlying22 h with ⟨hcs, _⟩ | ⟨a, len, cap, m, n, D, Pl, hcs, _, hl, hm, hmm, hx, hel⟩
  · simp only [List.cons.injEq, and_true] at hcs
    subst hcs
    exact ⟨none, 0, [], rfl, fun i o h => by simp at h, by simp, by simp⟩
  · simp only [List.cons.injEq, and_true] at hcs
    subst hcs
    simp only [if_true] at hmm
    rw [Tryz.cells34o] at hel
    rw [hx] at hw
    simp only [DataW.weights, Tryz.underlying22, Tryz.bytes34o, List.all_cons, List.all_append, Bool.and_eq_true, decide_eq_true_eq] at hw
    have hsp : 0 < len → a.spot = none := fun h0 => by
      obtain ⟨cs, h1, h2⟩ := hel 0 (by omega)
      obtain ⟨xs, n', _, _, hl', _, _⟩ := DataW.trod_struct Tryz.underlying34 h2
      rw [Tryz.cells34o] at hl'
      obtain ⟨c0, c1, c2, c3, c4, c5, rfl⟩ := list6o hl'
      obtain ⟨_, _, hc⟩ := World.cells?_some h1
      have q0 := hc 0 (by omega)
      simpa [Addr.add] using World.cell?_spot q0
    obtain ⟨f, hf⟩ := Deep.choose_lt (n := len) (p := fun i (o : Od) => OpSm o ∧ ∃ b off pa pc, some a = some ⟨b, off, none⟩ ∧ Ki.Rp W pa pc o.p ∧ W.cell? ⟨b, off + i * 6, none⟩ = some (.slice pa o.p.length pc) ∧ W.cell? ⟨b, off + i * 6 + 1, none⟩ = some (.int .i64 o.k) ∧ W.cell? ⟨b, off + i * 6 + 2, none⟩ = some (.string o.s) ∧ W.cell? ⟨b, off + i * 6 + 3, none⟩ = some (.int .i64 o.d) ∧ W.cell? ⟨b, off + i * 6 + 4, none⟩ = some (.int .i64 o.n) ∧ W.cell? ⟨b, off + i * 6 + 5, none⟩ = some (.string o.t)) (fun i hi => by
      obtain ⟨cs, h1, h2⟩ := hel i (by omega)
      obtain ⟨xs, n', _, _, hl', _, _⟩ := DataW.trod_struct Tryz.underlying34 h2
      rw [Tryz.cells34o] at hl'
      obtain ⟨c0, c1, c2, c3, c4, c5, rfl⟩ := list6o hl'
      obtain ⟨pa, pc, o, rfl, rfl, rfl, rfl, rfl, rfl, hr, ho⟩ := open_op h2 (weightsAll_mem (List.mem_map.2 ⟨i, List.mem_range.2 hi, rfl⟩) hw.2.1)
      obtain ⟨_, _, hc⟩ := World.cells?_some h1
      have q0 := hc 0 (by omega)
      have q1 := hc 1 (by omega)
      have q2 := hc 2 (by omega)
      have q3 := hc 3 (by omega)
      have q4 := hc 4 (by omega)
      have q5 := hc 5 (by omega)
      obtain ⟨b, off, spot⟩ := a
      have hspot : spot = none := hsp (by omega)
      subst hspot
      simp only [add_lit] at q0 q1 q2 q3 q4 q5
      exact ⟨o, ho, b, off, pa, pc, rfl, hr, by simpa using q0, by simpa using q1, by simpa using q2, by simpa using q3, by simpa using q4, by simpa using q5⟩)
    refine ⟨some a, cap, (List.range len).map f, by simp, fun j x hj => ?_, ?_, ?_⟩
    · rw [List.getElem?_map] at hj
      obtain ⟨i, hi, rfl⟩ := Option.map_eq_some_iff.1 hj
      have hjl := (List.getElem?_eq_some_iff.1 hi).1
      rw [List.length_range] at hjl
      rw [List.getElem?_range hjl] at hi
      cases hi
      exact (hf j hjl).2
    · have h1 := hw.1
      simp only [List.length_map, List.length_range] at h1 ⊢
      unfold reachBytes at h1
      omega
    · intro o ho
      obtain ⟨q, hq, rfl⟩ := List.mem_map.1 ho
      exact (hf q (List.mem_range.1 hq)).1
end Go.Proofs.YtpepgoelnagoaaaGreatDoor
namespace Go.Proofs.YtpepgoelnagoaaaGreatDoor
open Go.RowKit Go.Shelf
set_option linter.unusedSimpArgs false
set_option linter.unusedVariables false
attribute [local go_sem] Oper.semAt_some

def txB (o : Od) : ByteArray := ⟨(txO o).toArray⟩
theorem txB_map (l : List Od) : (l.map txB).map (·.data.toList) = l.map txO := by simp [txB]
set_option maxHeartbeats 4000000 in
set_option maxRecDepth 100000 in
theorem textAll_any (ao : Option Addr) (cap : Nat) (ps : List Od) (w : World) (hr : Rq w ao ps) (hf : OkL ps) (hE : EnvO w) :
    Calls Tryz.prog 64 #[.slice ao ps.length cap] w fun e w' => e = .returned (.string ⟨(txA ps).toArray⟩) ∧ Below w.heap.size w w' := by
  by_cases hnil : ps = []
  · subst hnil
    go_enter Tryz.func64, Tryz.ntmps64
    go_wp2
    go_ret
    exact ⟨rfl, Below.refl _ _⟩
  have hlen := hf.len
  have hpos : ps.length ≠ 0 := fun h => hnil (List.eq_nil_of_length_eq_zero h)
  have hz : ((ps.length : Int) == 0) = false := by simp; exact hnil
  have hTX : Hid (∀ W v, Os W w.heap.size v (ps.map txB) → Calls Tryz.prog 104 #[v, .string ⟨#[59, 32]⟩] W fun e w' => e = .returned (.string ⟨(txA ps).toArray⟩) ∧ Below W.heap.size W w') := hide (fun W v hv => by
    have hj : ((ps.map txB).map (·.data.toList)) = ps.map txO := txB_map ps
    have := joinW_any ⟨#[59, 32]⟩ hv (by simpa using hnil) (by simp; omega) (by
      rw [hj]
      have h1 := joinL_len (B := 9000) (xs := ps.map txO) (sep := [59, 32]) (fun x hx => by
        obtain ⟨o, ho, rfl⟩ := List.mem_map.1 hx
        exact txO_len (hf.ok o ho) (hf.num o ho))
      rw [List.length_map] at h1
      have h2 : (9000 + [59, 32].length) * ps.length ≤ 9002 * 100000 := Nat.mul_le_mul (by simp) hlen
      exact Nat.le_trans h1 (Nat.le_trans h2 (by omega)))
    rw [hj] at this
    unfold txA
    rw [if_neg hnil]
    exact this)
  generalize (⟨(txA ps).toArray⟩ : ByteArray) = X at hTX ⊢
  go_enter Tryz.func64, Tryz.ntmps64
  go_wp2
  go_loopw [3, 11] (fun v i wr => ∃ (k : Nat), k ≤ ps.length ∧ i = .int .i64 k ∧ Hid (Os wr w.heap.size v ((ps.take k).map txB)) ∧ Hid (Below w.heap.size w wr))
    (fun _ i _ => ps.length - (intOf i).toNat)
  case atStart => exact ⟨0, Nat.zero_le _, rfl, hide (by simpa using Os.nil w w.heap.size), hide (Below.refl _ _)⟩
  case round =>
    rename_i tv ti
    obtain ⟨k, hk, rfl, HO, HB⟩ := hrel
    by_cases hlt : k < ps.length
    · obtain ⟨x, hx⟩ : ∃ q, ps[k]? = some q := ⟨_, List.getElem?_eq_getElem hlt⟩
      have hxo := hf.ok x (List.mem_of_getElem? hx)
      have hxn := hf.num x (List.mem_of_getElem? hx)
      obtain ⟨ab, aoff, pa, pc, rfl, hp, c0, c1, c2, c3, c4, c5⟩ := (hr.below HB.out) k x hx
      have HX := hide hx
      clear hx
      have k48 : ∀ W, Below wr.heap.size wr W → Calls Tryz.prog 48 #[odv pa x.p.length pc x] W fun e w' => e = .returned (.string (txB x)) ∧ Below W.heap.size W w' := fun W hW => text48_any x (hp.below hW) hxo hxn ((hE.below HB.out).below hW)
      have hb1 : Below wr.heap.size wr (wr.alloc (.cells (odC pa x.p.length pc x) 34)) := (Below.refl _ wr).alloc (Nat.le_refl _) _
      obtain ⟨T, hT⟩ : ∃ q, q = txB x := ⟨_, rfl⟩
      rw [← hT] at k48
      have HX2 := hide (And.intro HX (hide hT))
      clear HX hT hxo hxn
      obtain ⟨xp, xk, xs, xd, xn, xt⟩ := x
      dsimp only at c0 c1 c2 c3 c4 c5 k48 hp hb1
      generalize xp.length = N at c0 k48 hb1
      have HB1 := hide hb1
      clear hp hb1
      go_wp2_with fail
      refine (k48 _ HB1.out).mono ?_
      rintro e u1 ⟨rfl, du1⟩
      have BU := hide (HB1.out.trans (du1.mono HB1.out.size))
      have hO1 := (HO.out.below BU.out).below ((Below.refl _ u1).alloc (Nat.le_refl _) (.cells #[.string T] 9))
      have hs1 : w.heap.size ≤ u1.heap.size := Nat.le_trans HB.out.size BU.out.size
      obtain ⟨v2, u2, hr2, hO2, -, hb2⟩ := push_str hO1 (heap_alloc_new u1 (.cells #[.string T] 9)) (by simp; omega) (by simp; omega)
      have BV := hide (((HB.out.trans (BU.out.mono HB.out.size)).alloc hs1 (.cells #[.string T] 9)).trans hb2)
      have HO2 := hide hO2
      clear hO1 hO2 hb2 du1 k48 c0 c1 c2 c3 c4 c5 hs1
      go_wp2_with (at_builtin; refine wpList_turn (OP := .call { callee := .builtin .append, args := #[.tmp 15, .tmp 18], argTypes := #[30, 30] }) (T := 30) rfl rfl rfl (exec_append rfl rfl hr2) ?_; clear hr2)
      go_roundw
      case rel => exact ⟨k + 1, by omega, by go_num, hide (by
          obtain ⟨hk', he⟩ := List.getElem?_eq_some_iff.1 HX2.out.1.out
          rw [List.take_succ_eq_append_getElem hk', he, List.map_append, List.map_cons, List.map_nil, ← HX2.out.2.out]
          exact HO2.out), BV⟩
      case measure => simp [intOf]; omega
    · have h104 := hTX.out wr _ (by have := HO.out; rw [List.take_of_length_le (by omega)] at this; exact this)
      go_wp2_with (go_at_call 104; refine h104.mono ?_; rintro e u3 ⟨rfl, du3⟩)
      go_ret
      exact ⟨rfl, HB.out.trans (du3.mono HB.out.size)⟩

def txW' (l : List Od) : ByteArray := if wrongL l = 0 then ⟨(txA l).toArray⟩ else ⟨#[]⟩

set_option maxHeartbeats 2000000 in
set_option maxRecDepth 100000 in
theorem toldTA_any {w : World} {ao : Option Addr} {c : Nat} (l : List Od) (h : Rq w ao l) (hn : ∀ o ∈ l, I64 o.n) (hE : EnvO w) (hlen : l.length ≤ 100000) : Calls Tryz.prog 63 #[.slice ao l.length c, .func (.func 61) #[] #[], .func (.func 64) #[] #[]] w fun e w' => e = .returned (.tuple #[.string (txW' l), .int .i64 (wrongL l)]) ∧ Below w.heap.size w w' := by
  have k61 : Calls Tryz.prog 61 #[.slice ao l.length c] w fun e w' => e = .returned (.int .i64 (wrongL l)) ∧ Below w.heap.size w w' := checkAll_any ao c l w h hE.tabs (by omega)
  have k64 : wrongL l = 0 → ∀ W, Below w.heap.size w W → Calls Tryz.prog 64 #[.slice ao l.length c] W fun e w' => e = .returned (.string ⟨(txA l).toArray⟩) ∧ Below W.heap.size W w' := fun hc W hW => textAll_any ao c l W (h.below hW) ⟨fun o ho => ok_of ((wrong_ok hc).1 o ho), hn, hlen⟩ (hE.below hW)
  have HE : Hid (txW' l = if wrongL l = 0 then ⟨(txA l).toArray⟩ else ⟨#[]⟩) := hide rfl
  obtain ⟨L, hL⟩ : ∃ q, q = txW' l := ⟨_, rfl⟩
  rw [← hL] at HE ⊢
  obtain ⟨v, hv⟩ : ∃ q, q = wrongL l := ⟨_, rfl⟩
  rw [← hv] at HE k61 k64 ⊢
  obtain ⟨M, hM⟩ : ∃ q, q = (⟨(txA l).toArray⟩ : ByteArray) := ⟨_, rfl⟩
  rw [← hM] at HE k64
  clear h hn hE hL hv hM hlen
  generalize l.length = N at k61 k64 ⊢
  by_cases hv0 : v = 0
  · subst hv0
    have hE : L = M := by rw [HE.out, if_pos rfl]
    subst hE
    have kf := k64 rfl
    clear k64
    go_enter Tryz.func63, Tryz.ntmps63
    go_wp2_with (first
      | (go_at_call 61; refine k61.mono ?_; rintro e w1 ⟨rfl, d1⟩; clear k61; have D1 := hide d1; clear d1)
      | (go_at_call 64; refine (kf _ D1.out).mono ?_; rintro e w2 ⟨rfl, d2⟩))
    go_ret2
    exact ⟨rfl, D1.out.trans (d2.mono D1.out.size)⟩
  · have hv1 : (v != 0) = true := by simpa using hv0
    have hE : L = ⟨#[]⟩ := by rw [HE.out, if_neg hv0]
    subst hE
    clear k64
    go_enter Tryz.func63, Tryz.ntmps63
    go_wp2_with (go_at_call 61; refine k61.mono ?_; rintro e w1 ⟨rfl, d1⟩; clear k61; have D1 := hide d1; clear d1)
    go_ret2
    exact ⟨rfl, D1.out⟩

set_option maxHeartbeats 1000000 in
set_option maxRecDepth 100000 in
theorem textAllP_any {w : World} {ao : Option Addr} {c : Nat} (l : List Od) (h : Rq w ao l) (hn : ∀ o ∈ l, I64 o.n) (hE : EnvO w) (hlen : l.length ≤ 100000) : Calls Tryz.prog 18 #[.slice ao l.length c] w fun e w' => e = .returned (.tuple #[.string (txW' l), .int .i64 (wrongL l)]) ∧ Below w.heap.size w w' := by
  have k := toldTA_any (c := c) l h hn hE hlen
  generalize txW' l = L at k ⊢
  generalize wrongL l = v at k ⊢
  clear h hn hE hlen
  generalize l.length = N at k ⊢
  go_enter Tryz.func18, Tryz.ntmps18
  go_wp2_with (go_at_call 63; refine k.mono ?_; rintro e w1 ⟨rfl, d1⟩)
  go_ret2
  exact ⟨rfl, d1⟩

end Go.Proofs.YtpepgoelnagoaaaGreatDoor
namespace Go.Proofs.YtpepgoelnagoaaaGreatDoor
open Go.RowKit Go.Shelf
set_option linter.unusedSimpArgs false
set_option linter.unusedVariables false
attribute [local go_sem] Oper.semAt_some

/-- The cell in which an error stands. -/
def ErrC (w : World) (E : Nat) (er : Int) : Prop := w.heap[E]? = some (.cells #[.int .i64 er] 27 (0, 0))
theorem ErrC.cell {w : World} {E : Nat} {er : Int} (h : ErrC w E er) : w.cell? ⟨E, 0, none⟩ = some (.int .i64 er) ∧ w.frozen? ⟨E, 0, none⟩ = false :=
  ⟨(cell_of_row _ _ 0 _ 27 (0, 0) h).trans rfl, frozen_of_row _ _ 0 _ 27 h⟩

set_option maxHeartbeats 2000000 in
set_option maxRecDepth 100000 in
theorem field111_no {fv : Value} {E : Nat} {er : Int} {w : World} (hE : ErrC w E er) (her : er ≠ 0) : Calls Tryz.prog 111 #[.pointer (some ⟨E, 0, none⟩), fv] w fun e w' => e = .returned (.int .i64 0) ∧ w' = w := by
  obtain ⟨c0, f0⟩ := hE.cell
  have e0 : (er == 0) = false := by simpa using her
  go_enter Tryz.func111, Tryz.ntmps111
  go_wp2
  go_ret
  exact ⟨rfl, rfl⟩
set_option maxHeartbeats 2000000 in
set_option maxRecDepth 100000 in
theorem field111_yes {T : TypeId} {v : Value} {f : FuncId} {E : Nat} {w : World} {R : Ending → World → Prop} (hE : ErrC w E 0) (eg : Enters Tryz.prog f) (hm : ∀ W, (method 385 T v "estuary/ops.do").run Tryz.prog W = .ok (f, v) W) (hc : Calls Tryz.prog f #[v] w R) (hR : ∀ e w', R e w' → ∃ x er, e = .returned (.tuple #[x, .int .i64 er]) ∧ ErrC w' E 0) :
    Calls Tryz.prog 111 #[.pointer (some ⟨E, 0, none⟩), .func (.method "estuary/ops.do") #[.iface T v] #[]] w fun e w' => ∃ x er w1, R (.returned (.tuple #[x, .int .i64 er])) w1 ∧ e = .returned x ∧ w' = w1.setCell ⟨E, 0, none⟩ (.int .i64 er) := by
  obtain ⟨c0, f0⟩ := hE.cell
  have hcf := fun (args : Array Value) (W : World) => eg args W
  go_enter Tryz.func111, Tryz.ntmps111
  go_wp2_with fail
  refine hc.mono ?_
  intro e w1 hr
  obtain ⟨x, er, rfl, h1⟩ := hR e w1 hr
  obtain ⟨c1, f1⟩ := h1.cell
  have HR := hide hr
  clear hr hR hc hm c0 f0 hE h1
  go_wp2
  go_ret
  exact ⟨x, er, w1, HR.out, rfl, rfl⟩

set_option maxHeartbeats 2000000 in
set_option maxRecDepth 100000 in
theorem field112_no {fv : Value} {E : Nat} {er : Int} {w : World} (hE : ErrC w E er) (her : er ≠ 0) : Calls Tryz.prog 112 #[.pointer (some ⟨E, 0, none⟩), fv] w fun e w' => e = .returned (.slice none 0 0) ∧ w' = w := by
  obtain ⟨c0, f0⟩ := hE.cell
  have e0 : (er == 0) = false := by simpa using her
  go_enter Tryz.func112, Tryz.ntmps112
  go_wp2
  go_ret
  exact ⟨rfl, rfl⟩
set_option maxHeartbeats 2000000 in
set_option maxRecDepth 100000 in
theorem field112_yes {T : TypeId} {v : Value} {f : FuncId} {E : Nat} {w : World} {R : Ending → World → Prop} (hE : ErrC w E 0) (eg : Enters Tryz.prog f) (hm : ∀ W, (method 385 T v "estuary/ops.path").run Tryz.prog W = .ok (f, v) W) (hc : Calls Tryz.prog f #[v] w R) (hR : ∀ e w', R e w' → ∃ x er, e = .returned (.tuple #[x, .int .i64 er]) ∧ ErrC w' E 0) :
    Calls Tryz.prog 112 #[.pointer (some ⟨E, 0, none⟩), .func (.method "estuary/ops.path") #[.iface T v] #[]] w fun e w' => ∃ x er w1, R (.returned (.tuple #[x, .int .i64 er])) w1 ∧ e = .returned x ∧ w' = w1.setCell ⟨E, 0, none⟩ (.int .i64 er) := by
  obtain ⟨c0, f0⟩ := hE.cell
  have hcf := fun (args : Array Value) (W : World) => eg args W
  go_enter Tryz.func112, Tryz.ntmps112
  go_wp2_with fail
  refine hc.mono ?_
  intro e w1 hr
  obtain ⟨x, er, rfl, h1⟩ := hR e w1 hr
  obtain ⟨c1, f1⟩ := h1.cell
  have HR := hide hr
  clear hr hR hc hm c0 f0 hE h1
  go_wp2
  go_ret
  exact ⟨x, er, w1, HR.out, rfl, rfl⟩

set_option maxHeartbeats 2000000 in
set_option maxRecDepth 100000 in
theorem field113_no {fv : Value} {E : Nat} {er : Int} {w : World} (hE : ErrC w E er) (her : er ≠ 0) : Calls Tryz.prog 113 #[.pointer (some ⟨E, 0, none⟩), fv] w fun e w' => e = .returned (.string ⟨#[]⟩) ∧ w' = w := by
  obtain ⟨c0, f0⟩ := hE.cell
  have e0 : (er == 0) = false := by simpa using her
  go_enter Tryz.func113, Tryz.ntmps113
  go_wp2
  go_ret
  exact ⟨rfl, rfl⟩
set_option maxHeartbeats 2000000 in
set_option maxRecDepth 100000 in
theorem field113k_yes {T : TypeId} {v : Value} {f : FuncId} {E : Nat} {w : World} {R : Ending → World → Prop} (hE : ErrC w E 0) (eg : Enters Tryz.prog f) (hm : ∀ W, (method 385 T v "estuary/ops.key").run Tryz.prog W = .ok (f, v) W) (hc : Calls Tryz.prog f #[v] w R) (hR : ∀ e w', R e w' → ∃ x er, e = .returned (.tuple #[x, .int .i64 er]) ∧ ErrC w' E 0) :
    Calls Tryz.prog 113 #[.pointer (some ⟨E, 0, none⟩), .func (.method "estuary/ops.key") #[.iface T v] #[]] w fun e w' => ∃ x er w1, R (.returned (.tuple #[x, .int .i64 er])) w1 ∧ e = .returned x ∧ w' = w1.setCell ⟨E, 0, none⟩ (.int .i64 er) := by
  obtain ⟨c0, f0⟩ := hE.cell
  have hcf := fun (args : Array Value) (W : World) => eg args W
  go_enter Tryz.func113, Tryz.ntmps113
  go_wp2_with fail
  refine hc.mono ?_
  intro e w1 hr
  obtain ⟨x, er, rfl, h1⟩ := hR e w1 hr
  obtain ⟨c1, f1⟩ := h1.cell
  have HR := hide hr
  clear hr hR hc hm c0 f0 hE h1
  go_wp2
  go_ret
  exact ⟨x, er, w1, HR.out, rfl, rfl⟩
set_option maxHeartbeats 2000000 in
set_option maxRecDepth 100000 in
theorem field113t_yes {T : TypeId} {v : Value} {f : FuncId} {E : Nat} {w : World} {R : Ending → World → Prop} (hE : ErrC w E 0) (eg : Enters Tryz.prog f) (hm : ∀ W, (method 385 T v "estuary/ops.text").run Tryz.prog W = .ok (f, v) W) (hc : Calls Tryz.prog f #[v] w R) (hR : ∀ e w', R e w' → ∃ x er, e = .returned (.tuple #[x, .int .i64 er]) ∧ ErrC w' E 0) :
    Calls Tryz.prog 113 #[.pointer (some ⟨E, 0, none⟩), .func (.method "estuary/ops.text") #[.iface T v] #[]] w fun e w' => ∃ x er w1, R (.returned (.tuple #[x, .int .i64 er])) w1 ∧ e = .returned x ∧ w' = w1.setCell ⟨E, 0, none⟩ (.int .i64 er) := by
  obtain ⟨c0, f0⟩ := hE.cell
  have hcf := fun (args : Array Value) (W : World) => eg args W
  go_enter Tryz.func113, Tryz.ntmps113
  go_wp2_with fail
  refine hc.mono ?_
  intro e w1 hr
  obtain ⟨x, er, rfl, h1⟩ := hR e w1 hr
  obtain ⟨c1, f1⟩ := h1.cell
  have HR := hide hr
  clear hr hR hc hm c0 f0 hE h1
  go_wp2
  go_ret
  exact ⟨x, er, w1, HR.out, rfl, rfl⟩

set_option maxHeartbeats 2000000 in
set_option maxRecDepth 100000 in
theorem field114_no {fv : Value} {E : Nat} {er : Int} {w : World} (hE : ErrC w E er) (her : er ≠ 0) : Calls Tryz.prog 114 #[.pointer (some ⟨E, 0, none⟩), fv] w fun e w' => e = .returned (.int .i64 0) ∧ w' = w := by
  obtain ⟨c0, f0⟩ := hE.cell
  have e0 : (er == 0) = false := by simpa using her
  go_enter Tryz.func114, Tryz.ntmps114
  go_wp2
  go_ret
  exact ⟨rfl, rfl⟩
set_option maxHeartbeats 2000000 in
set_option maxRecDepth 100000 in
theorem field114_yes {T : TypeId} {v : Value} {f : FuncId} {E : Nat} {w : World} {R : Ending → World → Prop} (hE : ErrC w E 0) (eg : Enters Tryz.prog f) (hm : ∀ W, (method 385 T v "estuary/ops.number").run Tryz.prog W = .ok (f, v) W) (hc : Calls Tryz.prog f #[v] w R) (hR : ∀ e w', R e w' → ∃ x er, e = .returned (.tuple #[x, .int .i64 er]) ∧ ErrC w' E 0) :
    Calls Tryz.prog 114 #[.pointer (some ⟨E, 0, none⟩), .func (.method "estuary/ops.number") #[.iface T v] #[]] w fun e w' => ∃ x er w1, R (.returned (.tuple #[x, .int .i64 er])) w1 ∧ e = .returned x ∧ w' = w1.setCell ⟨E, 0, none⟩ (.int .i64 er) := by
  obtain ⟨c0, f0⟩ := hE.cell
  have hcf := fun (args : Array Value) (W : World) => eg args W
  go_enter Tryz.func114, Tryz.ntmps114
  go_wp2_with fail
  refine hc.mono ?_
  intro e w1 hr
  obtain ⟨x, er, rfl, h1⟩ := hR e w1 hr
  obtain ⟨c1, f1⟩ := h1.cell
  have HR := hide hr
  clear hr hR hc hm c0 f0 hE h1
  go_wp2
  go_ret
  exact ⟨x, er, w1, HR.out, rfl, rfl⟩
end Go.Proofs.YtpepgoelnagoaaaGreatDoor
namespace Go.Proofs.YtpepgoelnagoaaaGreatDoor
open Go.RowKit Go.Shelf
set_option linter.unusedSimpArgs false
set_option linter.unusedVariables false

/-- A source of fields: its value and methods, what it writes (D, below B), what it stands at (St), and what each method tells of that. -/
structure Src (σ : Type) where
  T : TypeId
  v : Value
  fd : FuncId
  fp : FuncId
  fk : FuncId
  fn : FuncId
  ft : FuncId
  D : Nat → Prop
  B : Nat
  St : σ → World → Prop
  pd : σ → Int × Int × σ
  pp : σ → List ByteArray × Int × σ
  pk : σ → ByteArray × Int × σ
  pn : σ → Int × Int × σ
  pt : σ → ByteArray × Int × σ
  okn : σ → Prop
/-- A field, unless something was wrong ahead of it. -/
def fld {α σ : Type} (f : σ → α × Int × σ) (z : α) (er : Int) (q : σ) : α × Int × σ := if er = 0 then f q else (z, er, q)
structure SrcOk {σ : Type} (s : Src σ) : Prop where
  lt : ∀ j, s.D j → j < s.B
  le : ∀ q W, s.St q W → s.B ≤ W.heap.size
  stable : ∀ q W W', s.St q W → Below s.B W W' → s.St q W'
  env : ∀ q W, s.St q W → EnvO W
  qd : ∀ W, (method 385 s.T s.v "estuary/ops.do").run Tryz.prog W = .ok (s.fd, s.v) W
  qp : ∀ W, (method 385 s.T s.v "estuary/ops.path").run Tryz.prog W = .ok (s.fp, s.v) W
  qk : ∀ W, (method 385 s.T s.v "estuary/ops.key").run Tryz.prog W = .ok (s.fk, s.v) W
  qn : ∀ W, (method 385 s.T s.v "estuary/ops.number").run Tryz.prog W = .ok (s.fn, s.v) W
  qt : ∀ W, (method 385 s.T s.v "estuary/ops.text").run Tryz.prog W = .ok (s.ft, s.v) W
  ed : Enters Tryz.prog s.fd
  ep : Enters Tryz.prog s.fp
  ek : Enters Tryz.prog s.fk
  en : Enters Tryz.prog s.fn
  et : Enters Tryz.prog s.ft
  cd : ∀ q W, s.St q W → Calls Tryz.prog s.fd #[s.v] W fun e w' => e = .returned (.tuple #[.int .i64 (s.pd q).1, .int .i64 (s.pd q).2.1]) ∧ s.St (s.pd q).2.2 w' ∧ Only s.D W w'
  cp : ∀ q W, s.St q W → Calls Tryz.prog s.fp #[s.v] W fun e w' => ∃ x, e = .returned (.tuple #[x, .int .i64 (s.pp q).2.1]) ∧ Os w' W.heap.size x (s.pp q).1 ∧ s.St (s.pp q).2.2 w' ∧ Only s.D W w'
  ck : ∀ q W, s.St q W → Calls Tryz.prog s.fk #[s.v] W fun e w' => e = .returned (.tuple #[.string (s.pk q).1, .int .i64 (s.pk q).2.1]) ∧ s.St (s.pk q).2.2 w' ∧ Only s.D W w'
  cn : ∀ q W, s.St q W → s.okn q → Calls Tryz.prog s.fn #[s.v] W fun e w' => e = .returned (.tuple #[.int .i64 (s.pn q).1, .int .i64 (s.pn q).2.1]) ∧ s.St (s.pn q).2.2 w' ∧ Only s.D W w'
  ct : ∀ q W, s.St q W → Calls Tryz.prog s.ft #[s.v] W fun e w' => e = .returned (.tuple #[.string (s.pt q).1, .int .i64 (s.pt q).2.1]) ∧ s.St (s.pt q).2.2 w' ∧ Only s.D W w'
  num : ∀ q, I64 (s.pn q).1
  plen : ∀ q, (s.pp q).1.length ≤ 1000000
theorem only_setE {D : Nat → Prop} {W w1 : World} {E : Nat} {x : Value} (h : Only D W w1) : Only (fun j => D j ∨ j = E) W (w1.setCell ⟨E, 0, none⟩ x) :=
  (h.mono (fun _ _ hd => .inl hd)).setCell ⟨E, 0, none⟩ x (fun _ => .inr rfl)
theorem errC_set {w : World} {E : Nat} {er : Int} (h : ErrC w E 0) : ErrC (w.setCell ⟨E, 0, none⟩ (.int .i64 er)) E er := by
  unfold ErrC at h ⊢
  rw [heap_setCell_same _ _ _ _ 27 _ h]
  rfl
theorem below_setE {B : Nat} {w : World} {E : Nat} {x : Value} (h : B ≤ E) : Below B w (w.setCell ⟨E, 0, none⟩ x) := (Below.refl B w).setCell (p := ⟨E, 0, none⟩) h x

set_option maxHeartbeats 1000000 in
theorem fdd_any {σ : Type} {s : Src σ} (hs : SrcOk s) {q : σ} {W : World} {E : Nat} {er : Int} (hq : s.St q W) (hE : ErrC W E er) (hB : s.B ≤ E) :
    Calls Tryz.prog 111 #[.pointer (some ⟨E, 0, none⟩), .func (.method "estuary/ops.do") #[.iface s.T s.v] #[]] W fun e w' => e = .returned (.int .i64 (fld s.pd 0 er q).1) ∧ ErrC w' E (fld s.pd 0 er q).2.1 ∧ s.St (fld s.pd 0 er q).2.2 w' ∧ Only (fun j => s.D j ∨ j = E) W w' := by
  by_cases her : er = 0
  · subst her
    have hf : fld s.pd 0 0 q = s.pd q := if_pos rfl
    rw [hf]
    have hlt : E < W.heap.size := (Array.getElem?_eq_some_iff.1 hE).1
    refine (field111_yes hE hs.ed hs.qd (hs.cd q W hq) ?_).mono ?_
    · rintro e w' ⟨rfl, hst, ho⟩
      exact ⟨_, _, rfl, (ho.block E hlt (fun hd => absurd (hs.lt E hd) (by omega))).trans hE⟩
    · rintro e w' ⟨x, er', w1, ⟨h1, hst, ho⟩, rfl, rfl⟩
      simp only [Ending.returned.injEq, Value.tuple.injEq, Array.mk.injEq, List.cons.injEq, Value.int.injEq, true_and, and_true] at h1
      obtain ⟨rfl, rfl⟩ := h1
      have hE1 : ErrC w1 E 0 := (ho.block E hlt (fun hd => absurd (hs.lt E hd) (by omega))).trans hE
      refine ⟨rfl, errC_set hE1, hs.stable _ _ _ hst (below_setE hB), only_setE ho⟩
  · have hf : fld s.pd 0 er q = (0, er, q) := if_neg her
    rw [hf]
    refine (field111_no hE her).mono ?_
    rintro e w' ⟨rfl, h2⟩
    have h2 := h2.symm
    subst h2
    exact ⟨rfl, hE, hq, Only.refl _ _⟩

set_option maxHeartbeats 1000000 in
theorem fdp_any {σ : Type} {s : Src σ} (hs : SrcOk s) {q : σ} {W : World} {E : Nat} {er : Int} (hq : s.St q W) (hE : ErrC W E er) (hB : s.B ≤ E) :
    Calls Tryz.prog 112 #[.pointer (some ⟨E, 0, none⟩), .func (.method "estuary/ops.path") #[.iface s.T s.v] #[]] W fun e w' => ∃ x, e = .returned (x) ∧ Os w' W.heap.size x (fld s.pp [] er q).1 ∧ ErrC w' E (fld s.pp [] er q).2.1 ∧ s.St (fld s.pp [] er q).2.2 w' ∧ Only (fun j => s.D j ∨ j = E) W w' := by
  by_cases her : er = 0
  · subst her
    have hf : fld s.pp [] 0 q = s.pp q := if_pos rfl
    rw [hf]
    have hlt : E < W.heap.size := (Array.getElem?_eq_some_iff.1 hE).1
    refine (field112_yes hE hs.ep hs.qp (hs.cp q W hq) ?_).mono ?_
    · rintro e w' ⟨x, rfl, hos, hst, ho⟩
      exact ⟨_, _, rfl, (ho.block E hlt (fun hd => absurd (hs.lt E hd) (by omega))).trans hE⟩
    · rintro e w' ⟨x, er', w1, ⟨x2, h1, hos, hst, ho⟩, rfl, rfl⟩
      simp only [Ending.returned.injEq, Value.tuple.injEq, Array.mk.injEq, List.cons.injEq, Value.int.injEq, true_and, and_true] at h1
      obtain ⟨rfl, rfl⟩ := h1
      have hE1 : ErrC w1 E 0 := (ho.block E hlt (fun hd => absurd (hs.lt E hd) (by omega))).trans hE
      refine ⟨_, rfl, ?_, errC_set hE1, hs.stable _ _ _ hst (below_setE hB), only_setE ho⟩
      exact hos.only (Only.ofGrown (grown_setCell w1 ⟨E, 0, none⟩ _)) (fun k hk e => by have := (World.ownsRow.lt hos k hk).1; simp only [Option.some.injEq] at e; omega)
  · have hf : fld s.pp [] er q = ([], er, q) := if_neg her
    rw [hf]
    refine (field112_no hE her).mono ?_
    rintro e w' ⟨rfl, h2⟩
    have h2 := h2.symm
    subst h2
    exact ⟨_, rfl, Os.nil _ _, hE, hq, Only.refl _ _⟩

set_option maxHeartbeats 1000000 in
theorem fdk_any {σ : Type} {s : Src σ} (hs : SrcOk s) {q : σ} {W : World} {E : Nat} {er : Int} (hq : s.St q W) (hE : ErrC W E er) (hB : s.B ≤ E) :
    Calls Tryz.prog 113 #[.pointer (some ⟨E, 0, none⟩), .func (.method "estuary/ops.key") #[.iface s.T s.v] #[]] W fun e w' => e = .returned (.string (fld s.pk ⟨#[]⟩ er q).1) ∧ ErrC w' E (fld s.pk ⟨#[]⟩ er q).2.1 ∧ s.St (fld s.pk ⟨#[]⟩ er q).2.2 w' ∧ Only (fun j => s.D j ∨ j = E) W w' := by
  by_cases her : er = 0
  · subst her
    have hf : fld s.pk ⟨#[]⟩ 0 q = s.pk q := if_pos rfl
    rw [hf]
    have hlt : E < W.heap.size := (Array.getElem?_eq_some_iff.1 hE).1
    refine (field113k_yes hE hs.ek hs.qk (hs.ck q W hq) ?_).mono ?_
    · rintro e w' ⟨rfl, hst, ho⟩
      exact ⟨_, _, rfl, (ho.block E hlt (fun hd => absurd (hs.lt E hd) (by omega))).trans hE⟩
    · rintro e w' ⟨x, er', w1, ⟨h1, hst, ho⟩, rfl, rfl⟩
      simp only [Ending.returned.injEq, Value.tuple.injEq, Array.mk.injEq, List.cons.injEq, Value.int.injEq, true_and, and_true] at h1
      obtain ⟨rfl, rfl⟩ := h1
      have hE1 : ErrC w1 E 0 := (ho.block E hlt (fun hd => absurd (hs.lt E hd) (by omega))).trans hE
      refine ⟨rfl, errC_set hE1, hs.stable _ _ _ hst (below_setE hB), only_setE ho⟩
  · have hf : fld s.pk ⟨#[]⟩ er q = (⟨#[]⟩, er, q) := if_neg her
    rw [hf]
    refine (field113_no hE her).mono ?_
    rintro e w' ⟨rfl, h2⟩
    have h2 := h2.symm
    subst h2
    exact ⟨rfl, hE, hq, Only.refl _ _⟩

set_option maxHeartbeats 1000000 in
theorem fdn_any {σ : Type} {s : Src σ} (hs : SrcOk s) {q : σ} {W : World} {E : Nat} {er : Int} (hq : s.St q W) (hE : ErrC W E er) (hB : s.B ≤ E) (hk : er = 0 → s.okn q) :
    Calls Tryz.prog 114 #[.pointer (some ⟨E, 0, none⟩), .func (.method "estuary/ops.number") #[.iface s.T s.v] #[]] W fun e w' => e = .returned (.int .i64 (fld s.pn 0 er q).1) ∧ ErrC w' E (fld s.pn 0 er q).2.1 ∧ s.St (fld s.pn 0 er q).2.2 w' ∧ Only (fun j => s.D j ∨ j = E) W w' := by
  by_cases her : er = 0
  · subst her
    have hf : fld s.pn 0 0 q = s.pn q := if_pos rfl
    rw [hf]
    have hlt : E < W.heap.size := (Array.getElem?_eq_some_iff.1 hE).1
    refine (field114_yes hE hs.en hs.qn (hs.cn q W hq (hk rfl)) ?_).mono ?_
    · rintro e w' ⟨rfl, hst, ho⟩
      exact ⟨_, _, rfl, (ho.block E hlt (fun hd => absurd (hs.lt E hd) (by omega))).trans hE⟩
    · rintro e w' ⟨x, er', w1, ⟨h1, hst, ho⟩, rfl, rfl⟩
      simp only [Ending.returned.injEq, Value.tuple.injEq, Array.mk.injEq, List.cons.injEq, Value.int.injEq, true_and, and_true] at h1
      obtain ⟨rfl, rfl⟩ := h1
      have hE1 : ErrC w1 E 0 := (ho.block E hlt (fun hd => absurd (hs.lt E hd) (by omega))).trans hE
      refine ⟨rfl, errC_set hE1, hs.stable _ _ _ hst (below_setE hB), only_setE ho⟩
  · have hf : fld s.pn 0 er q = (0, er, q) := if_neg her
    rw [hf]
    refine (field114_no hE her).mono ?_
    rintro e w' ⟨rfl, h2⟩
    have h2 := h2.symm
    subst h2
    exact ⟨rfl, hE, hq, Only.refl _ _⟩

set_option maxHeartbeats 1000000 in
theorem fdt_any {σ : Type} {s : Src σ} (hs : SrcOk s) {q : σ} {W : World} {E : Nat} {er : Int} (hq : s.St q W) (hE : ErrC W E er) (hB : s.B ≤ E) :
    Calls Tryz.prog 113 #[.pointer (some ⟨E, 0, none⟩), .func (.method "estuary/ops.text") #[.iface s.T s.v] #[]] W fun e w' => e = .returned (.string (fld s.pt ⟨#[]⟩ er q).1) ∧ ErrC w' E (fld s.pt ⟨#[]⟩ er q).2.1 ∧ s.St (fld s.pt ⟨#[]⟩ er q).2.2 w' ∧ Only (fun j => s.D j ∨ j = E) W w' := by
  by_cases her : er = 0
  · subst her
    have hf : fld s.pt ⟨#[]⟩ 0 q = s.pt q := if_pos rfl
    rw [hf]
    have hlt : E < W.heap.size := (Array.getElem?_eq_some_iff.1 hE).1
    refine (field113t_yes hE hs.et hs.qt (hs.ct q W hq) ?_).mono ?_
    · rintro e w' ⟨rfl, hst, ho⟩
      exact ⟨_, _, rfl, (ho.block E hlt (fun hd => absurd (hs.lt E hd) (by omega))).trans hE⟩
    · rintro e w' ⟨x, er', w1, ⟨h1, hst, ho⟩, rfl, rfl⟩
      simp only [Ending.returned.injEq, Value.tuple.injEq, Array.mk.injEq, List.cons.injEq, Value.int.injEq, true_and, and_true] at h1
      obtain ⟨rfl, rfl⟩ := h1
      have hE1 : ErrC w1 E 0 := (ho.block E hlt (fun hd => absurd (hs.lt E hd) (by omega))).trans hE
      refine ⟨rfl, errC_set hE1, hs.stable _ _ _ hst (below_setE hB), only_setE ho⟩
  · have hf : fld s.pt ⟨#[]⟩ er q = (⟨#[]⟩, er, q) := if_neg her
    rw [hf]
    refine (field113_no hE her).mono ?_
    rintro e w' ⟨rfl, h2⟩
    have h2 := h2.symm
    subst h2
    exact ⟨rfl, hE, hq, Only.refl _ _⟩
end Go.Proofs.YtpepgoelnagoaaaGreatDoor
