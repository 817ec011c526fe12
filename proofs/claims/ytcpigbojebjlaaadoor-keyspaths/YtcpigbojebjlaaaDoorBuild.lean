/-
  A strings.Builder THAT A CALL HAS MADE: copyCheck, WriteByte, WriteString over this dump (their bodies are not those of the shelf's names), with what they leave as it was; String by the shelf's contract.
-/
import Derived.Test.YtcpigbojebjlaaaDoorCmps
import Derived.Lib.Builder
import Derived.Lib.AppendStr
import Derived.Laws.Externs
namespace Go.Proofs.YtcpigbojebjlaaaDoor
open Go.RowKit Go.Shelf
set_option linter.unusedSimpArgs false

theorem info61 : (Tryd.prog.info? 61).map (·.size) = some 2 := by kernel_rfl
theorem lies61 : liesAt Tryd.prog Tryd.prog.depth 61 (2 / Tryd.prog.cellsOf 61) 0 61 1 = true := by kernel_rfl

/-- The builder in block b, its buffer v (from B on), its bytes l. -/
def Bd (w : World) (B b : Nat) (v : Value) (l : List UInt8) : Prop :=
  (∃ p, (p = .pointer none ∨ p = .pointer (some ⟨b, 0, none⟩)) ∧ w.heap[b]? = some (.cells #[p, v] 61 (0, 0))) ∧ w.ownsRow B 5 1 v l.length (Lib.byteCells l) ∧ v.ownBlock ≠ some b
theorem Bd.lt {w : World} {B b : Nat} {v : Value} {l : List UInt8} (h : Bd w B b v l) : b < w.heap.size := by
  obtain ⟨⟨p, _, hb⟩, _⟩ := h
  exact (Array.getElem?_eq_some_iff.1 hb).1
theorem Bd.blk {w : World} {B b : Nat} {v : Value} {l : List UInt8} (h : Bd w B b v l) : ∀ k, v.ownBlock = some k → B ≤ k ∧ k < w.heap.size := World.ownsRow.lt h.2.1
theorem Bd.only {w w' : World} {B b : Nat} {v : Value} {l : List UInt8} {D : Nat → Prop} (h : Bd w B b v l) (ho : Only D w w') (hb : ¬ D b) (hv : ∀ k, v.ownBlock = some k → ¬ D k) : Bd w' B b v l := by
  have hlt := h.lt
  obtain ⟨⟨p, hp, hc⟩, h3, h4⟩ := h
  exact ⟨⟨p, hp, (ho.block b hlt hb).trans hc⟩, ho.row h3 hv, h4⟩
theorem row_lift {w : World} {B B' e n : Nat} {v : Value} {xs : List Value} (h : w.ownsRow B e 1 v n xs) (hB : B' ≤ B) : w.ownsRow B' e 1 v n xs := by
  refine ⟨h.1, ?_⟩
  rcases h.2 with h2 | ⟨g, cap, cur, h1, h2, h3⟩
  · exact .inl h2
  · exact .inr ⟨g, cap, cur, h1, by omega, h3⟩
theorem Bd.is {w : World} {B B' b : Nat} {v : Value} {l : List UInt8} (h : Bd w B b v l) (hb : B' ≤ b) (hB : B' ≤ B) : Lib.IsBuilder 61 5 B' b (Lib.byteCells l) w := by
  obtain ⟨⟨p, hp, hc⟩, h3, h4⟩ := h
  rcases hp with rfl | rfl
  · exact .inl ⟨hb, v, hc, by rw [Lib.byteCells_length]; exact row_lift h3 hB, h4⟩
  · exact .inr ⟨hb, v, hc, by rw [Lib.byteCells_length]; exact row_lift h3 hB, h4⟩
theorem Bd.fresh (w : World) (B : Nat) : Bd (w.alloc (.cells #[.pointer none, .slice none 0 0] 61)) B w.heap.size (.slice none 0 0) [] :=
  ⟨⟨_, .inl rfl, heap_alloc_new w _⟩, World.ownsRow_nil _ _ _ _, by simp [Value.ownBlock]⟩
/-- What the builder holds, as a text. -/
theorem string_any {w : World} {B B' b : Nat} {v : Value} {l : List UInt8} (h : Bd w B b v l) (hb : B' ≤ b) (hB : B' ≤ B) (hBw : B' ≤ w.heap.size) : Calls Tryd.prog 41 #[.pointer (some ⟨b, 0, none⟩)] w fun e w' => e = .returned (.string ⟨l.toArray⟩) ∧ Below B' w w' :=
  Tryd.Builder_String_any B' b l w (h.is hb hB) hBw

set_option maxHeartbeats 1000000 in
set_option maxRecDepth 100000 in
theorem check_used (b : Nat) (w : World) (h0 : w.cell? ⟨b, 0, none⟩ = some (.pointer (some ⟨b, 0, none⟩))) :
    Calls Tryd.prog 59 #[.pointer (some ⟨b, 0, none⟩)] w fun e w' => e = .returned (.tuple #[]) ∧ w' = w := by
  obtain ⟨j, hj, _⟩ := Option.map_eq_some_iff.1 info61
  go_enter Tryd.func59, Tryd.ntmps59
  go_wp2
  rw [Lib.run_neq_ptr_same w _ Tryd.underlying58 hj]
  go_wp2
  go_end0
  exact ⟨rfl, rfl⟩

set_option maxHeartbeats 1000000 in
set_option maxRecDepth 100000 in
theorem check_fresh (b : Nat) (w : World) (h0 : w.cell? ⟨b, 0, none⟩ = some (.pointer none)) (hsh : w.shape? b = some (61, 2)) (hfz : w.frozen? ⟨b, 0, none⟩ = false) :
    Calls Tryd.prog 59 #[.pointer (some ⟨b, 0, none⟩)] w fun e w' => e = .returned (.tuple #[]) ∧ w' = w.setCell ⟨b, 0, none⟩ (.pointer (some ⟨b, 0, none⟩)) := by
  obtain ⟨j, hj, hjs⟩ := Option.map_eq_some_iff.1 info61
  go_enter Tryd.func59, Tryd.ntmps59
  go_wp2
  rw [Lib.run_to_unsafe w ⟨b, 0, none⟩ Tryd.underlying58 Tryd.underlying91 hj (by rw [hjs]; decide) hsh (Nat.zero_lt_succ 1)]
  simp only [Result.andThen]
  rw [Oper.upon_value]
  go_wp2
  rw [run_callFunc_extern Tryd.func66 (by kernel_rfl) (by kernel_rfl) (by kernel_rfl) (e := Extern.AbiNoEscape.same) (by kernel_rfl)]
  rw [Lib.run_noEscape]
  simp only [Result.andThen]
  rw [Oper.upon_value]
  go_wp2
  rw [Lib.run_from_unsafe w ⟨b, 0, none⟩ Tryd.underlying91 Tryd.underlying58 hj hsh lies61]
  simp only [Result.andThen]
  rw [Oper.upon_value]
  go_wp2
  go_end0
  exact ⟨rfl, rfl⟩

theorem check_any {w : World} {B b : Nat} {v : Value} {l : List UInt8} (h : Bd w B b v l) :
    Calls Tryd.prog 59 #[.pointer (some ⟨b, 0, none⟩)] w fun e w' => e = .returned (.tuple #[]) ∧ w'.heap[b]? = some (.cells #[.pointer (some ⟨b, 0, none⟩), v] 61 (0, 0)) ∧ Only (fun k => k = b) w w' := by
  obtain ⟨⟨p, hp, hc⟩, h3, h4⟩ := h
  rcases hp with rfl | rfl
  · refine (check_fresh b w (by rw [Lib.cell_of_heap hc]; rfl) (by simp [World.shape?, hc]) (Lib.frozen_of_heap hc 0)).mono ?_
    rintro e w' ⟨rfl, rfl⟩
    exact ⟨rfl, by simp [World.setCell, Array.getElem?_modify, hc], (Only.refl _ w).setCell ⟨b, 0, none⟩ _ (fun _ => rfl)⟩
  · refine (check_used b w (by rw [Lib.cell_of_heap hc]; rfl)).mono ?_
    rintro e w' ⟨rfl, rfl⟩
    exact ⟨rfl, hc, Only.refl _ _⟩

/-- What a write leaves. -/
def Wrote (w w' : World) (B b : Nat) (v : Value) (l : List UInt8) : Prop :=
  ∃ v', Bd w' B b v' l ∧ Only (fun k => k = b ∨ v.ownBlock = some k) w w'

set_option maxHeartbeats 2000000 in
set_option maxRecDepth 100000 in
theorem writeByte_any {w : World} {B b : Nat} {v : Value} {l : List UInt8} (c : UInt8) (h : Bd w B b v l) (hlen : l.length + 1 ≤ 140737488355328) (hBw : B ≤ w.heap.size) :
    Calls Tryd.prog 40 #[.pointer (some ⟨b, 0, none⟩), .int .u8 (c.toNat : Int)] w fun e w' => e = .returned .nilIface ∧ Wrote w w' B b v (l ++ [c]) := by
  obtain ⟨i0, hi, hz0, hz1, hz2⟩ := info_parts Tryd.info5
  have hck := check_any h
  have hown0 := h.2.1
  have hne := h.2.2
  have hlt0 := h.lt
  generalize hcc : (c.toNat : Int) = cc
  go_enter Tryd.func40, Tryd.ntmps40
  go_wp2_with (go_at_call 59; refine hck.mono ?_)
  rintro e w1 ⟨rfl, hbk, o1⟩
  have hs1 := o1.size
  have hown : w1.ownsRow B 5 1 v l.length (Lib.byteCells l) := o1.row hown0 (fun k hk e => hne (by rw [hk, e]))
  have c0 : w1.cell? ⟨b, 0, none⟩ = some (.pointer (some ⟨b, 0, none⟩)) := by rw [Lib.cell_of_heap hbk]; rfl
  have c1 : w1.cell? ⟨b, 1, none⟩ = some v := by rw [Lib.cell_of_heap hbk]; rfl
  go_wp2_with (at_builtin; refine wpList_append_own _ rfl _ _ 59 rfl B 5 i0 (.int .u8 0) 1 1 Tryd.underlying59 hi hz0 hz1 hz2 rfl (by decide) _ _ _ rfl (hown.alloc _) ⟨w1.heap.size, 0, none⟩ 1 1 [.int .u8 cc] rfl rfl ?c1 ?c2 ?c3 ?c4 ?c5 ?_)
  case c1 =>
    intro j u hj
    match j, hj with
    | 0, hj => simp at hj; subst hj; simp [Addr.add]
  case c2 => intro u hu; simp at hu; subst hu; rfl
  case c3 => unfold maxLen; omega
  case c4 => omega
  case c5 => simp; omega
  intro v' w2 hown' hgrow _
  have hb2 : w2.heap[b]? = some (.cells #[.pointer (some ⟨b, 0, none⟩), v] 61 (0, 0)) := by
    rw [hgrow.block b (by simp; omega) (fun e => hne e.symm), Lib.alloc_old w1 _ b (by omega)]
    exact hbk
  have d0 : w2.cell? ⟨b, 0, none⟩ = some (.pointer (some ⟨b, 0, none⟩)) := by rw [Lib.cell_of_heap hb2]; rfl
  have d1 : w2.cell? ⟨b, 1, none⟩ = some v := by rw [Lib.cell_of_heap hb2]; rfl
  have f1 : w2.frozen? ⟨b, 1, none⟩ = false := Lib.frozen_of_heap hb2 1
  have hnb : v'.ownBlock ≠ some b := Lib.ownBlock_ne hown' hb2 (by decide)
  obtain ⟨g, cap, rfl⟩ : ∃ g cap, v' = .slice (some ⟨g, 0, none⟩) (l.length + 1) cap := by
    rcases hown'.2 with ⟨_, h0⟩ | ⟨g, cap, cur, hv, _⟩
    · omega
    · exact ⟨g, cap, hv⟩
  go_wp2
  go_ret
  have o2 : Only (fun k => k = b ∨ v.ownBlock = some k) w w2 := ((o1.mono (fun k _ e => .inl e)).alloc _).trans (Only.ofGrown hgrow) (fun k _ e => .inr e)
  refine ⟨rfl, _, ⟨⟨_, .inr rfl, ?_⟩, ?_, hnb⟩, o2.setCell _ _ (fun _ => .inl rfl)⟩
  · simp [World.setCell, Array.getElem?_modify, hb2]
  · have hw : w2.ownsRow B 5 1 (.slice (some ⟨g, 0, none⟩) (l.length + 1) cap) (l ++ [c]).length (Lib.byteCells (l ++ [c])) := by
      have e1 : Lib.byteCells (l ++ [c]) = Lib.byteCells l ++ [.int .u8 cc] := by rw [← hcc]; simp [Lib.byteCells]
      rw [e1, List.length_append]
      exact hown'
    exact hw.kept (row := some b) ⟨rfl, rfl, rfl, by simp [World.setCell], fun k _ hk => Below.heap_setCell _ _ _ _ (fun e => hk (by simp [e]))⟩ (Or.inr hnb)
set_option maxHeartbeats 2000000 in
set_option maxRecDepth 100000 in
theorem writeString_any {w : World} {B b : Nat} {v : Value} {l : List UInt8} (s : ByteArray) (h : Bd w B b v l) (hlen : l.length + s.size ≤ 140737488355328) (hBw : B ≤ w.heap.size) :
    Calls Tryd.prog 48 #[.pointer (some ⟨b, 0, none⟩), .string s] w fun e w' => e = .returned (.tuple #[.int .i64 s.size, .nilIface]) ∧ Wrote w w' B b v (l ++ s.data.toList) := by
  obtain ⟨i0, hi, hz0, hz1, hz2⟩ := info_parts Tryd.info5
  have hck := check_any h
  have hown0 := h.2.1
  have hne := h.2.2
  have hlt0 := h.lt
  go_enter Tryd.func48, Tryd.ntmps48
  go_wp2_with (go_at_call 59; refine hck.mono ?_)
  rintro e w1 ⟨rfl, hbk, o1⟩
  have hs1 := o1.size
  have hown : w1.ownsRow B 5 1 v l.length (Lib.byteCells l) := o1.row hown0 (fun k hk e => hne (by rw [hk, e]))
  have c0 : w1.cell? ⟨b, 0, none⟩ = some (.pointer (some ⟨b, 0, none⟩)) := by rw [Lib.cell_of_heap hbk]; rfl
  have c1 : w1.cell? ⟨b, 1, none⟩ = some v := by rw [Lib.cell_of_heap hbk]; rfl
  go_wp2_with (at_builtin; refine Lib.wpList_append_own_string _ rfl _ _ 59 9 rfl B 5 i0 Tryd.underlying59 Tryd.underlying9 hi hz0 hz1 hz2 _ _ _ rfl hown s rfl ?c3 ?c4 ?c5 ?_)
  case c3 => unfold maxLen; omega
  case c4 => omega
  case c5 => omega
  intro v' w2 hown' hgrow _
  have hb2 : w2.heap[b]? = some (.cells #[.pointer (some ⟨b, 0, none⟩), v] 61 (0, 0)) := by
    rw [hgrow.block b (by omega) (fun e => hne e.symm)]
    exact hbk
  have d0 : w2.cell? ⟨b, 0, none⟩ = some (.pointer (some ⟨b, 0, none⟩)) := by rw [Lib.cell_of_heap hb2]; rfl
  have d1 : w2.cell? ⟨b, 1, none⟩ = some v := by rw [Lib.cell_of_heap hb2]; rfl
  have f1 : w2.frozen? ⟨b, 1, none⟩ = false := Lib.frozen_of_heap hb2 1
  have hnb : v'.ownBlock ≠ some b := Lib.ownBlock_ne hown' hb2 (by decide)
  obtain ⟨ao, n', cap, rfl⟩ : ∃ ao n' cap, v' = .slice ao n' cap := by
    rcases hown'.2 with ⟨hv, _⟩ | ⟨g, cap, cur, hv, _⟩
    · exact ⟨_, _, _, hv⟩
    · exact ⟨_, _, _, hv⟩
  go_wp2
  go_ret2
  have o2 : Only (fun k => k = b ∨ v.ownBlock = some k) w w2 := (o1.mono (fun k _ e => .inl e)).trans (Only.ofGrown hgrow) (fun k _ e => .inr e)
  refine ⟨rfl, _, ⟨⟨_, .inr rfl, ?_⟩, ?_, hnb⟩, o2.setCell _ _ (fun _ => .inl rfl)⟩
  · simp [World.setCell, Array.getElem?_modify, hb2]
  · have hw : w2.ownsRow B 5 1 (.slice ao n' cap) (l ++ s.data.toList).length (Lib.byteCells (l ++ s.data.toList)) := by
      have e1 : Lib.byteCells (l ++ s.data.toList) = Lib.byteCells l ++ Lib.strCells s := by simp [Lib.byteCells, Lib.strCells]
      rw [e1, List.length_append, ← Lib.size_eq]
      exact hown'
    exact hw.kept (row := some b) ⟨rfl, rfl, rfl, by simp [World.setCell], fun k _ hk => Below.heap_setCell _ _ _ _ (fun e => hk (by simp [e]))⟩ (Or.inr hnb)
end Go.Proofs.YtcpigbojebjlaaaDoor
