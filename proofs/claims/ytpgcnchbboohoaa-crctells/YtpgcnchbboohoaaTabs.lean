/-
  WALKS over the crc layer's tables.
-/
import Derived.Test.YtpgcnchbboohoaaSteps
import Derived.Deep.WholeRow
import Derived.Deep.MidRow
import Derived.Laws.ResultCell
namespace Go.Proofs.Ytpgcnchbboohoaa
open Go.RowKit Crc

/-- A table of n numbers, of which the first k are laid. -/
def tab (n : Nat) (f : Nat → Nat) (k : Nat) : List Value := (List.range n).map fun i => .int .u32 ((if i < k then f i else 0 : Nat) : Int)
theorem tab_length (n k : Nat) (f : Nat → Nat) : (tab n f k).length = n := by simp [tab]
theorem tab_at {n i k : Nat} {f : Nat → Nat} (h : i < n) : (tab n f k)[i]? = some (.int .u32 ((if i < k then f i else 0 : Nat) : Int)) := by
  simp [tab, h]
theorem tab_set {n k : Nat} {f : Nat → Nat} (h : k < n) : (tab n f k).set k (.int .u32 (f k : Nat)) = tab n f (k + 1) := by
  apply List.ext_getElem?
  intro i
  rw [List.getElem?_set, tab_length]
  by_cases hi : k = i
  · subst hi; rw [if_pos rfl, if_pos h, tab_at h, if_pos (by omega)]
  · rw [if_neg hi]
    by_cases hn : i < n
    · rw [tab_at hn, tab_at hn]
      congr 3
      by_cases h1 : i < k
      · rw [if_pos h1, if_pos (by omega)]
      · rw [if_neg h1, if_neg (by omega)]
    · rw [List.getElem?_eq_none (by rw [tab_length]; omega), List.getElem?_eq_none (by rw [tab_length]; omega)]
theorem tab_zero (n : Nat) (f : Nat → Nat) : tab n f 0 = List.replicate n (.int .u32 0) := by
  apply List.ext_getElem?
  intro i
  by_cases h : i < n
  · rw [tab_at h, if_neg (by omega), List.getElem?_replicate, if_pos h]; rfl
  · rw [List.getElem?_eq_none (by rw [tab_length]; omega), List.getElem?_eq_none (by simp; omega)]
theorem tab_one (n k : Nat) (f : Nat → Nat) : ∀ v ∈ tab n f k, v.oneCell' = true := by
  intro v hv
  simp only [tab, List.mem_map] at hv
  obtain ⟨i, _, rfl⟩ := hv
  rfl

theorem below_setCells {B : Nat} {a : World} {b : Nat} (hb : B ≤ b) : ∀ (vs : List Value) (o : Nat) {w : World}, Below B a w → Below B a (w.setCells b o vs)
  | [], _, _, h => h
  | v :: r, o, w, h => by rw [World.setCells]; exact below_setCells hb r (o + 1) (h.setCell hb v)
theorem results_cell {fn : Func} {p : Tmp} {ty : TypeId} (h : fn.results = #[.cell p ty]) (tmps : Array Value) (P : Program) (w : World) :
    (results fn tmps).run P w = ((asAddr (tmps.getD p undef)).run P w).andThen fun a w₁ => (loadVar ty a).run P w₁ := by
  simp only [results, h]
  simp [Sem.run_bind, Result.andThen]

section
variable {P : Program}
theorem rangeAt_new (w : World) (cs : List Value) (t : TypeId) : (w.alloc (.cells cs.toArray t)).rangeAt w.heap.size 0 cs := fun j v hv => by
  rw [cell_of_row _ _ (0 + j) cs.toArray t (0, 0) (heap_alloc_last w _), Nat.zero_add]
  simpa using hv
theorem there_new (w : World) (cs : List Value) (t : TypeId) : (w.alloc (.cells cs.toArray t)).there w.heap.size 0 cs.length := fun j hj => by
  refine ⟨World.rangeAt.isSome (rangeAt_new w cs t) j hj, ?_⟩
  simp [go_sem]

/-- A whole table out of a block. -/
theorem wpList_load_tab {ops : Array Oper} {rest : List Oper} {op : Oper} {a : Act} {w : World} {Q : Exit → Act → World → Prop} (ty : TypeId) (x : Operand) (b n : Nat) (cs : List Value) (hgd : op.guard = none) (ho : op.op = .load ty x)
    (hx : a.eval x = .pointer (some ⟨b, 0, none⟩)) {e : TypeId} {m : Nat} (hu : P.underlying ty = some (.array m e)) (hi : (P.info? ty).map (·.size) = some n) (hn : cs.length = n) (hc : w.rangeAt b 0 cs)
    (h : wpList P ops Q rest (a.put op.dst (.agg cs.toArray)) w) : wpList P ops Q (op :: rest) a w :=
  wpList_load_mid hgd ty x ho b 0 hx cs _ hc hu rfl (by rw [hi, hn]) h
/-- A whole table into a block. -/
theorem wpList_store_tab {ops : Array Oper} {rest : List Oper} {op : Oper} {a : Act} {w : World} {Q : Exit → Act → World → Prop} (ty : TypeId) (x y : Operand) (b n : Nat) (cs : List Value) (hgd : op.guard = none) (hdn : op.dst = none) (ho : op.op = .store ty x y)
    (hx : a.eval x = .pointer (some ⟨b, 0, none⟩)) (hy : a.eval y = .agg cs.toArray) (hi : (P.info? ty).map (·.size) = some n) (hn : cs.length = n) (ht : w.there b 0 n) (h1 : ∀ v ∈ cs, v.oneCell' = true)
    (h : wpList P ops Q rest a (w.setCells b 0 cs)) : wpList P ops Q (op :: rest) a w :=
  wpList_store_mid hgd ty x y ho b 0 cs.toArray hx hy (by rw [List.size_toArray, hn]; exact ht) (by rw [hi, List.size_toArray, hn]) (all_oneCell_toArray h1) (by rw [hdn]; exact h)
/-- A table that is handed back. -/
theorem ret_tab {fn : Func} {p : Tmp} {ty : TypeId} (b n : Nat) (cs : List Value) {R : Ending → World → Prop} {a : Act} {w : World} (h : fn.results = #[.cell p ty]) (hp : a.tmps.getD p undef = .pointer (some ⟨b, 0, none⟩))
    {e : TypeId} {m : Nat} (hu : P.underlying ty = some (.array m e)) (hi : (P.info? ty).map (·.size) = some n) (hn : cs.length = n) (hc : w.rangeAt b 0 cs) (hd : a.defers = [])
    (hR : R (.returned (.agg cs.toArray)) w) : bodyPost P fn R .ret a w := by
  refine bodyPost_ret (v := .agg cs.toArray) ?_ hd hR
  rw [results_cell h, hp]
  have := run_loadVar_mid (P := P) w b 0 ty cs _ hc hu rfl (by rw [hi, hn])
  simp [asAddr, Result.andThen, this]
end

theorem Try.info38 : (Try.prog.info? 38).map (fun i => (i.zero, i.size)) = some (some (.agg (Array.replicate 16 (.int .u32 0))), 16) := by kernel_rfl
theorem Try.info42 : (Try.prog.info? 42).map (fun i => (i.zero, i.size)) = some (some (.agg (Array.replicate 32 (.int .u32 0))), 32) := by kernel_rfl

set_option maxHeartbeats 400000 in
set_option maxRecDepth 100000 in
theorem halves_any (w : World) :
    Calls Try.prog 17 #[] w fun e w' => e = .returned (.agg (tab 16 (hs 4) 16).toArray) ∧ Below w.heap.size w w' := by
  obtain ⟨hz, hi⟩ := zero_of_info (P := Try.prog) Try.info38
  go_enter Try.func17, Try.ntmps17
  go_wp2
  obtain ⟨W, hW⟩ : ∃ W, W = w.alloc (Obj.cells (Array.replicate 16 (Value.int IntKind.u32 0)) 38) := ⟨_, rfl⟩
  have hWs : w.heap.size + 1 = W.heap.size := by rw [hW]; simp
  rw [hWs, ← hW]
  have HW : Hid (W = w.alloc (Obj.cells (Array.replicate 16 (Value.int IntKind.u32 0)) 38)) := hW
  have HWs : Hid (w.heap.size + 1 = W.heap.size) := hWs
  clear hW hWs
  go_loopw [3] (fun i wr => ∃ k : Nat, k ≤ 16 ∧ i = .int .i64 k ∧ wr = W.alloc (.cells (tab 16 (hs 4) k).toArray 38)) (fun i _ => 16 - (intOf i).toNat)
  case atStart => exact ⟨0, by omega, rfl, by rw [tab_zero]; rfl⟩
  case round =>
    obtain ⟨k, hk, rfl, rfl⟩ := hrel
    by_cases h : k < 16
    · have hlen := tab_length 16 k (hs 4)
      go_wp2_with (go_at_call 21; refine (halved_any k 4 _ (by omega) (by omega)).mono ?_; rintro e w' ⟨rfl, rfl⟩)
      go_roundw
      case rel => exact ⟨k + 1, by omega, by go_num, by rw [tab_set h]⟩
      case measure => simp [intOf]; omega
    · obtain rfl : k = 16 := by omega
      have hw0 : W.there w.heap.size 0 16 := by
        rw [HW.out]
        exact there_new w (List.replicate 16 (.int .u32 0)) 38
      have hb : Below w.heap.size w (W.alloc (Obj.cells (tab 16 (hs 4) 16).toArray 38)) := by
        rw [HW.out]
        exact ((Below.refl _ _).alloc (Nat.le_refl _) _).alloc (by simp) _
      go_wp2_with (first
        | refine wpList_load_tab 38 (.tmp 1) W.heap.size 16 (tab 16 (hs 4) 16) rfl rfl rfl Try.underlying38 hi (tab_length _ _ _) (rangeAt_new _ _ _) ?_
        | refine wpList_store_tab 38 (.tmp 0) (.tmp 12) w.heap.size 16 (tab 16 (hs 4) 16) rfl rfl rfl rfl rfl hi (tab_length _ _ _) (World.there_alloc hw0 _) (tab_one _ _ _) ?_)
      (try simp only [Exit.inBlock, Exit.then])
      refine ret_tab w.heap.size 16 (tab 16 (hs 4) 16) rfl rfl Try.underlying38 hi (tab_length _ _ _) ?_ rfl ⟨rfl, below_setCells (Nat.le_refl _) _ _ hb⟩
      exact World.rangeAt_setCells_same _ _ _ _ (by rw [tab_length]; exact World.there_alloc hw0 _)
end Go.Proofs.Ytpgcnchbboohoaa
