/-
  PROVED: the law OpsReads of layer 16 (ops) returns true and leaves its arguments as they are: of any bytes and any text the program tells the operations whose form or text it is, or refuses it, as the document does, and what is told is the caller's; for every bytes and every text, with no condition but that the two tables of unicode/utf8, the three of math/bits and internal/strconv, and strconv's two errors read as the library lays them (the card ties them to it).
-/
import Derived.Test.YtpepgoelnagoaaaGreatDoorCards
import Derived.Test.YtpepgoelnagoaaaGreatDoorTie
import Derived.Test.YtpepgoelnagoaaaGreatDoorMg25
import Derived.WideShapes
import Derived.Lib.LaidIn
import Derived.Lib.LaidU8T
import Derived.Lib.LaidTab
import Derived.Stop.LaidErr
import Derived.Shelf.Vars
import Derived.Deep.DeepHandedRow
import Derived.Deep.DeepWitnessRowRef
import Derived.ProofKit
import Derived.SizedLaws
namespace Go.Proofs.YtpepgoelnagoaaaGreatDoor.opsReads
open Go.ChangeShapes Go.WideShapes Go.ChangeAt Go.RowKit Go.Lib Go.Shelf

def dataInts : DataW Unit → List Int
  | .agg l => l.map fun | .lit (.int _ z) => z | _ => 0
  | _ => []
abbrev rangeS : ByteArray := ⟨#[118, 97, 108, 117, 101, 32, 111, 117, 116, 32, 111, 102, 32, 114, 97, 110, 103, 101]⟩
abbrev syntaxS : ByteArray := ⟨#[105, 110, 118, 97, 108, 105, 100, 32, 115, 121, 110, 116, 97, 120]⟩
abbrev laidL : List (String × DataW Unit) := [("math/bits.deBruijn32tab", Rows.laid_math_bits_deBruijn32tab), ("math/bits.deBruijn64tab", Rows.laid_math_bits_deBruijn64tab), ("internal/strconv.uint64pow10", Lib.tabData .u64 Lib.pow10Tab), ("unicode/utf8.acceptRanges", Lib.acceptData), ("strconv.ErrRange", .iface "*errors.errorString" (.ptr (.agg [.lit (.string [118, 97, 108, 117, 101, 32, 111, 117, 116, 32, 111, 102, 32, 114, 97, 110, 103, 101])]))), ("strconv.ErrSyntax", .iface "*errors.errorString" (.ptr (.agg [.lit (.string [105, 110, 118, 97, 108, 105, 100, 32, 115, 121, 110, 116, 97, 120])]))), ("unicode/utf8.first", Lib.firstData)]
noncomputable def low0 : Nat := (World.holding Tryz.prog default ⟨#[], #[], []⟩).heap.size
/-- THE WITNESS: the settled world, the seven variables holding what their initialisers lay. -/
noncomputable def laidWorld (os : Go.Os) : World :=
  let w0 := World.holding Tryz.prog os ⟨#[.cells #[.string rangeS] 252, .cells #[.string syntaxS] 252], #[], []⟩
  let put (h : Array Obj) (g : Nat) (cs : Array Value) : Array Obj := h.modify g fun
    | .cells _ t frozen => .cells cs t frozen
    | o => o
  let h1 := put w0.heap 0 (Lib.firstTab.map fun z => Value.int .u8 z).toArray
  let h2 := put h1 1 ((List.range 16).flatMap fun i => [Value.int .u8 (Lib.accLo i), Value.int .u8 (Lib.accHi i)]).toArray
  let h3 := put h2 2 (Lib.pow10Tab.map fun z => Value.int .u64 z).toArray
  let h4 := put h3 6 ((dataInts Rows.laid_math_bits_deBruijn32tab).map fun z => Value.int .u8 z).toArray
  let h5 := put h4 7 ((dataInts Rows.laid_math_bits_deBruijn64tab).map fun z => Value.int .u8 z).toArray
  let h6 := put h5 4 #[.iface 250 (.pointer (some ⟨low0, 0, none⟩))]
  let h7 := put h6 3 #[.iface 250 (.pointer (some ⟨low0 + 1, 0, none⟩))]
  { w0 with heap := h7 }
theorem laid_met (os : Go.Os) (args : Array Value) : laidMet Tryz.prog laidL ((laidWorld os).forCall (fun _ _ => 0) ⟨#[], args, []⟩).memory :=
  (LaidIn.of_run (l := laidL) [6, 7, 2, 1, 4, 3, 0, low0, low0 + 1] 8 (by kernel_rfl) (by kernel_rfl) (by kernel_rfl) (by kernel_rfl)).met
theorem star : "*" ++ "errors.errorString" = "*errors.errorString" := by decide
theorem row250 (u : TypeId) (h : Tryz.prog.typeName? 3 u = some "*errors.errorString") : u = 250 :=
  typeName_ptr_named (nm := "errors.errorString") (by rw [star]; kernel_rfl) (by kernel_rfl) (by decide) u (by rw [star]; exact h)
theorem tabs_of {W : World} (hL : laidMet Tryz.prog laidL W) : Tabs W :=
  utf8Tabs_of_readsT (U8Types.of196 Tryz.laysValid) ⟨by kernel_rfl, by kernel_rfl, by kernel_rfl, by kernel_rfl, by kernel_rfl, by kernel_rfl, by kernel_rfl⟩ (Lib.laidMet.reads hL (.tail _ (.tail _ (.tail _ (.tail _ (.tail _ (.tail _ (.head _)))))))) (Lib.laidMet.reads hL (.tail _ (.tail _ (.tail _ (.head _)))))
theorem envO_of {W : World} (hL : laidMet Tryz.prog laidL W) (hS : W.ShapedOpen Tryz.prog) : EnvO W :=
  ⟨tabs_of hL, Lib.tabIs_of_head (g := 2) (t := 231) (e := 86) (n := 20) (by kernel_rfl) (by kernel_rfl) (by kernel_rfl) (by kernel_rfl) (by kernel_rfl) (by kernel_rfl) hL.tail.tail, cell_of_shapedOpen_int (t := 3) (zero := #[.int .i64 0]) hS (of_decide_eq_true (by kernel_rfl)) (by kernel_rfl) rfl (by kernel_rfl) (by kernel_rfl) (by kernel_rfl)⟩
theorem envE_of {W : World} (hL : laidMet Tryz.prog laidL W) : EnvE W := by
  obtain ⟨a0, s0, hv0, -, -, -⟩ := laid_sentinel (g := 4) (ti := 121) (tp := 250) (te := 252) (ts := 9) hL.tail.tail.tail.tail (by kernel_rfl) (by kernel_rfl) Tryz.underlying121 row250 Tryz.underlying250 Tryz.underlying252 rfl rfl Tryz.underlying9 (by kernel_rfl) (by kernel_rfl)
  obtain ⟨a1, s1, hv1, -, -, -⟩ := laid_sentinel (g := 3) (ti := 121) (tp := 250) (te := 252) (ts := 9) hL.tail.tail.tail.tail.tail (by kernel_rfl) (by kernel_rfl) Tryz.underlying121 row250 Tryz.underlying250 Tryz.underlying252 rfl rfl Tryz.underlying9 (by kernel_rfl) (by kernel_rfl)
  exact ⟨⟨_, _, by have h0 := World.var?_cell (g := 3) (by kernel_rfl) hv1 0; simpa using h0⟩, ⟨_, _, by have h0 := World.var?_cell (g := 4) (by kernel_rfl) hv0 0; simpa using h0⟩⟩
theorem Tryz.cells5 : Tryz.prog.cellsOf 5 = 1 := by kernel_rfl
theorem Tryz.bytes5 : Tryz.prog.bytesOf 5 = 1 := by kernel_rfl
/-- A slice of bytes that came in, as the walks take it. -/
theorem open_bytes {H : Type} {enc : TypeId × Value → H} {W : World} {fuel : Nat} {v : Value} {x : DataW H × List MemPlace} (h : DataW.trod enc Tryz.prog W 0 (fun _ => true) true fuel 26 [v] = some x) :
    ∃ ao cap l, v = .slice ao l.length cap ∧ Rd W ao l ∧ (ao = none → cap = 0) ∧ l.length ≤ cap ∧ U8 l ∧ (x.1 = .nil ∧ cap = 0 ∨ ∃ elems spare, x.1 = .slice elems spare ∧ cap = elems.length + spare.length) := by
  rcases open_ints Tryz.underlying26 Tryz.underlying5 Tryz.cells5 h with ⟨hcs, hx⟩ | ⟨a, len, cap, zs, hcs, _, hl, hm, hz, hx, hcell, hwz⟩
  · simp only [List.cons.injEq, and_true] at hcs
    subst hcs
    refine ⟨none, 0, [], rfl, Rd.nil _ _, fun _ => rfl, by simp, fun y hy => by simp at hy, .inl ⟨by rw [hx], rfl⟩⟩
  · simp only [List.cons.injEq, and_true] at hcs
    subst hcs
    simp only [if_true] at hz
    have hlen : (zs.take len).length = len := by simp; omega
    refine ⟨some a, cap, zs.take len, by rw [hlen], ⟨by simp, ?_⟩, by simp, by omega, fun y hy => bounds_u8 (hwz y (List.mem_of_mem_take hy)), .inr ⟨_, _, by rw [hx], by simp [lits]; omega⟩⟩
    intro a' ha' j u hj
    cases ha'
    rw [u8s_get] at hj
    rcases hg : (zs.take len)[j]? with _ | z
    · rw [hg] at hj; simp at hj
    · rw [hg] at hj
      simp only [Option.map_some, Option.some.injEq] at hj
      subst hj
      rw [List.getElem?_take] at hg
      split at hg
      · have hjl : j < zs.length := (List.getElem?_eq_some_iff.1 hg).1
        rw [hcell j hjl, List.getD, hg]; rfl
      · cases hg

/-- Its size, by what a reading weighs. -/
theorem cap_le {H : Type} {d : DataW H} {cap n : Nat} (h : d = .nil ∧ cap = 0 ∨ ∃ elems spare, d = .slice elems spare ∧ cap = elems.length + spare.length) (hw : (d.weights Tryz.prog 26).all (· ≤ n) = true) : cap ≤ n := by
  rcases h with ⟨_, rfl⟩ | ⟨elems, spare, rfl, rfl⟩
  · omega
  · simp only [DataW.weights, Tryz.underlying26, Tryz.bytes5, List.all_cons, Bool.and_eq_true, decide_eq_true_eq] at hw
    omega

theorem laid_is : Rows.opsReadsRow.laid = laidL := by kernel_rfl
def arg0 : Array Value := #[.slice none 0 0, .string ⟨#[]⟩]
theorem witness_row (os : Go.Os) {H : Type} (enc : TypeId × Value → H) :
    (OpenSpec.ofChange Rows.opsReadsSpec).preRow enc Tryz.prog Tryz.f4 Rows.opsReadsRow.domain false Rows.opsReadsRow.laid ((laidWorld os).forCall (fun _ _ => 0) ⟨#[], arg0, []⟩).memory arg0 := by
  have hw : (DataW.whole enc Tryz.prog ((laidWorld os).forCall (fun _ _ => 0) ⟨#[], arg0, []⟩).memory Tryz.f4.params.toList (OpenSpec.ofChange Rows.opsReadsSpec).vars false arg0.toList 12).map (fun x => (x.1, x.2.1)) =
      some ([.nil, .lit (.string [])], []) := by kernel_rfl
  obtain ⟨⟨x1, x2, x3⟩, hx, hx1⟩ := Option.map_eq_some_iff.1 hw
  simp only [Prod.mk.injEq] at hx1
  obtain ⟨rfl, rfl⟩ := hx1
  exact OpenSpec.preRow_of_cond 12 hx (by kernel_rfl) (fun k hk => by cases hk) (by kernel_rfl) (by rw [laid_is]; exact laid_met os _)

set_option maxRecDepth 100000 in
set_option maxHeartbeats 2000000 in
theorem lifted (os : Go.Os) (started : os.Started) (H : Type) (enc : TypeId × Value → H) (F : Stop.Interp) :
    ReturnsInHanded {} Tryz.checked os 4 .any ((OpenSpec.ofChange Rows.opsReadsSpec).preRow enc Tryz.prog Tryz.f4 Rows.opsReadsRow.domain false Rows.opsReadsRow.laid) (((OpenSpec.ofChange Rows.opsReadsSpec).at F).post enc Tryz.prog Tryz.f4 false true false false) := by
  refine returnsInHanded_of_row (C := Tryz.checked) (s := OpenSpec.ofChange Rows.opsReadsSpec) own started (by kernel_rfl) Tryz.func4
    (witness_row_atRef (enc := enc) (C := Tryz.checked) false (laidWorld os) arg0 rfl (by kernel_rfl) (by kernel_rfl) (by kernel_rfl) (witness_row os enc)) ?_
  intro W base args ds gs before hval0 hW _ _ hsz0 hL hSh _
  have hval : ∀ (j : Nat) t v, Tryz.f4.params[j]? = some t → args[j]? = some v → Value.okWide Tryz.prog W .any base t v := hval0
  have hW' := hW
  obtain ⟨p, q, hA0, hV0, rfl, _, _⟩ := hW
  have hA : DataW.TrodAll enc Tryz.prog W 0 (fun _ => true) true Tryz.f4.params.toList args.toList ds p := hA0
  rw [show Tryz.f4.params.toList = [26, 9] from rfl] at hA
  obtain ⟨v0, v1, d0, d1, p0, p1, rfl, rfl, rfl, h0, h1⟩ := trodAll_two hA
  obtain ⟨rfl, rfl⟩ := trodVars_none hV0
  have k0 := h0
  have k1 := h1
  have lt0 : ∀ x ∈ p0, x.block < W.heap.size := by obtain ⟨m, hm⟩ := h0; exact DataW.trod_lt m _ _ _ hm
  have lt1 : ∀ x ∈ p1, x.block < W.heap.size := by obtain ⟨m, hm⟩ := h1; exact DataW.trod_lt m _ _ _ hm
  have hsz1 : (d0.weights Tryz.prog 26).all (· ≤ reachBytes) = true := by
    have h : (DataW.weightsEach Tryz.prog [26, 9] [d0, d1]).all (· ≤ reachBytes) = true := hsz0
    simp only [DataW.weightsEach, List.all_append, Bool.and_eq_true] at h
    exact h.1
  rw [laid_is] at hL
  have hE : EnvO W := envO_of hL hSh
  have hEE : EnvE W := envE_of hL
  obtain ⟨a0, len0, cap0, rfl⟩ := okWide_slice Tryz.underlying26 (hval 0 26 v0 rfl rfl)
  obtain ⟨s, rfl⟩ := okWide_string Tryz.underlying9 (hval 1 9 v1 rfl rfl)
  obtain ⟨m0, hm0⟩ := h0
  obtain ⟨ao, c, l, hv, hr, hnil, hlc, h8, hcd⟩ := open_bytes (x := (d0, p0)) (v := .slice a0 len0 cap0) hm0
  have hcap := cap_le hcd hsz1
  have hreach : reachBytes ≤ 9223372036854775807 := by unfold reachBytes; decide
  clear hA0 hV0 hval0 hval hm0 h1
  revert k0 k1 hW'
  rw [hv]
  intro k0 k1 hW'
  refine (reads_walk l s hr hnil hlc (Nat.le_trans hcap hreach) h8 hE hEE).mono ?_
  rintro e W' ⟨rfl, bel⟩
  exact ⟨_, rfl, _, _, _, [], _, [], hW', trodAll_mk1 (shut_bool Tryz.underlying4 _), trodAll_mk2 (Below.trod laidOut (by kernel_rfl) (of_decide_eq_true (by kernel_rfl)) k0 bel lt0) (Below.trod laidOut (by kernel_rfl) (of_decide_eq_true (by kernel_rfl)) k1 bel lt1), rfl, bel.frame _, fun h => by cases h⟩

theorem said : Rows.OpsReadsSaid :=
  OpenClaim.holds_of_cond 4 Tryz.f4 rfl rfl rfl rfl rfl rfl rfl ⟨rfl, rfl, rfl, rfl, rfl⟩ rfl rfl rfl rfl rfl (by kernel_rfl) Tryz.func4 (by kernel_rfl)
    (of_decide_eq_true (by kernel_rfl)) (by unfold Func.isWrapper; first | (rw [if_pos (by decide +kernel)]; kernel_rfl) | (rw [if_neg (by decide +kernel)]; exact ⟨rfl, rfl⟩))
    (fun os started H enc _ F => by rw [OpenClaim.pre_eq_preRow]; exact lifted os started H enc F)

theorem plain (f : FuncId) (fn : Func) (hf : Tryz.pinned.checked.prog.funcNamed "estuary/estuarylaw16.OpsReads" = some f) (hfn : Tryz.pinned.checked.prog.funcs[f]? = some fn) :
    true = Tryz.pinned.checked.prog.looks [] ∧ ∀ (j : Nat) t, fn.params[j]? = some t → Tryz.pinned.checked.prog.wantsStandIn t = false := by
  obtain rfl : f = 4 := Option.some.inj ((show Tryz.prog.funcNamed "estuary/estuarylaw16.OpsReads" = some 4 by kernel_rfl).symm.trans hf) |>.symm
  obtain rfl : fn = Tryz.f4 := (Option.some.inj (Tryz.func4.symm.trans hfn)).symm
  refine ⟨by kernel_rfl, fun j t ht => ?_⟩
  rw [show Tryz.f4.params = #[26, 9] from rfl] at ht
  have hm := Array.mem_of_getElem? ht
  simp at hm
  rcases hm with rfl | rfl
  · exact (show Tryz.prog.wantsStandIn 26 = false by kernel_rfl)
  · exact (show Tryz.prog.wantsStandIn 9 = false by kernel_rfl)
theorem card : Rows.OpsReadsCardSaid :=
  Claim7.holds_tied_plain_at .later [] _ _ _ _ said (fun _ h => by cases h) (by kernel_rfl) (fun _ h => by cases h) opsReads_row_tie rfl ⟨rfl, rfl⟩ (by kernel_rfl) rfl plain (by kernel_rfl)
end Go.Proofs.YtpepgoelnagoaaaGreatDoor.opsReads
namespace Go.Proofs.YtpepgoelnagoaaaGreatDoor
/-- The statement. -/
theorem opsReads_holds : Rows.OpsReadsCardSaid := opsReads.card
#print axioms opsReads_holds
end Go.Proofs.YtpepgoelnagoaaaGreatDoor
