/-
  PROVED: the closed sentence DiskNil of layer 3 (disk) returns true: a disk that is not there, and a zero one, answer ErrNil, and nothing beside it; for every world in which it is called, with no condition.
-/
import Derived.Test.YtfaceimamipbpaaKnown
import Derived.ProofKit
import Derived.OpenShut
namespace Go.Proofs.Ytfaceimamipbpaa
open Go.RowKit Go.Shelf
set_option linter.unusedSimpArgs false

/-- A cell of its own is handed back. -/
theorem ret_cell {fn : Func} {p : Tmp} (b : Nat) {x : Bool} {R : Ending → World → Prop} {a : Act} {w : World} (h : fn.results = #[.cell p 4]) (hp : a.tmps.getD p undef = .pointer (some ⟨b, 0, none⟩))
    (hc : w.cell? ⟨b, 0, none⟩ = some (.bool x)) (hdef : a.defers = []) (hR : R (.returned (.bool x)) w) : bodyPost Try.prog fn R .ret a w := by
  refine bodyPost_ret (v := .bool x) ?_ hdef hR
  rw [results_cell h, hp]
  have : (loadVar 4 ⟨b, 0, none⟩).run Try.prog w = .ok (.bool x) w := by go_simp
  simp [asAddr, Result.andThen, this]

/-- The boxes of 'stands'. -/
abbrev stW (w : World) (v r : Value) (leave : Int) : World := (((w.alloc (.cells #[v] 28)).alloc (.cells #[r] 32)).alloc (.cells #[.int .i64 leave] 3)).alloc (.cells #[.bool false] 4)
theorem stW_boxes (w : World) (v r : Value) (leave : Int) (wr : World) (hb : Below (w.heap.size + 4) (stW w v r leave) wr) :
    wr.cell? ⟨w.heap.size, 0, none⟩ = some v ∧ wr.cell? ⟨w.heap.size + 1, 0, none⟩ = some r ∧ wr.cell? ⟨w.heap.size + 1 + 1, 0, none⟩ = some (.int .i64 leave) ∧ wr.heap[w.heap.size + 1 + 1 + 1]? = some (.cells #[.bool false] 4 (0, 0)) := by
  have e1 : (stW w v r leave).heap[w.heap.size]? = some (.cells #[v] 28) := by
    unfold stW; rw [Below.heap_alloc _ _ _ (by simp only [World.size_alloc]; omega), Below.heap_alloc _ _ _ (by simp only [World.size_alloc]; omega), Below.heap_alloc _ _ _ (by simp)]; exact heap_alloc_new w _
  have e2 : (stW w v r leave).heap[w.heap.size + 1]? = some (.cells #[r] 32) := by
    unfold stW; rw [Below.heap_alloc _ _ _ (by simp only [World.size_alloc]; omega), Below.heap_alloc _ _ _ (by simp)]
    have := heap_alloc_new (w.alloc (.cells #[v] 28)) (.cells #[r] 32)
    simpa using this
  have e3 : (stW w v r leave).heap[w.heap.size + 1 + 1]? = some (.cells #[.int .i64 leave] 3) := by
    unfold stW; rw [Below.heap_alloc _ _ _ (by simp)]
    have := heap_alloc_new ((w.alloc (.cells #[v] 28)).alloc (.cells #[r] 32)) (.cells #[.int .i64 leave] 3)
    simpa using this
  have e4 : (stW w v r leave).heap[w.heap.size + 1 + 1 + 1]? = some (.cells #[.bool false] 4) := by
    unfold stW
    have := heap_alloc_new (((w.alloc (.cells #[v] 28)).alloc (.cells #[r] 32)).alloc (.cells #[.int .i64 leave] 3)) (.cells #[.bool false] 4)
    simpa using this
  refine ⟨?_, ?_, ?_, ?_⟩
  · rw [cell_of_row wr _ 0 _ 28 (0, 0) ((hb.block _ (by omega)).trans e1)]; rfl
  · rw [cell_of_row wr _ 0 _ 32 (0, 0) ((hb.block _ (by omega)).trans e2)]; rfl
  · rw [cell_of_row wr _ 0 _ 3 (0, 0) ((hb.block _ (by omega)).trans e3)]; rfl
  · exact (hb.block _ (by omega)).trans e4
theorem stW_below (w : World) (v r : Value) (leave : Int) : Below w.heap.size w (stW w v r leave) := ((((Below.refl _ w).alloc (Nat.le_refl _) _).alloc (by simp) _).alloc (by simp; omega) _).alloc (by simp; omega) _
theorem stW_size (w : World) (v r : Value) (leave : Int) : (stW w v r leave).heap.size = w.heap.size + 4 := by unfold stW; simp

theorem fn_eq (w : World) (L : Nat) : (binOp .eql 46 (.func (.func 38) #[] #[.pointer (some ⟨L, 0, none⟩)]) .nilFunc).run Try.prog w = .ok (.bool false) w := by kernel_rfl
theorem fn_ne (w : World) (L : Nat) : (binOp .neq 46 (.func (.func 38) #[] #[.pointer (some ⟨L, 0, none⟩)]) .nilFunc).run Try.prog w = .ok (.bool true) w := by kernel_rfl

set_option maxHeartbeats 1000000 in
set_option maxRecDepth 100000 in
/-- What a disk that is none answers. -/
theorem stands_nil (p : Option Addr) (leave : Int) (w : World) (h : NoD w (.pointer p)) : Calls Try.prog 11 #[.pointer p, .pointer none, .int .i64 leave] w fun e w' => e = .returned (.bool true) ∧ Below w.heap.size w w' := by
  have hb4 := stW_below w (.pointer p) (.pointer none) leave
  have hs4 := stW_size w (.pointer p) (.pointer none) leave
  go_enter Try.func11, Try.ntmps11
  go_wp2
  go_loopw [7] (fun i wr => ∃ k : Nat, k ≤ 4 ∧ i = .int .i64 ((k : Int) - 1) ∧ Below (w.heap.size + 4) (stW w (.pointer p) (.pointer none) leave) wr) (fun i _ => 4 - (intOf i + 1).toNat)
  case atStart => exact ⟨0, by omega, rfl, Below.refl _ _⟩
  case round =>
    obtain ⟨k, hk, rfl, hb⟩ := hrel
    have hbw : Below w.heap.size w wr := hb4.trans (hb.mono (by omega))
    have hN := h.below hbw
    obtain ⟨c1, c2, c3, c4⟩ := stW_boxes w (.pointer p) (.pointer none) leave wr hb
    have HB := hide hb
    have HW := hide hbw
    clear hb hbw hb4
    by_cases hlt : k < 4
    · have hd : decide ((k : Int) - 1 < 3) = true := by simp; omega
      go_wp2_with (first | (go_at_call 24; refine (area_nil hN _).mono ?_; rintro e w1 ⟨rfl, rfl⟩) | (go_at_call 22; refine (room_nil hN _).mono ?_; rintro e w1 ⟨rfl, rfl⟩))
      go_roundw
      case rel => exact ⟨k + 1, by omega, by simp, HB.out⟩
      case measure => simp [intOf]; omega
    · obtain rfl : k = 4 := by omega
      have hsw := HW.out.size
      have hsr : w.heap.size + 4 ≤ wr.heap.size := by have := HB.out.size; omega
      go_wp2_with (first | (go_at_call 16; refine (all_nil hN).mono ?_; rintro e w1 ⟨L, rfl, hL, b1⟩; have hfe := fn_eq w1 L; have hfn := fn_ne w1 L; have HB1 := hide (HB.out.trans (b1.mono hsr)); have hN1 := hN.below b1; obtain ⟨d1, d2, d3, d4⟩ := stW_boxes w (.pointer p) (.pointer none) leave w1 HB1.out) | (go_at_call 23; refine (used_nil hN1).mono ?_; rintro e w2 ⟨rfl, rfl⟩) | (go_at_call 19; refine (writes_nil hN1).mono ?_; rintro e w2 ⟨rfl, rfl⟩) | (go_at_call 30; refine (copy_nil hN1).mono ?_; rintro e w2 ⟨rfl, b2⟩; have HB2 := hide (HB1.out.trans (b2.mono (by have := HB1.out.size; omega))); have e4 := (stW_boxes w (.pointer p) (.pointer none) leave w2 HB2.out).2.2.2; have e5 : w2.cell? ⟨w.heap.size + 1 + 1 + 1, 0, none⟩ = some (.bool false) := (by rw [cell_of_row w2 _ 0 _ 4 (0, 0) e4]; rfl); have e6 : w2.frozen? ⟨w.heap.size + 1 + 1 + 1, 0, none⟩ = false := frozen_of_row w2 _ 0 _ 4 e4))
      have hset := Only.ofGrown (grown_setCell w2 ⟨w.heap.size + 1 + 1 + 1, 0, none⟩ (.bool true))
      refine ret_cell (w.heap.size + 1 + 1 + 1) (x := true) rfl rfl ?_ rfl ⟨rfl, ?_⟩
      · rw [cell_of_row _ _ 0 _ 4 (0, 0) (heap_setCell_same _ _ _ _ 4 _ e4)]; rfl
      · have q := (stW_below w (.pointer p) (.pointer none) leave).trans (HB2.out.mono (by omega))
        exact Below.only q hset (by have := HB2.out.size; omega) (by intro j e; cases e; simp only; omega)


/-- What DiskNil lays first. -/
abbrev nilW (w : World) : World := (w.alloc (.cells #[.int .i64 0, .slice none 0 0, .slice none 0 0, .int .i64 0, .slice none 0 0, .slice none 0 0, .int .i64 0, .slice none 0 0] 60)).alloc (.cells #[.pointer none, .pointer (some ⟨w.heap.size, 0, none⟩)] 28)

set_option maxHeartbeats 2000000 in
set_option maxRecDepth 100000 in
theorem diskNil_walk (w : World) : Calls Try.prog 5 #[] w fun e w' => e = .returned (.bool true) ∧ Below w.heap.size w w' := by
  obtain ⟨q1, q2⟩ := new2 w (.cells #[.int .i64 0, .slice none 0 0, .slice none 0 0, .int .i64 0, .slice none 0 0, .slice none 0 0, .int .i64 0, .slice none 0 0] 60) (.cells #[.pointer none, .pointer (some ⟨w.heap.size, 0, none⟩)] 28)
  have hbw : Below w.heap.size w (nilW w) := ((Below.refl _ w).alloc (Nat.le_refl _) _).alloc (by simp) _
  have hsw : (nilW w).heap.size = w.heap.size + 2 := by simp [nilW]
  go_enter Try.func5, Try.ntmps5
  go_wp2
  go_loopw [2] (fun i wr => ∃ k : Nat, k ≤ 2 ∧ i = .int .i64 k ∧ Below (w.heap.size + 2) (nilW w) wr) (fun i _ => 2 - (intOf i).toNat)
  case atStart => exact ⟨0, by omega, rfl, Below.refl _ _⟩
  case round =>
    obtain ⟨k, hk, rfl, hb⟩ := hrel
    have c1 := (hb.block _ (by omega)).trans q1
    have c2 := (hb.block _ (by omega)).trans q2
    have hz : wr.cell? ⟨w.heap.size, 0, none⟩ = some (.int .i64 0) := by rw [cell_of_row _ _ 0 _ 60 (0, 0) c1]; rfl
    have hsr := hb.size
    have HB := hide hb
    have HW := hide hbw
    clear hb hbw q1 q2 c1
    match k, hk with
    | 0, _ =>
      have hp : wr.cell? ⟨w.heap.size + 1, 0, none⟩ = some (.pointer none) := by rw [cell_of_row _ _ 0 _ 28 (0, 0) c2]; rfl
      have hN : NoD wr (.pointer none) := .inl rfl
      clear c2
      go_wp2_with (first
        | (go_at_call 20; refine (write_nil hN 0).mono ?_; rintro e w1 ⟨rfl, b1⟩; have hN1 := (hN.below b1).below ((Below.refl _ w1).alloc (Nat.le_refl _) (.cells #[.int .i64 0, .int .i64 0, .slice none 0 0] 50)); have HB1 := hide ((HB.out.trans (b1.mono (by omega))).alloc (by have := b1.size; omega) (.cells #[.int .i64 0, .int .i64 0, .slice none 0 0] 50)); clear b1; unfold wrv)
        | (go_at_call 17; refine (cut_nil hN1 0).mono ?_; rintro e w2 ⟨rfl, b2⟩; have hN2 := hN1.below b2; have HB2 := hide (HB1.out.trans (b2.mono (by have := HB1.out.size; omega))); clear b2)
        | (go_at_call 13; refine (lay_nil hN2 0 _).mono ?_; rintro e w3 ⟨rfl, rfl⟩)
        | (go_at_call 14; refine (clear_nil hN2 0).mono ?_; rintro e w3 ⟨rfl, rfl⟩)
        | (go_at_call 15; refine (turn_nil hN2).mono ?_; rintro e w3 ⟨rfl, rfl⟩)
        | (go_at_call 18; refine (same_nil hN2).mono ?_; rintro e w3 ⟨rfl, rfl⟩)
        | (go_at_call 11; refine (stands_nil none 0 _ hN2).mono ?_; rintro e w4 ⟨rfl, b4⟩; have HB4 := hide (HB2.out.trans (b4.mono (by have := HB2.out.size; omega))); clear b4))
      go_roundw
      case rel => exact ⟨1, by omega, by go_num, HB4.out⟩
      case measure => simp [intOf]
    | 1, _ =>
      have hp : wr.cell? ⟨w.heap.size + 1, 1, none⟩ = some (.pointer (some ⟨w.heap.size, 0, none⟩)) := by rw [cell_of_row _ _ 1 _ 28 (0, 0) c2]; rfl
      have hN : NoD wr (.pointer (some ⟨w.heap.size, 0, none⟩)) := .inr ⟨w.heap.size, rfl, hz⟩
      clear c2
      go_wp2_with (first
        | (go_at_call 20; refine (write_nil hN 0).mono ?_; rintro e w1 ⟨rfl, b1⟩; have hN1 := (hN.below b1).below ((Below.refl _ w1).alloc (Nat.le_refl _) (.cells #[.int .i64 0, .int .i64 0, .slice none 0 0] 50)); have HB1 := hide ((HB.out.trans (b1.mono (by omega))).alloc (by have := b1.size; omega) (.cells #[.int .i64 0, .int .i64 0, .slice none 0 0] 50)); clear b1; unfold wrv)
        | (go_at_call 17; refine (cut_nil hN1 0).mono ?_; rintro e w2 ⟨rfl, b2⟩; have hN2 := hN1.below b2; have HB2 := hide (HB1.out.trans (b2.mono (by have := HB1.out.size; omega))); clear b2)
        | (go_at_call 13; refine (lay_nil hN2 0 _).mono ?_; rintro e w3 ⟨rfl, rfl⟩)
        | (go_at_call 14; refine (clear_nil hN2 0).mono ?_; rintro e w3 ⟨rfl, rfl⟩)
        | (go_at_call 15; refine (turn_nil hN2).mono ?_; rintro e w3 ⟨rfl, rfl⟩)
        | (go_at_call 18; refine (same_nil hN2).mono ?_; rintro e w3 ⟨rfl, rfl⟩)
        | (go_at_call 11; refine (stands_nil (some ⟨w.heap.size, 0, none⟩) 0 _ hN2).mono ?_; rintro e w4 ⟨rfl, b4⟩; have HB4 := hide (HB2.out.trans (b4.mono (by have := HB2.out.size; omega))); clear b4))
      go_roundw
      case rel => exact ⟨2, by omega, by go_num, HB4.out⟩
      case measure => simp [intOf]
    | 2, _ =>
      go_wp2_with (go_at_call 6; refine (known_any _).mono ?_; rintro e w1 ⟨rfl, b1⟩)
      go_ret
      exact ⟨rfl, (HW.out.trans (HB.out.mono (by omega))).trans (b1.mono (by omega))⟩

/-! ### THE ROW's STEP -/
end Go.Proofs.Ytfaceimamipbpaa
namespace Go.Proofs.Ytfaceimamipbpaa.diskNil
open Go.ChangeShapes Go.WideShapes Go.ChangeAt Go.RowKit
theorem own : ownKnob Try.prog.godebug = none := by kernel_rfl
set_option linter.unusedVariables false
set_option maxRecDepth 100000 in
theorem lifted (os : Os) (started : os.Started) (H : Type) (enc : TypeId × Value → H) :
    ReturnsInHanded {} Try.checked os 5 .any (Rows.diskNilSpec.pre6 enc Try.prog Try.f5 Rows.diskNilRow.domain false) (Rows.diskNilSpec.post enc Try.prog Try.f5 false true false false) := by
  refine returnsInHanded_of_change (C := Try.checked) own started (by kernel_rfl) Try.func5
    (ChangeSpec.witness6 (enc := enc) (C := Try.checked) false ⟨#[], #[], []⟩ 8 (by kernel_rfl) (by kernel_rfl) (by kernel_rfl) (by kernel_rfl)) ?_
  intro W base args ds gs before hval0 hW hcnd _
  have hval : ∀ (j : Nat) t v, Try.f5.params[j]? = some t → args[j]? = some v → Value.okWide Try.prog W .any base t v := hval0
  have hW' := hW
  obtain ⟨p, q, hA0, hV, rfl, hfz, hnd⟩ := hW
  have hA : DataW.TrodAll enc Try.prog W 0 (fun _ => true) true Try.f5.params.toList args.toList ds p := hA0
  rw [Try.params5] at hA hval
  obtain ⟨rfl, rfl, rfl⟩ := trodAll_none hA
  obtain ⟨rfl, rfl⟩ := trodVars_none hV
  clear hA0 hval0
  simp only [List.append_nil] at hW'
  refine (diskNil_walk W).mono fun e W' ⟨he, bel⟩ => ?_
  subst he
  exact ⟨_, rfl, _, _, _, [], _, [], hW', trodAll_mk1 (shut_bool Try.underlying4 _), trodAll_mk0, rfl, bel.frame _, fun h => by cases h⟩

theorem over : Rows.diskNilRow.holds Try.pinned (OpenSpec.ofChange Rows.diskNilSpec) :=
  OpenClaim.holds_of_wide 5 Try.f5 rfl rfl rfl rfl rfl rfl rfl ⟨rfl, rfl, rfl, rfl, rfl⟩ rfl rfl rfl rfl rfl (by kernel_rfl) Try.func5 (by kernel_rfl)
    (of_decide_eq_true (by kernel_rfl)) (by unfold Func.isWrapper; first | (rw [if_pos (by decide +kernel)]; kernel_rfl) | (rw [if_neg (by decide +kernel)]; exact ⟨rfl, rfl⟩))
    (fun os started H enc _ => lifted os started H enc)
end Go.Proofs.Ytfaceimamipbpaa.diskNil
namespace Go.Proofs.Ytfaceimamipbpaa
/-- The statement. -/
theorem diskNil_holds : Rows.DiskNilSaid := diskNil.over
#print axioms diskNil_holds
end Go.Proofs.Ytfaceimamipbpaa
