/-
  PROVED: the law MapPlays of layer 7 (pmap) returns true and leaves its arguments as they are: maps under any steps tell what a list of keys tells, stay balanced, make few new nodes, and never change; for every list of steps, every number of turns and every text, with no condition.
-/
import Derived.Test.YtleaaoknjflgoaaOpens
import Derived.Test.YtleaaoknjflgoaaOpenT
import Derived.Test.YtleaaoknjflgoaaKnownW
import Derived.Test.YtleaaoknjflgoaaPlaysW
namespace Go.Proofs.Ytleaaoknjflgoaa
open Go.RowKit Go.Shelf

set_option maxHeartbeats 4000000 in
set_option maxRecDepth 100000 in
theorem plays_long (sa : Option Addr) (N sc : Nat) (leave : Int) (frm : ByteArray) (w : World) (h : 60 < N) : Calls Try.prog 3 #[.slice sa N sc, .int .i64 leave, .string frm] w fun e w' => e = .returned (.bool true) ∧ Below w.heap.size w w' := by
  have z1 : (60 : Int) < (N : Int) := by omega
  clear h
  go_enter Try.func3, Try.ntmps3
  go_wp2_with (go_at_call 7; refine (known_any _).mono ?_; rintro e w2 ⟨rfl, b2⟩; dsimp only)
  go_ret
  exact ⟨rfl, b2⟩
theorem plays_any (st : List (Int × ByteArray × Int)) (sv : Value) (leave : Int) (frm : ByteArray) (w : World) (hs : Ss w sv st) : Calls Try.prog 3 #[sv, .int .i64 leave, .string frm] w fun e w' => e = .returned (.bool true) ∧ Below w.heap.size w w' := by
  by_cases h : st.length ≤ 60
  · exact plays_walk known_any st sv leave frm w hs h
  · obtain ⟨sa, sc, rfl, _⟩ := hs.ex
    exact plays_long sa st.length sc leave frm w (by omega)
end Go.Proofs.Ytleaaoknjflgoaa
namespace Go.Proofs.Ytleaaoknjflgoaa.mapPlays
open Go.ChangeShapes Go.WideShapes Go.ChangeAt Go.RowKit Go.Shelf

set_option maxRecDepth 100000 in
theorem lifted (os : Os) (started : os.Started) (H : Type) (enc : TypeId × Value → H) :
    ReturnsInHanded {} Try.checked os 3 .any (Rows.mapPlaysSpec.pre6 enc Try.prog Try.f3 Rows.mapPlaysRow.domain false) (Rows.mapPlaysSpec.post enc Try.prog Try.f3 false true false false) := by
  refine returnsInHanded_of_change (C := Try.checked) own started (by kernel_rfl) Try.func3
    (ChangeSpec.witness6 (enc := enc) (C := Try.checked) false ⟨#[], #[.slice none 0 0, .int .i64 0, .string ⟨#[]⟩], []⟩ 8 (by kernel_rfl) (by kernel_rfl) (by kernel_rfl) (by kernel_rfl)) ?_
  intro W base args ds gs before hval0 hW hcnd _
  have hval : ∀ (j : Nat) t v, Try.f3.params[j]? = some t → args[j]? = some v → Value.okWide Try.prog W .any base t v := hval0
  have hW' := hW
  obtain ⟨p, q, hA0, hV, rfl, hfz, hnd⟩ := hW
  have hA : DataW.TrodAll enc Try.prog W 0 (fun _ => true) true Try.f3.params.toList args.toList ds p := hA0
  rw [show Try.f3.params.toList = [22, 3, 9] from rfl] at hA
  obtain ⟨v0, v1, v2, d0, d1, d2, p0, p1, p2, rfl, rfl, rfl, h0, h1, h2⟩ := trodAll_three hA
  obtain ⟨rfl, rfl⟩ := trodVars_none hV
  have k0 := h0
  have k1 := h1
  have k2 := h2
  have lt0 : ∀ x ∈ p0, x.block < W.heap.size := by obtain ⟨m, hm⟩ := h0; exact DataW.trod_lt m _ _ _ hm
  have lt1 : ∀ x ∈ p1, x.block < W.heap.size := by obtain ⟨m, hm⟩ := h1; exact DataW.trod_lt m _ _ _ hm
  have lt2 : ∀ x ∈ p2, x.block < W.heap.size := by obtain ⟨m, hm⟩ := h2; exact DataW.trod_lt m _ _ _ hm
  obtain ⟨m0, e0⟩ := h0
  obtain ⟨st, hs⟩ := open_steps (x := (d0, p0)) (v := v0) (by
    obtain ⟨a, len, cap, rfl⟩ := okWide_slice Try.underlying22 (hval 0 22 v0 rfl rfl)
    exact e0)
  obtain ⟨n, rfl⟩ := okWide_int Try.underlying3 (hval 1 3 v1 rfl rfl)
  obtain ⟨s, rfl⟩ := okWide_string Try.underlying9 (hval 2 9 v2 rfl rfl)
  clear hA0 hval0 hval
  refine (plays_any st v0 n s W hs).mono fun e W' ⟨he, bel⟩ => ?_
  subst he
  exact ⟨_, rfl, _, _, _, [], _, [], hW', trodAll_mk1 (shut_bool Try.underlying4 _), trodAll_mk3 (Below.trod laidOut (by kernel_rfl) (of_decide_eq_true (by kernel_rfl)) k0 bel lt0) (Below.trod laidOut (by kernel_rfl) (of_decide_eq_true (by kernel_rfl)) k1 bel lt1) (Below.trod laidOut (by kernel_rfl) (of_decide_eq_true (by kernel_rfl)) k2 bel lt2), rfl, bel.frame _, fun h => by cases h⟩

theorem over : Rows.mapPlaysRow.holds Try.pinned (OpenSpec.ofChange Rows.mapPlaysSpec) :=
  OpenClaim.holds_of_wide 3 Try.f3 rfl rfl rfl rfl rfl rfl rfl ⟨rfl, rfl, rfl, rfl, rfl⟩ rfl rfl rfl rfl rfl (by kernel_rfl) Try.func3 (by kernel_rfl)
    (of_decide_eq_true (by kernel_rfl)) (by unfold Func.isWrapper; first | (rw [if_pos (by decide +kernel)]; kernel_rfl) | (rw [if_neg (by decide +kernel)]; exact ⟨rfl, rfl⟩))
    (fun os started H enc _ => lifted os started H enc)
end Go.Proofs.Ytleaaoknjflgoaa.mapPlays
namespace Go.Proofs.Ytleaaoknjflgoaa
/-- The statement. -/
theorem mapPlays_holds : Rows.MapPlaysSaid := mapPlays.over
#print axioms mapPlays_holds
end Go.Proofs.Ytleaaoknjflgoaa
