/-
  PROVED: the law MapMakes of layer 7 (pmap) returns true and leaves its arguments as they are: which maps Of, Join and Make make, and which they refuse; for every list of keys, of numbers, of further keys, and every key, with no condition.
-/
import Derived.Test.YtleaaoknjflgoaaOpens
import Derived.Test.YtleaaoknjflgoaaOpenS
import Derived.Test.YtleaaoknjflgoaaMakesG
namespace Go.Proofs.Ytleaaoknjflgoaa
open Go.RowKit Go.Shelf

theorem makes_any (ks : List ByteArray) (vs : List Int) (ms : List ByteArray) (kv vv mv : Value) (key : ByteArray) (w : World) (hk : Cs w kv (ks.map .string)) (hv : Cs w vv (vs.map (.int .i64))) (hm : Cs w mv (ms.map .string)) :
    Calls Try.prog 4 #[kv, vv, mv, .string key] w fun e w' => e = .returned (.bool true) ∧ Below w.heap.size w w' := by
  obtain ⟨ka, kc, rfl, _⟩ := hk.ex
  obtain ⟨va, vc, rfl, _⟩ := hv.ex
  obtain ⟨ma, mc, rfl, _⟩ := hm.ex
  simp only [List.length_map] at *
  by_cases h1 : ks.length ≤ 40 ∧ ms.length ≤ 40
  · by_cases h2 : ks.length = vs.length ∧ ks.Nodup
    · exact makes_good ks vs ms ka va ma kc vc mc key w hk hv hm h1.1 h1.2 h2.1 h2.2
    · exact makes_bad ks vs ka va ma ms.length kc vc mc key w hk hv h1.1 h1.2 h2
  · exact makes_long ka va ma ks.length vs.length ms.length kc vc mc key w (by omega)
end Go.Proofs.Ytleaaoknjflgoaa
namespace Go.Proofs.Ytleaaoknjflgoaa.mapMakes
open Go.ChangeShapes Go.WideShapes Go.ChangeAt Go.RowKit Go.Shelf

set_option maxRecDepth 100000 in
theorem lifted (os : Os) (started : os.Started) (H : Type) (enc : TypeId × Value → H) :
    ReturnsInHanded {} Try.checked os 4 .any (Rows.mapMakesSpec.pre6 enc Try.prog Try.f4 Rows.mapMakesRow.domain false) (Rows.mapMakesSpec.post enc Try.prog Try.f4 false true false false) := by
  refine returnsInHanded_of_change (C := Try.checked) own started (by kernel_rfl) Try.func4
    (ChangeSpec.witness6 (enc := enc) (C := Try.checked) false ⟨#[], #[.slice none 0 0, .slice none 0 0, .slice none 0 0, .string ⟨#[]⟩], []⟩ 8 (by kernel_rfl) (by kernel_rfl) (by kernel_rfl) (by kernel_rfl)) ?_
  intro W base args ds gs before hval0 hW hcnd _
  have hval : ∀ (j : Nat) t v, Try.f4.params[j]? = some t → args[j]? = some v → Value.okWide Try.prog W .any base t v := hval0
  have hW' := hW
  obtain ⟨p, q, hA0, hV, rfl, hfz, hnd⟩ := hW
  have hA : DataW.TrodAll enc Try.prog W 0 (fun _ => true) true Try.f4.params.toList args.toList ds p := hA0
  rw [show Try.f4.params.toList = [50, 51, 50, 9] from rfl] at hA
  obtain ⟨v0, v1, v2, v3, d0, d1, d2, d3, p0, p1, p2, p3, rfl, rfl, rfl, h0, h1, h2, h3⟩ := trodAll_four hA
  obtain ⟨rfl, rfl⟩ := trodVars_none hV
  have k0 := h0
  have k1 := h1
  have k2 := h2
  have k3 := h3
  have lt0 : ∀ x ∈ p0, x.block < W.heap.size := by obtain ⟨m, hm⟩ := h0; exact DataW.trod_lt m _ _ _ hm
  have lt1 : ∀ x ∈ p1, x.block < W.heap.size := by obtain ⟨m, hm⟩ := h1; exact DataW.trod_lt m _ _ _ hm
  have lt2 : ∀ x ∈ p2, x.block < W.heap.size := by obtain ⟨m, hm⟩ := h2; exact DataW.trod_lt m _ _ _ hm
  have lt3 : ∀ x ∈ p3, x.block < W.heap.size := by obtain ⟨m, hm⟩ := h3; exact DataW.trod_lt m _ _ _ hm
  obtain ⟨m0, e0⟩ := h0
  obtain ⟨m1, e1⟩ := h1
  obtain ⟨m2, e2⟩ := h2
  obtain ⟨ks, hk⟩ := open_strs (x := (d0, p0)) (v := v0) (by
    obtain ⟨a, len, cap, rfl⟩ := okWide_slice Try.underlying50 (hval 0 50 v0 rfl rfl)
    exact e0)
  obtain ⟨vs, hv⟩ := open_nums (x := (d1, p1)) (v := v1) (by
    obtain ⟨a, len, cap, rfl⟩ := okWide_slice Try.underlying51 (hval 1 51 v1 rfl rfl)
    exact e1)
  obtain ⟨ms, hm⟩ := open_strs (x := (d2, p2)) (v := v2) (by
    obtain ⟨a, len, cap, rfl⟩ := okWide_slice Try.underlying50 (hval 2 50 v2 rfl rfl)
    exact e2)
  obtain ⟨s, rfl⟩ := okWide_string Try.underlying9 (hval 3 9 v3 rfl rfl)
  clear hA0 hval0 hval
  refine (makes_any ks vs ms v0 v1 v2 s W hk hv hm).mono fun e W' ⟨he, bel⟩ => ?_
  subst he
  exact ⟨_, rfl, _, _, _, [], _, [], hW', trodAll_mk1 (shut_bool Try.underlying4 _), trodAll_mk4 (Below.trod laidOut (by kernel_rfl) (of_decide_eq_true (by kernel_rfl)) k0 bel lt0) (Below.trod laidOut (by kernel_rfl) (of_decide_eq_true (by kernel_rfl)) k1 bel lt1) (Below.trod laidOut (by kernel_rfl) (of_decide_eq_true (by kernel_rfl)) k2 bel lt2) (Below.trod laidOut (by kernel_rfl) (of_decide_eq_true (by kernel_rfl)) k3 bel lt3), rfl, bel.frame _, fun h => by cases h⟩

theorem over : Rows.mapMakesRow.holds Try.pinned (OpenSpec.ofChange Rows.mapMakesSpec) :=
  OpenClaim.holds_of_wide 4 Try.f4 rfl rfl rfl rfl rfl rfl rfl ⟨rfl, rfl, rfl, rfl, rfl⟩ rfl rfl rfl rfl rfl (by kernel_rfl) Try.func4 (by kernel_rfl)
    (of_decide_eq_true (by kernel_rfl)) (by unfold Func.isWrapper; first | (rw [if_pos (by decide +kernel)]; kernel_rfl) | (rw [if_neg (by decide +kernel)]; exact ⟨rfl, rfl⟩))
    (fun os started H enc _ => lifted os started H enc)
end Go.Proofs.Ytleaaoknjflgoaa.mapMakes
namespace Go.Proofs.Ytleaaoknjflgoaa
/-- The statement. -/
theorem mapMakes_holds : Rows.MapMakesSaid := mapMakes.over
#print axioms mapMakes_holds
end Go.Proofs.Ytleaaoknjflgoaa
