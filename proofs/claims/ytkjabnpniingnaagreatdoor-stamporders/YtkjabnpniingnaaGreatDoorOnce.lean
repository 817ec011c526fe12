/-
  ONCE: names in order, each once: the program's Sorted.
-/
import Derived.Test.YtkjabnpniingnaaGreatDoorNameR
import Derived.Test.YtkjabnpniingnaaGreatDoorEqs6
import Derived.Deep.DeepCutAuto
import Derived.Deep.CutBlock
import Derived.Deep.QuietTactic
import Derived.BigQuiet
namespace Go.Proofs.YtkjabnpniingnaaGreatDoor
open Go.RowKit Go.Shelf Go.Sort
set_option linter.unusedSimpArgs false

theorem Tryz.info25 : (Tryz.prog.info? 25).map (fun i => (i.zero, i.size, i.bytes)) = some (some (.agg #[.int .i64 0, .string ⟨#[]⟩, .int .i64 0]), 3, 32) := by kernel_rfl
open Classical in
/-- What differs from the one ahead is kept. -/
noncomputable def onceK : Option Nm → List Nm → List Nm
  | _, [] => []
  | p, x :: t => if p = some x then onceK p t else x :: onceK (some x) t
theorem last_or (y : Nm) (t : List Nm) (p : Option Nm) : (y :: t).getLast?.or p = t.getLast?.or (some y) := by
  rw [List.getLast?_cons]
  cases t.getLast? <;> simp
theorem onceK_snoc : ∀ (l : List Nm) (p : Option Nm) (x : Nm), (l.getLast?.or p = some x → onceK p (l ++ [x]) = onceK p l) ∧ (l.getLast?.or p ≠ some x → onceK p (l ++ [x]) = onceK p l ++ [x])
  | [], p, x => by
    refine ⟨fun h => ?_, fun h => ?_⟩
    · simp at h; simp [onceK, h]
    · simp at h; simp [onceK, h]
  | y :: t, p, x => by
    rw [last_or]
    by_cases hy : p = some y
    · have := onceK_snoc t p x
      subst hy
      simpa [onceK] using this
    · have := onceK_snoc t (some y) x
      refine ⟨fun h => ?_, fun h => ?_⟩
      · simp [onceK, hy, this.1 h]
      · simp [onceK, hy, this.2 h]
theorem once_first (l : List Nm) (x : Nm) (h : l[0]? = some x) : onceK none (l.take 1) = onceK none (l.take 0) ++ [x] := by
  cases l with
  | nil => simp at h
  | cons y t => simp at h; subst h; simp [onceK]
theorem once_next (l : List Nm) (k : Nat) (p x : Nm) (hp : l[k]? = some p) (hx : l[k + 1]? = some x) : (p = x → onceK none (l.take (k + 1 + 1)) = onceK none (l.take (k + 1))) ∧ (p ≠ x → onceK none (l.take (k + 1 + 1)) = onceK none (l.take (k + 1)) ++ [x]) := by
  have h1 : l.take (k + 1 + 1) = l.take (k + 1) ++ [x] := by rw [List.take_add_one, hx]; rfl
  have h2 : (l.take (k + 1)).getLast?.or none = some p := by rw [List.take_add_one, hp]; simp
  have h3 := onceK_snoc (l.take (k + 1)) none x
  rw [h2] at h3
  rw [h1]
  exact ⟨fun h => h3.1 (by rw [h]), fun h => h3.2 (by simpa using h)⟩
theorem neq_same (x : Nm) (W : World) : (binOp .neq 25 (nv x.1 x.2.1 x.2.2) (nv x.1 x.2.1 x.2.2)).run Tryz.prog W = .ok (.bool false) W := by
  rw [run_neq_struct, show (10000 : Nat) = 9997 + 3 from rfl, equalIn25]
  simp [Result.andThen]
theorem neq_diff (x p : Nm) (h : p ≠ x) (W : World) : (binOp .neq 25 (nv x.1 x.2.1 x.2.2) (nv p.1 p.2.1 p.2.2)).run Tryz.prog W = .ok (.bool true) W := by
  rw [run_neq_struct, show (10000 : Nat) = 9997 + 3 from rfl, equalIn25]
  have : (x.1 == p.1 && x.2.1.toList == p.2.1.toList && x.2.2 == p.2.2) = false := by
    rw [Bool.eq_false_iff]
    intro h1
    simp only [Bool.and_eq_true, beq_iff_eq, ByteArray.toList_eq] at h1
    obtain ⟨⟨a, b⟩, c⟩ := h1
    apply h
    obtain ⟨x1, x2, x3⟩ := x
    obtain ⟨p1, p2, p3⟩ := p
    simp only at a b c
    rw [a, c, ba_ext b]
  rw [this]
  simp [Result.andThen]
theorem new_enc (W : World) (x : Nm) (j : Nat) (u : Value) (hj : (encN x)[j]? = some u) : (W.alloc (.cells #[.int .i64 x.1, .string x.2.1, .int .i64 x.2.2] 25)).cell? ((⟨W.heap.size, 0, none⟩ : Addr).add j) = some u := by
  obtain ⟨d0, d1, d2, _, _, _⟩ := blk3 (heap_alloc_new W (.cells #[.int .i64 x.1, .string x.2.1, .int .i64 x.2.2] 25))
  rw [add_lit]
  match j, hj with
  | 0, hj => simp [encN] at hj; subst hj; exact d0
  | 1, hj => simp [encN] at hj; subst hj; exact d1
  | 2, hj => simp [encN] at hj; subst hj; exact d2
theorem once_len : ∀ (l : List Nm) (p : Option Nm), (onceK p l).length ≤ l.length
  | [], _ => by simp [onceK]
  | x :: t, p => by
    rw [onceK]
    split
    · exact Nat.le_trans (once_len t p) (by simp)
    · have := once_len t (some x); simp; exact this
theorem On.snoc {w : World} {B : Nat} {v : Value} {L : List Nm} {x : Nm} (h : w.ownsRow B 25 3 v (L.length + 1) (flatN L ++ encN x)) : On w B v (L ++ [x]) := by
  unfold On
  rw [List.length_append, flatN_app]
  have : flatN [x] = encN x := by simp [flatN]
  rw [this]
  exact h
theorem belN (B : Nat) (w : World) (n : Nat) : Below B w (w.drewN n) := ⟨rfl, rfl, rfl, Nat.le_refl _, fun _ _ => rfl⟩
theorem On.base {w : World} {B B' : Nat} {v : Value} {L : List Nm} (h : On w B v L) (hB : B' ≤ B) : On w B' v L := ⟨h.1, h.2.imp id (fun ⟨g, cap, cur, e, hb, r⟩ => ⟨g, cap, cur, e, Nat.le_trans hB hb, r⟩)⟩
set_option maxHeartbeats 4000000 in
set_option maxRecDepth 100000 in
theorem sorted_any (b off c : Nat) (L : List Nm) (w : World) (h : Rn w b off L) (hl : L.length ≤ 100000) : Calls Tryz.prog 57 #[.slice (some ⟨b, off, none⟩) L.length c] w fun e w' => ∃ v, e = .returned v ∧ On w' w.heap.size v (onceK none (sortN L)) ∧ Below w.heap.size w w' := by
  obtain ⟨i0, hi, hz0, hz1, hz2⟩ := info_parts Tryz.info25
  have hclone := clone_names b off c L w h hl
  clear h
  obtain ⟨S, hS⟩ : ∃ S, S = sortN L := ⟨_, rfl⟩
  have hsort : ∀ (W : World) (g cap : Nat), On W w.heap.size (.slice (some ⟨g, 0, none⟩) L.length cap) L → Calls Tryz.prog 104 #[.slice (some ⟨g, 0, none⟩) L.length cap, .func (.func 52) #[] #[]] W fun e w' => e = .returned (.tuple #[]) ∧ On w' w.heap.size (.slice (some ⟨g, 0, none⟩) L.length cap) S ∧ Below w.heap.size W w' := fun W g cap hO => by rw [hS]; exact sort_any hO hl
  have hSl : S.length = L.length := by rw [hS]; exact sortN_len L
  rw [← hS]
  have HS := hide hSl
  clear hS hSl
  go_enter Tryz.func57, Tryz.ntmps57
  go_wp2_with (first | (go_at_call 103; refine hclone.mono ?_; rintro e w1 ⟨g, cap, rfl, hO1, hB1⟩; have H1 := hide (And.intro hO1 hB1); clear hO1 hB1) | (go_at_call 104; refine (hsort _ _ _ H1.out.1).mono ?_; rintro e w2 ⟨rfl, hO2, hB2⟩; have H2 := hide (And.intro hO2 (H1.out.2.trans hB2)); clear hO2 hB2))
  have hR2 : Rn w2 g 0 S ∧ w.heap.size ≤ g ∧ g < w2.heap.size := by
    have h3 := World.ownsRow.lt H2.out.1 g rfl
    exact ⟨H2.out.1.rn, h3.1, h3.2⟩
  have HR2 := hide hR2
  clear hR2 hclone hsort H1
  go_loopw [4, 13] (fun v4 v13 wr => ∃ i : Nat, v13 = .int .i64 i ∧ i ≤ L.length ∧ Hid (On wr w2.heap.size v4 (onceK none (S.take i))) ∧ Hid (Below w2.heap.size w2 wr)) (fun _ v13 _ => L.length - (intOf v13).toNat)
  case atStart => exact ⟨0, rfl, by omega, hide (On.nil _ _), hide (Below.refl _ _)⟩
  case round =>
    obtain ⟨i, rfl, hil, HO, HW⟩ := hrel
    have hsz := HW.out.size
    by_cases hgo : i < L.length
    · have z1 : (i : Int) < (L.length : Int) := by omega
      obtain ⟨x, hx⟩ : ∃ x, S[i]? = some x := ⟨_, List.getElem?_eq_getElem (by rw [HS.out]; exact hgo)⟩
      obtain ⟨c0, c1, c2⟩ := (HR2.out.1.below HW.out HR2.out.2.2).at hx
      have HX := hide hx
      clear hx
      obtain ⟨x1, x2, x3⟩ := x
      simp only [Nat.zero_add] at c0 c1 c2
      go_upto_region 7 with fail
      obtain ⟨d0, d1, d2, _, _, _⟩ := blk3 (heap_alloc_new wr (.cells #[.int .i64 x1, .string x2, .int .i64 x3] 25))
      have hb7 := below_new wr (.cells #[.int .i64 x1, .string x2, .int .i64 x3] 25)
      have ho7 := HO.out.below hb7
      have hr7 := (HR2.out.1.below HW.out HR2.out.2.2).below hb7 (Nat.lt_of_lt_of_le HR2.out.2.2 hsz)
      have hB7 := HW.out.trans (hb7.mono hsz)
      have hs7 : w2.heap.size ≤ (wr.alloc (.cells #[.int .i64 x1, .string x2, .int .i64 x3] 25)).heap.size := hB7.size
      clear c0 c1 c2 hb7
      generalize wr.alloc (.cells #[.int .i64 x1, .string x2, .int .i64 x3] 25) = w7 at d0 d1 d2 ho7 hr7 hB7 hs7 ⊢
      have H7 := hide (And.intro ho7 (And.intro hr7 hB7))
      clear ho7 hr7 hB7
      cases i with
      | zero =>
        go_quiet (fail)
        have hB8 : Below w2.heap.size w2 (w7.drewN nq) := H7.out.2.2.trans (belN _ w7 nq)
        have hO8 : On (w7.drewN nq) w2.heap.size u4 (onceK none (S.take 0)) := H7.out.1.below (belN _ w7 nq)
        have hln : (onceK none (S.take 0)).length ≤ 0 := Nat.le_trans (once_len _ _) (by rw [List.length_take]; omega)
        have hq8 : (onceK none (S.take 0)).length + 1 ≤ maxLen ∧ ((onceK none (S.take 0)).length + 1) * 32 ≤ 140737488355328 := by unfold maxLen; omega
        have H8 := hide (And.intro hB8 (And.intro hO8 hq8))
        clear hB8 hO8 hln hq8
        go_wp2_with (at_builtin; refine wpList_append_own _ rfl _ _ 81 rfl w2.heap.size 25 i0 (.agg #[.int .i64 0, .string ⟨#[]⟩, .int .i64 0]) 3 32 Tryz.underlying81 hi hz0 hz1 hz2 rfl (by decide) _ _ _ rfl (World.ownsRow.alloc H8.out.2.1 (.cells #[.int .i64 x1, .string x2, .int .i64 x3] 25)) ⟨w7.heap.size, 0, none⟩ 1 1 (encN (x1, x2, x3)) rfl rfl (new_enc (w7.drewN nq) (x1, x2, x3)) (fun u hu => by simp [encN] at hu; rcases hu with rfl | rfl | rfl <;> rfl) H8.out.2.2.1 H8.out.2.2.2 (Nat.le_trans hs7 (by simp)) ?_)
        intro v2 w9 hown9 hg9 _
        have hB9 : Below w2.heap.size w2 w9 := (H8.out.1.alloc hs7 _).grown hg9 (by simp; omega) (fun j hj => (World.ownsRow.lt H8.out.2.1 j hj).1)
        have hO9 : On w9 w2.heap.size v2 (onceK none (S.take (1))) := by rw [once_first S (x1, x2, x3) HX.out]; exact On.snoc hown9
        have H9 := hide (And.intro hO9 hB9)
        clear hO9 hB9 hown9 hg9
        go_wp2
        go_roundw
        case rel => exact ⟨1, by go_num, by omega, hide H9.out.1, hide H9.out.2⟩
        case measure => simp [intOf]; try omega
      | succ k =>
        obtain ⟨p, hp⟩ : ∃ p, S[k]? = some p := ⟨_, List.getElem?_eq_getElem (by rw [HS.out]; omega)⟩
        obtain ⟨e0, e1, e2⟩ := H7.out.2.1.at hp
        have HP := hide hp
        clear hp
        simp only [Nat.zero_add] at e0 e1 e2
        have k0 : ((k : Int) + 1 == 0) = false := by rw [beq_eq_false_iff_ne]; omega
        have k1 : IntKind.i64.wrap (k : Int) = (k : Int) := by rw [IntKind.wrap_i64]; omega
        have k2 : (k : Int) < (L.length : Int) := by omega
        have k3 : ¬ (k : Int) < 0 := by omega
        by_cases hpx : p = (x1, x2, x3)
        · have hq := neq_same (x1, x2, x3)
          subst hpx
          simp only at hq e0 e1 e2
          go_quiet (fail)
          have hB8 : Below w2.heap.size w2 (w7.drewN nq) := H7.out.2.2.trans (belN _ w7 nq)
          have hO8 : On (w7.drewN nq) w2.heap.size u4 (onceK none (S.take (k + 1 + 1))) := by
            rw [(once_next S k _ _ HP.out HX.out).1 rfl]
            exact H7.out.1.below (belN _ w7 nq)
          have H8 := hide (And.intro hO8 hB8)
          clear hB8 hO8
          go_wp2
          go_roundw
          case rel => exact ⟨k + 1 + 1, by go_num, by omega, hide H8.out.1, hide H8.out.2⟩
          case measure => simp [intOf]; try omega
        · have hq := neq_diff (x1, x2, x3) p hpx
          have HPX := hide hpx
          clear hpx
          obtain ⟨p1, p2, p3⟩ := p
          simp only at hq e0 e1 e2
          go_quiet (fail)
          have hB8 : Below w2.heap.size w2 (w7.drewN nq) := H7.out.2.2.trans (belN _ w7 nq)
          have hO8 : On (w7.drewN nq) w2.heap.size u4 (onceK none (S.take (k + 1))) := H7.out.1.below (belN _ w7 nq)
          have hln : (onceK none (S.take (k + 1))).length ≤ (k + 1) := Nat.le_trans (once_len _ _) (by rw [List.length_take]; omega)
          have hq8 : (onceK none (S.take (k + 1))).length + 1 ≤ maxLen ∧ ((onceK none (S.take (k + 1))).length + 1) * 32 ≤ 140737488355328 := by unfold maxLen; omega
          have H8 := hide (And.intro hB8 (And.intro hO8 hq8))
          clear hB8 hO8 hln hq8
          go_wp2_with (at_builtin; refine wpList_append_own _ rfl _ _ 81 rfl w2.heap.size 25 i0 (.agg #[.int .i64 0, .string ⟨#[]⟩, .int .i64 0]) 3 32 Tryz.underlying81 hi hz0 hz1 hz2 rfl (by decide) _ _ _ rfl (World.ownsRow.alloc H8.out.2.1 (.cells #[.int .i64 x1, .string x2, .int .i64 x3] 25)) ⟨w7.heap.size, 0, none⟩ 1 1 (encN (x1, x2, x3)) rfl rfl (new_enc (w7.drewN nq) (x1, x2, x3)) (fun u hu => by simp [encN] at hu; rcases hu with rfl | rfl | rfl <;> rfl) H8.out.2.2.1 H8.out.2.2.2 (Nat.le_trans hs7 (by simp)) ?_)
          intro v2 w9 hown9 hg9 _
          have hB9 : Below w2.heap.size w2 w9 := (H8.out.1.alloc hs7 _).grown hg9 (by simp; omega) (fun j hj => (World.ownsRow.lt H8.out.2.1 j hj).1)
          have hO9 : On w9 w2.heap.size v2 (onceK none (S.take (k + 1 + 1))) := by rw [(once_next S k _ _ HP.out HX.out).2 HPX.out]; exact On.snoc hown9
          have H9 := hide (And.intro hO9 hB9)
          clear hO9 hB9 hown9 hg9
          go_wp2
          go_roundw
          case rel => exact ⟨k + 1 + 1, by go_num, by omega, hide H9.out.1, hide H9.out.2⟩
          case measure => simp [intOf]; try omega
    · have z1 : ¬ (i : Int) < (L.length : Int) := by omega
      have hE : S.take i = S := List.take_of_length_le (by rw [HS.out]; omega)
      have HE := hide hE
      clear hE
      go_wp2
      go_ret
      exact ⟨_, rfl, by have h4 := HO.out; rw [HE.out] at h4; exact h4.base H2.out.2.size, H2.out.2.trans (HW.out.mono H2.out.2.size)⟩
end Go.Proofs.YtkjabnpniingnaaGreatDoor
