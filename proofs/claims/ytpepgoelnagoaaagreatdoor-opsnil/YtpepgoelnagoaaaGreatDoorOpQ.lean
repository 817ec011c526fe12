/-
  OPS: OpsNil 7, its walk.
-/
import Derived.Test.YtpepgoelnagoaaaGreatDoorMg17
namespace Go.Proofs.YtpepgoelnagoaaaGreatDoor
open Go.RowKit Go.Shelf
set_option linter.unusedSimpArgs false
set_option linter.unusedVariables false
attribute [local go_sem] Oper.semAt_some

set_option maxHeartbeats 8000000 in
set_option maxRecDepth 100000 in
theorem nil_walk {w : World} (hE : EnvO w) : Calls Tryz.prog 7 #[] w fun e w' => e = .returned (.bool true) ∧ Below w.heap.size w w' := by
  have k1 := take26_nil (.pointer none) w (fun W _ => .inl rfl)
  have HE := hide hE
  clear hE
  go_enter Tryz.func7, Tryz.ntmps7
  go_upto_region 2 with (go_at_call 26; refine k1.mono ?_; rintro e w1 ⟨rfl, b1⟩)
  obtain ⟨u1, hu1⟩ : ∃ r, r = w1.alloc (.cells (oc6 (.slice none 0 0) 0 ⟨#[]⟩ 0 0 ⟨#[]⟩) 34) := ⟨_, rfl⟩
  rw [← hu1]
  have B1 : Below w.heap.size w u1 := by rw [hu1]; exact b1.alloc b1.size _
  obtain ⟨u2, hu2⟩ : ∃ r, r = u1.alloc (.cells #[.slice none 0 0, .bool false] 77) := ⟨_, rfl⟩
  have hb2 : Below w.heap.size w u2 := by rw [hu2]; exact B1.alloc B1.size _
  have m2 : u2.heap[u1.heap.size]? = some (.cells #[.slice none 0 0, .bool false] 77 (0, 0)) := by rw [hu2]; exact heap_alloc_new _ _
  have k2 := take26_nil (.pointer (some ⟨u1.heap.size, 0, none⟩)) u2 (fun W hW => .inr ⟨_, rfl, (cell_of_row _ _ 1 _ 77 (0, 0) ((hW.block _ (Array.getElem?_eq_some_iff.1 m2).1).trans m2)).trans rfl⟩)
  have HU := hide (And.intro hb2 hu2)
  clear b1 hu1 B1 m2 hb2 hu2 k1
  go_upto_region 3 with (first
    | (go_at_call 26; rw [← HU.out.2]; refine k2.mono ?_; rintro e w3 ⟨rfl, b3⟩))
  obtain ⟨u3, hu3⟩ : ∃ r, r = w3.alloc (.cells (oc6 (.slice none 0 0) 0 ⟨#[]⟩ 0 0 ⟨#[]⟩) 34) := ⟨_, rfl⟩
  rw [← hu3]
  have B3 : Below w.heap.size w u3 := by rw [hu3]; exact (HU.out.1.trans (b3.mono HU.out.1.size)).alloc (Nat.le_trans HU.out.1.size b3.size) _
  have HB3 := hide B3
  clear hu3 b3 HU k2 B3
  go_wp2
  go_loopw [5, 6] (fun v5 v6 wr => ∃ (j : Nat) (xs : List Ox) (a : Option Addr) (c : Nat), j ≤ 64 ∧ v5 = .slice a xs.length c ∧ v6 = .int .i64 (j : Nat) ∧ Hid (xs.map Prod.fst = pops j) ∧ Hid (Oq wr w.heap.size (.slice a xs.length c) xs) ∧ Hid (Below w.heap.size w wr))
    (fun _ v6 _ => 64 - (intOf v6).toNat)
  case atStart => exact ⟨0, [], none, 0, Nat.zero_le _, rfl, rfl, hide rfl, hide (Oq.nil _ _), HB3⟩
  case round =>
    obtain ⟨j, xs, a, c, hj, rfl, rfl, HX, HO, HB⟩ := hrel
    have hlen : xs.length = j := by have := congrArg List.length HX.out; simpa using this
    by_cases hlt : j < 64
    · have k42 := pop42_nil wr
      have HL := hide (And.intro hlen hlt)
      clear hlen
      go_wp2_with (first
        | (at_builtin; refine wpList_turn (OP := .call { callee := .builtin .append, args := #[.tmp 37, .tmp 39], argTypes := #[22, 22] }) (T := 22) rfl rfl rfl (exec_append rfl rfl hr8) ?_; clear hr8)
        | (go_at_call 42; refine k42.mono ?_; rintro e w5 ⟨pa, rfl, hos, b5⟩; obtain ⟨v8, w8, hr8, hO8, -, hb8⟩ := push_pop HO.out HB.out.size b5 hos (by have := HL.out; omega); obtain ⟨a8, c8, rfl, -, -, -, -⟩ := hO8.shape; have H8 := hide (And.intro hO8 (HB.out.trans hb8)); clear hos b5 hO8 hb8 k42))
      go_roundw
      case rel => exact ⟨j + 1, xs ++ [(popO, pa, 2)], a8, c8, by have := HL.out; omega, by simp, by go_num, hide (by rw [List.map_append, HX.out]; unfold pops; rw [List.replicate_succ']; rfl), hide H8.out.1, hide H8.out.2⟩
      case measure => have := HL.out; simp [intOf]; omega
    · have hj64 : j = 64 := by omega
      subst hj64
      rw [hlen]
      have hO : Oq wr w.heap.size (.slice a 64 c) xs := by have := HO.out; rw [hlen] at this; exact this
      have hRq : ∀ W, Below wr.heap.size wr W → Rq W a (pops 64) := fun W hW => by
        obtain ⟨a', c', hv, hr, -⟩ := (hO.below hW).shape
        simp only [Value.slice.injEq] at hv
        obtain ⟨rfl, -, rfl⟩ := hv
        rw [HX.out] at hr
        exact hr
      have hEr : ∀ W, Below wr.heap.size wr W → EnvO W := fun W hW => HE.out.below (HB.out.trans (hW.mono HB.out.size))
      have HH := hide (And.intro hO (And.intro hRq (And.intro hEr (And.intro hlen HX.out))))
      have k17 := n_bytes wr a c (hRq wr (Below.refl _ _)) (hEr wr (Below.refl _ _)).tabs
      clear hO hRq hEr hlen HX HO hlt hj HB3
      go_upto_region 9 with (go_at_call 17; refine k17.mono ?_; rintro e w1 ⟨ab, cb, rfl, own, nab, b1⟩)
      have HF := hide (And.intro own (And.intro nab b1))
      have k24 := n_read w1 ab cb own.rd nab (HH.out.2.2.1 w1 b1)
      clear own nab k17 b1
      go_upto_region 10 with (go_at_call 24; refine k24.mono ?_; rintro e w2 ⟨a9, c9, rfl, b2⟩)
      have k18 := n_text w2 a c (HH.out.2.1 w2 (up HF.out.2.2 b2)) (HH.out.2.2.1 w2 (up HF.out.2.2 b2))
      have H2 := hide b2
      clear k24 b2
      go_upto_region 11 with (go_at_call 18; refine k18.mono ?_; rintro e w3' ⟨rfl, b3⟩)
      have H3 := hide (up H2.out b3)
      have k36 := n_parse w3' (HH.out.2.2.1 w3' (up HF.out.2.2 H3.out))
      clear k18 b3
      go_upto_region 12 with (go_at_call 36; refine k36.mono ?_; rintro e w4 ⟨a13, c13, rfl, b4⟩)
      have H4 := hide (up H3.out b4)
      clear k36 b4
      have hBw : Below w.heap.size w w4 := HB.out.trans ((up HF.out.2.2 H4.out).mono HB.out.size)
      have hO4 := HH.out.1.below (up HF.out.2.2 H4.out)
      have k42 := pop42_nil w4
      have hpush := fun w5 (b5 : Below w4.heap.size w4 w5) pa hos => push_pop (pa := pa) hO4 hBw.size b5 hos (by have := HH.out.2.2.2.1; omega)
      have hne : xs ≠ [] := fun e => by have := HH.out.2.2.2.1; rw [e] at this; simp at this
      have HP := hide (And.intro hBw (And.intro hpush hne))
      clear hBw hO4 hpush hne
      go_upto_region 13 with (first
        | (at_builtin; refine wpList_turn (OP := .call { callee := .builtin .append, args := #[.tmp 62, .tmp 64], argTypes := #[22, 22] }) (T := 22) rfl rfl rfl (exec_append rfl rfl hr8) ?_; clear hr8)
        | (go_at_call 42; refine k42.mono ?_; rintro e w5 ⟨pa, rfl, hos, b5⟩; obtain ⟨v8, w8, hr8, hO8, hk8, hb8⟩ := HP.out.2.1 w5 b5 pa hos; obtain ⟨a8, c8, rfl, hq8, -, -, -⟩ := hO8.shape; have hl8 : (xs ++ [(popO, pa, 2)]).length = 65 := (by have := HH.out.2.2.2.1; rw [List.length_append, this]; rfl); rw [hl8] at hr8; have H8 := hide (And.intro hq8 (And.intro (hk8 HP.out.2.2) (HP.out.1.trans hb8))); clear hos b5 hO8 hb8 hk8 hq8 hl8 k42)
        | (go_at_call 17; refine (n_over w8 a8 c8 (by have := H8.out.1; rw [List.map_append, HH.out.2.2.2.2] at this; exact this) (HE.out.below H8.out.2.2).tabs).mono ?_; rintro e w9 ⟨a15, c15, rfl, b9⟩))
      have hBw9 : Below w.heap.size w w9 := H8.out.2.2.trans (b9.mono H8.out.2.2.size)
      have hN9 : Only (fun k => (Value.slice a 64 c).ownBlock = some k) w1 w9 := (((Only.ofBelow H4.out).mono (fun _ _ e => e.elim)).trans H8.out.2.1.2 (fun _ _ e => e)).trans (Only.ofBelow b9) (fun _ _ e => e.elim)
      obtain ⟨v10, w10, hr10, hO10, ho10, hb10⟩ := push_zer (H8.out.2.1.1.below b9) hBw9.size (by have := HH.out.2.2.2.1; omega)
      obtain ⟨a10, c10, rfl, hq10, -, -, -⟩ := hO10.shape
      have hl10 : (xs ++ [(odZ, none, 0)]).length = 65 := by have := HH.out.2.2.2.1; rw [List.length_append, this]; rfl
      rw [hl10] at hr10
      rw [List.map_append, HH.out.2.2.2.2] at hq10
      have hBw10 := hBw9.trans hb10
      have k18 := n_zero w10 a10 c10 hq10 (HE.out.below hBw10)
      have H10 := hide (And.intro hBw10 (hN9.trans ho10 (fun _ _ e => e)))
      clear hBw9 hN9 hO10 ho10 hb10 hl10 hq10 hBw10 b9
      go_upto_region 14 with (first
        | (at_builtin; refine wpList_turn (OP := .call { callee := .builtin .append, args := #[.tmp 70, .tmp 72], argTypes := #[22, 22] }) (T := 22) rfl rfl rfl (exec_append rfl rfl hr10) ?_; clear hr10)
        | (go_at_call 18; refine k18.mono ?_; rintro e w11 ⟨rfl, b11⟩; have H11 := hide (And.intro (H10.out.1.trans (b11.mono H10.out.1.size)) (H10.out.2.trans (Only.ofBelow b11) (fun _ _ e => e.elim))); clear b11 k18))
      have k36 : Calls Tryz.prog 36 #[.string (popT ++ ⟨#[59, 32, 112, 111, 112, 32, 47, 32, 113]⟩)] w11 fun e w' => ∃ a c, e = .returned (.tuple #[.slice a 0 c, .int .i64 4]) ∧ Below w11.heap.size w11 w' := n_parse2 w11 (HE.out.below H11.out.1)
      go_upto_region 15 with (go_at_call 36; refine k36.mono ?_; rintro e w12 ⟨a19, c19, rfl, b12⟩; have H12 := hide (And.intro (H11.out.1.trans (b12.mono H11.out.1.size)) (H11.out.2.trans (Only.ofBelow b12) (fun _ _ e => e.elim))); clear b12 k36)
      go_upto_region 17 with fail
      have hown12 : Own 5 w12 wr.heap.size (.slice ab 513 cb) popF := H12.out.2.own HF.out.1 (fun k hk hV => by have := (World.ownsRow.lt HF.out.1 k hk).1; have := (World.ownsRow.lt HH.out.1.row k hV).2; omega)
      obtain ⟨A, hsl, a21, c21, w14, hr14, hrd14, hn14, hb14⟩ := n_join hown12
      have H14 := hide (H12.out.1.trans (hb14.mono H12.out.1.size))
      have k24 := n_read2 w14 a21 c21 hrd14 hn14 (HE.out.below H14.out)
      clear hown12 hrd14 hn14 hb14
      go_upto_region 18 with (first
        | (at_builtin; refine wpList_turn (OP := .call { callee := .builtin .append, args := #[.tmp 87, .tmp 89], argTypes := #[26, 26] }) (T := 26) rfl rfl rfl (exec_append rfl rfl hr14) ?_; clear hr14)
        | (go_at_call 24; refine k24.mono ?_; rintro e w15 ⟨a22, c22, rfl, b15⟩; have H15 := hide (H14.out.trans (b15.mono H14.out.size)); clear b15 k24))
      clear hsl
      have k14 := fun n W => num14_any n W
      have k9 := known9_any (HE.out.below H15.out)
      clear HH HF H2 H3 H4 HP H8 H10 H11 H12 H14
      go_wp2_with (first
        | (go_at_call 14; refine (k14 _ _).mono ?_; rintro e wq ⟨rfl, hq⟩; subst hq)
        | (go_at_call 9; refine k9.mono ?_; rintro e wq ⟨rfl, hq⟩; have HQ := hide hq; clear hq k9))
      go_ret
      exact ⟨rfl, up H15.out HQ.out⟩
end Go.Proofs.YtpepgoelnagoaaaGreatDoor
