/-
  OPS: OpsBack 6, its walk.
-/
import Derived.Test.YtpepgoelnagoaaaGreatDoorMg17
namespace Go.Proofs.YtpepgoelnagoaaaGreatDoor
open Go.RowKit Go.Shelf
set_option linter.unusedSimpArgs false
set_option linter.unusedVariables false
attribute [local go_sem] Oper.semAt_some

theorem slice_to {w : World} {ao : Option Addr} {l : List Int} {n cap j : Nat} (hr : Rd w ao l) (hl : l.length = n) (hj : j ≤ n) (hc : n ≤ cap) :
    (∀ w', (Instr.slice 26 (.slice ao n cap) none (some (.int .i64 j)) none).run Tryz.prog w' = .ok (.slice ao j cap) w') ∧ Rd w ao (l.take j) := by
  refine ⟨fun w' => ?_, ⟨fun h => ?_, fun a ha k u hk => ?_⟩⟩
  · have h2 : (0 : Int) ≤ (j : Int) ∧ (j : Int) ≤ (cap : Int) := by omega
    simp [Instr.slice, Instr.sliceBounds, Instr.sliceBound, asIntOf, run_underlying Tryz.underlying26, go_sem, show j ≤ cap by omega]
  · rw [hr.1 h]; simp
  · refine hr.2 a ha k u ?_
    rw [u8s_get] at hk ⊢
    rw [List.getElem?_take] at hk
    split at hk
    · exact hk
    · simp at hk

theorem txA_eq {a b : List Od} (ha : GoodL a) (hb : GoodL b) : (txA a == txA b) = sameL a b := by
  by_cases h : a = b
  · subst h
    rw [(sameL_iff a a).2 rfl]
    exact beq_self_eq_true _
  · have hs : sameL a b = false := by
      cases hs : sameL a b
      · rfl
      · exact absurd ((sameL_iff a b).1 hs) h
    rw [hs, beq_eq_false_iff_ne]
    exact fun e => h (txT_inj ha hb (by show (⟨(txA a).toArray⟩ : ByteArray) = ⟨(txA b).toArray⟩; rw [e]))

set_option maxHeartbeats 8000000 in
set_option maxRecDepth 100000 in
theorem back_walk {w : World} {ao bo : Option Addr} {c d : Nat} (a b : List Od) (ha : Rq w ao a) (hb : Rq w bo b) (hna : ∀ o ∈ a, I64 o.n) (hnb : ∀ o ∈ b, I64 o.n) (hE : EnvO w) :
    Calls Tryz.prog 6 #[.slice ao a.length c, .slice bo b.length d] w fun e w' => e = .returned (.bool true) ∧ Below w.heap.size w w' := by
  have k9 := known9_any hE
  have HA := hide (And.intro ha (And.intro hb (And.intro hna (And.intro hnb hE))))
  clear ha hb hna hnb hE
  go_enter Tryz.func6, Tryz.ntmps6
  go_upto_region 3 with (go_at_call 9; refine k9.mono ?_; rintro e w1 ⟨rfl, b1⟩)
  have k8 := small8_any ao c a w1 (HA.out.1.below b1)
  have H1 := hide b1
  clear k9 b1
  go_wp2_with fail
  refine k8.mono ?_
  rintro e w2 ⟨s1, rfl, hs1, d2⟩
  have H2 := hide (up H1.out d2)
  clear k8 d2
  cases s1
  · clear hs1
    go_wp2
    go_ret
    exact ⟨rfl, H2.out⟩
  have hsa := hs1 rfl
  clear hs1
  have k8 := small8_any bo d b w2 (HA.out.2.1.below H2.out)
  go_wp2_with fail
  refine k8.mono ?_
  rintro e w3 ⟨s2, rfl, hs2, d3⟩
  have H3 := hide (up H2.out d3)
  clear k8 d3
  cases s2
  · clear hs2
    go_wp2
    go_ret
    exact ⟨rfl, H3.out⟩
  have hsb := hs2 rfl
  clear hs2
  have k17 := bytesAll_any (c := c) a (HA.out.1.below H3.out) HA.out.2.2.1 (HA.out.2.2.2.2.below H3.out).tabs (by have := hsa.len; omega)
  have HSM := hide (And.intro hsa hsb)
  clear hsa hsb
  obtain ⟨FA, hFA⟩ : ∃ q, q = frW a := ⟨_, rfl⟩
  obtain ⟨ea, hea⟩ : ∃ q, q = wrongL a := ⟨_, rfl⟩
  rw [← hFA, ← hea] at k17
  have HQA := hide (And.intro hFA hea)
  clear hFA hea
  go_upto_region 6 with (go_at_call 17; refine k17.mono ?_; rintro e w4 ⟨xa, xc, rfl, xo, xn, d4⟩; have H4 := hide (And.intro xo (And.intro xn (up H3.out d4))); clear xo xn d4 k17)
  have k17 := bytesAll_any (c := d) b (HA.out.2.1.below H4.out.2.2) HA.out.2.2.2.1 (HA.out.2.2.2.2.below H4.out.2.2).tabs (by have := HSM.out.2.len; omega)
  obtain ⟨FB, hFB⟩ : ∃ q, q = frW b := ⟨_, rfl⟩
  obtain ⟨eb, heb⟩ : ∃ q, q = wrongL b := ⟨_, rfl⟩
  rw [← hFB, ← heb] at k17
  have HQB := hide (And.intro hFB heb)
  clear hFB heb
  go_upto_region 7 with (go_at_call 17; refine k17.mono ?_; rintro e w5 ⟨ya, yc, rfl, yo, yn, d5⟩; have H5 := hide (And.intro yo (And.intro yn (And.intro (up H4.out.2.2 d5) d5))); clear yo yn d5 k17)
  have k14 := fun n W => num14_any n W
  have hra := wrong_range a
  have hrb := wrong_range b
  rw [← HQA.out.2] at hra
  rw [← HQB.out.2] at hrb
  have hwr : wrap64 (ea + eb) = ea + eb := by
    unfold wrap64
    omega
  by_cases hz : ea + eb = 0
  · have ea0 : ea = 0 := by omega
    have eb0 : eb = 0 := by omega
    subst ea0
    subst eb0
    obtain ⟨hFA, hea⟩ := HQA.out
    obtain ⟨hFB, heb⟩ := HQB.out
    have hga : GoodL a := good_of hea.symm HA.out.2.2.1
    have hgb : GoodL b := good_of heb.symm HA.out.2.2.2.1
    have hfa : FA = frA a := by rw [hFA]; exact if_pos hea.symm
    have hfb : FB = frA b := by rw [hFB]; exact if_pos heb.symm
    have HG := hide (And.intro hga (And.intro hgb (And.intro hfa (And.intro hfb (And.intro hea heb)))))
    clear hga hgb hfa hfb hFA hFB hea heb hra hrb hwr hz HQA HQB
    go_upto_region 9 with (go_at_call 14; refine (k14 _ _).mono ?_; rintro e wq ⟨rfl, hq⟩; have hq := hq.symm; subst hq)
    have hEr : ∀ W, Below w.heap.size w W → EnvO W := fun W hW => HA.out.2.2.2.2.below hW
    have k18 := textAllP_any (c := c) a (HA.out.1.below H5.out.2.2.1) HA.out.2.2.1 (hEr _ H5.out.2.2.1) (by have := HSM.out.1.len; omega)
    rw [← HG.out.2.2.2.2.1, show txW' a = txT a from if_pos HG.out.2.2.2.2.1.symm] at k18
    go_upto_region 10 with (go_at_call 18; refine k18.mono ?_; rintro e w6 ⟨rfl, d6⟩; have H6 := hide (up H5.out.2.2.1 d6); have L6 := hide d6; clear d6 k18)
    have k18 := textAllP_any (c := d) b (HA.out.2.1.below H6.out) HA.out.2.2.2.1 (hEr _ H6.out) (by have := HSM.out.2.len; omega)
    rw [← HG.out.2.2.2.2.2, show txW' b = txT b from if_pos HG.out.2.2.2.2.2.symm] at k18
    go_upto_region 11 with (go_at_call 18; refine k18.mono ?_; rintro e w7 ⟨rfl, d7⟩; have H7 := hide (up H6.out d7); have L7 := hide (up L6.out d7); clear d7 k18)
    have hown7 := (H4.out.1.below H5.out.2.2.2).below L7.out
    have k24 := readAll24_any xa xc FA.length FA w7 rfl hown7.rd H4.out.2.1 (by rw [HG.out.2.2.1]; have := frA_size HG.out.1; omega) (by rw [HG.out.2.2.1]; exact frA_u8 a) (hEr _ H7.out)
    rw [show readA FA = (a, 0) by rw [HG.out.2.2.1]; exact readA_form a HG.out.1.1 HG.out.1.2] at k24
    clear hown7
    go_upto_region 12 with (go_at_call 24; refine k24.mono ?_; rintro e w8 ⟨v8, rfl, ⟨xs8, hx8, ho8⟩, d8⟩; obtain ⟨l8, c8, rfl, hq8, -, -, -⟩ := ho8.shape; rw [hx8] at hq8; have hl8 : xs8.length = a.length := (by have := congrArg List.length hx8; simpa using this); have H8 := hide (And.intro hq8 (And.intro (up H7.out d8) (up L7.out d8))); clear d8 k24 hx8 ho8 hq8)
    have k36 := parseAll36_any (txT a) w8 (txT_size HG.out.1) (hEr _ H8.out.2.1) (.inl (nums_text HG.out.1.2))
    rw [parseA_text HG.out.1.1 HG.out.1.2] at k36
    go_upto_region 13 with (go_at_call 36; refine k36.mono ?_; rintro e w9 ⟨v9, rfl, xs9, hx9, ho9, d9⟩; obtain ⟨l9, c9, rfl, hq9, -, -, -⟩ := ho9.shape; rw [hx9] at hq9; have hl9 : xs9.length = a.length := (by have := congrArg List.length hx9; simpa using this); have H9 := hide (And.intro hq9 (And.intro (up H8.out.2.1 d9) (And.intro (H8.out.1.below d9) (up H8.out.2.2 d9)))); clear d9 k36 hx9 ho9 hq9)
    have hpa : ∀ o ∈ a, o.p.length ≤ 1000000 := fun o ho => by have := HSM.out.1.path o ho; omega
    have hpb : ∀ o ∈ b, o.p.length ≤ 1000000 := fun o ho => by have := HSM.out.2.path o ho; omega
    have hla : a.length ≤ 100000 := by have := HSM.out.1.len; omega
    have k20 := same20_any (c := c) (d := d) a b (HA.out.1.below H9.out.2.1) (HA.out.2.1.below H9.out.2.1) hla hpa hpb
    have hbe := bytes_eq HG.out.1 HG.out.2.1
    have hte := txA_eq HG.out.1 HG.out.2.1
    rw [← HG.out.2.2.1, ← HG.out.2.2.2.1] at hbe
    have hsame : Hid (∀ h : sameL a b = false, (FB.length < FA.length) ∨ (FA.length ≤ FB.length ∧ FB.take FA.length ≠ FA)) := hide (fun h => by
      by_cases hlt : FB.length < FA.length
      · exact .inl hlt
      · refine .inr ⟨by omega, fun e => ?_⟩
        rw [HG.out.2.2.1, HG.out.2.2.2.1] at e
        rw [(sameL_iff a b).2 (frA_prefix HG.out.1 HG.out.2.1 e)] at h
        cases h)
    obtain ⟨bs, hbs⟩ : ∃ q, q = sameL a b := ⟨_, rfl⟩
    rw [← hbs] at k20 hbe hte hsame
    have HBS := hide hbs
    clear hbs
    have haa : sameL a a = true := (sameL_iff a a).2 rfl
    have kla : ∀ W, Below w9.heap.size w9 W → Calls Tryz.prog 20 #[.slice l8 a.length c8, .slice ao a.length c] W fun e w' => e = .returned (.bool true) ∧ Below W.heap.size W w' := fun W hW => by
      have := same20_any (c := c8) (d := c) a a (H9.out.2.2.1.below hW) (HA.out.1.below (up H9.out.2.1 hW)) hla hpa hpa
      rw [haa] at this
      exact this
    have kma : ∀ W, Below w9.heap.size w9 W → Calls Tryz.prog 20 #[.slice l9 a.length c9, .slice ao a.length c] W fun e w' => e = .returned (.bool true) ∧ Below W.heap.size W w' := fun W hW => by
      have := same20_any (c := c9) (d := c) a a (H9.out.1.below hW) (HA.out.1.below (up H9.out.2.1 hW)) hla hpa hpa
      rw [haa] at this
      exact this
    have KK := hide (And.intro kla kma)
    have hox : ∀ W, Below w9.heap.size w9 W → Own 5 W w3.heap.size (.slice xa FA.length xc) FA := fun W hW => ((H4.out.1.below H5.out.2.2.2).below H9.out.2.2.2).below hW
    have hoy : ∀ W, Below w9.heap.size w9 W → Own 5 W w4.heap.size (.slice ya FB.length yc) FB := fun W hW => (H5.out.1.below H9.out.2.2.2).below hW
    have HOW := hide (And.intro hox hoy)
    clear hox hoy kla kma haa hpa hpb hla
    go_upto_region 14 with (go_at_call 20; refine k20.mono ?_; rintro e w10 ⟨rfl, d10⟩; have L10 := hide d10; clear d10 k20)
    cases bs
    · rcases hsame.out rfl with hlt | ⟨hle, hnt⟩
      · have hdl : decide ((FB.length : Int) < (FA.length : Int)) = true := by simpa using hlt
        clear hsame
        go_wp2_with (first
          | (go_at_call 14; refine (k14 _ _).mono ?_; rintro e wq ⟨rfl, hq⟩; have hq := hq.symm; subst hq))
        refine (KK.out.1 _ L10.out).mono ?_
        rintro e w11 ⟨rfl, d11⟩
        have L11 := hide (up L10.out d11)
        clear d11
        go_wp2_with fail
        refine (KK.out.2 _ L11.out).mono ?_
        rintro e w12 ⟨rfl, d12⟩
        have L12 := hide (up L11.out d12)
        clear d12
        have hcx := conv_rd (cap := xc) (HOW.out.1 _ L12.out).rd rfl
        have hcy := conv_rd (cap := yc) (HOW.out.2 _ L12.out).rd rfl
        go_upto_region 16 with fail
        have hsd : True := trivial
        clear hcx hcy
        refine wp_region_held_drew (S := fun w' => True) (by kernel_rfl) hsd (fun hHeld => ?_)
        clear hsd
        have BD := hide L12.out.drew
        obtain ⟨Wd, hWd⟩ : ∃ q, q = w12.drew := ⟨_, rfl⟩
        rw [← hWd] at BD ⊢
        clear hWd
        refine take_op (i := 0) (d := 107) (OP := Op.move (Operand.tmp 17)) (T := 4) (v := ?vog1) rfl rfl rfl rfl (by kernel_rfl) (by kernel_rfl) (by kernel_rfl) (fun _ _ _ h => h) (by rfl) ?hog1 hHeld ?rog1
        case hog1 => (intro w' hSw; (try dsimp only at hSw); go_simp <;> with_reducible rfl)
        try simp only [Act.put, List.setIfInBounds_toArray, List.set_cons_zero, List.set_cons_succ]
        refine take_op (i := 1) (d := 108) (OP := Op.move (Operand.tmp 107)) (T := 4) (v := ?vog2) rfl rfl rfl rfl (by kernel_rfl) (by kernel_rfl) (by kernel_rfl) (fun _ _ _ h => h) (by rfl) ?hog2 hHeld ?rog2
        case hog2 => (intro w' hSw; (try dsimp only at hSw); go_simp <;> with_reducible rfl)
        try simp only [Act.put, List.setIfInBounds_toArray, List.set_cons_zero, List.set_cons_succ]
        refine take_op (i := 2) (d := 109) (OP := Op.move (Operand.tmp 5)) (T := 26) (v := ?vog3) rfl rfl rfl rfl (by kernel_rfl) (by kernel_rfl) (by kernel_rfl) (fun _ _ _ h => h) (by rfl) ?hog3 hHeld ?rog3
        case hog3 => (intro w' hSw; (try dsimp only at hSw); go_simp <;> with_reducible rfl)
        try simp only [Act.put, List.setIfInBounds_toArray, List.set_cons_zero, List.set_cons_succ]
        refine take_op (i := 3) (d := 110) (OP := Op.call { callee := Callee.builtin Builtin.len, args := #[Operand.tmp 109], argTypes := #[26] }) (T := 3) (v := ?vog4) rfl rfl rfl rfl (by kernel_rfl) (by kernel_rfl) (by kernel_rfl) (fun _ _ _ h => h) (by rfl) ?hog4 hHeld ?rog4
        case hog4 => (intro w' hSw; (try dsimp only at hSw); go_simp <;> with_reducible rfl)
        try simp only [Act.put, List.setIfInBounds_toArray, List.set_cons_zero, List.set_cons_succ]
        refine take_op (i := 4) (d := 111) (OP := Op.move (Operand.tmp 7)) (T := 26) (v := ?vog5) rfl rfl rfl rfl (by kernel_rfl) (by kernel_rfl) (by kernel_rfl) (fun _ _ _ h => h) (by rfl) ?hog5 hHeld ?rog5
        case hog5 => (intro w' hSw; (try dsimp only at hSw); go_simp <;> with_reducible rfl)
        try simp only [Act.put, List.setIfInBounds_toArray, List.set_cons_zero, List.set_cons_succ]
        refine take_op (i := 5) (d := 112) (OP := Op.call { callee := Callee.builtin Builtin.len, args := #[Operand.tmp 111], argTypes := #[26] }) (T := 3) (v := ?vog6) rfl rfl rfl rfl (by kernel_rfl) (by kernel_rfl) (by kernel_rfl) (fun _ _ _ h => h) (by rfl) ?hog6 hHeld ?rog6
        case hog6 => (intro w' hSw; (try dsimp only at hSw); go_simp <;> with_reducible rfl)
        try simp only [Act.put, List.setIfInBounds_toArray, List.set_cons_zero, List.set_cons_succ]
        refine take_op (i := 6) (d := 113) (OP := Op.binOp BinOp.gtr 3 (Operand.tmp 110) (Operand.tmp 112) 3) (T := 4) (v := (.bool true)) rfl rfl rfl rfl (by kernel_rfl) (by kernel_rfl) (by kernel_rfl) (fun _ _ _ h => h) (by rfl) ?hog7 hHeld ?rog7
        case hog7 => (intro w' hSw; (try dsimp only at hSw); go_simp <;> first | with_reducible rfl | (simp; omega) | (simp [hdl]))
        try simp only [Act.put, List.setIfInBounds_toArray, List.set_cons_zero, List.set_cons_succ]
        refine take_op (i := 7) (d := 114) (OP := Op.pick (Operand.tmp 108) (Operand.const (Value.bool true)) (Operand.tmp 113)) (T := 4) (v := ?vog8) rfl rfl rfl rfl (by kernel_rfl) (by kernel_rfl) (by kernel_rfl) (fun _ _ _ h => h) (by rfl) ?hog8 hHeld ?rog8
        case hog8 => (intro w' hSw; (try dsimp only at hSw); go_simp <;> with_reducible rfl)
        try simp only [Act.put, List.setIfInBounds_toArray, List.set_cons_zero, List.set_cons_succ]
        refine take_op (i := 8) (d := 115) (OP := Op.move (Operand.tmp 114)) (T := 4) (v := ?vog9) rfl rfl rfl rfl (by kernel_rfl) (by kernel_rfl) (by kernel_rfl) (fun _ _ _ h => h) (by rfl) ?hog9 hHeld ?rog9
        case hog9 => (intro w' hSw; (try dsimp only at hSw); go_simp <;> with_reducible rfl)
        try simp only [Act.put, List.setIfInBounds_toArray, List.set_cons_zero, List.set_cons_succ]
        refine pass_op (i := 9) (d := 116) rfl rfl (by kernel_rfl) (by kernel_rfl) (by kernel_rfl) (fun _ _ _ h => h) (by rfl) hHeld ?_
        try simp only [Act.put, List.setIfInBounds_toArray, List.set_cons_zero, List.set_cons_succ]
        refine pass_op (i := 10) (d := 117) rfl rfl (by kernel_rfl) (by kernel_rfl) (by kernel_rfl) (fun _ _ _ h => h) (by rfl) hHeld ?_
        try simp only [Act.put, List.setIfInBounds_toArray, List.set_cons_zero, List.set_cons_succ]
        refine pass_op (i := 11) (d := 118) rfl rfl (by kernel_rfl) (by kernel_rfl) (by kernel_rfl) (fun _ _ _ h => h) (by rfl) hHeld ?_
        try simp only [Act.put, List.setIfInBounds_toArray, List.set_cons_zero, List.set_cons_succ]
        refine pass_op (i := 12) (d := 119) rfl rfl (by kernel_rfl) (by kernel_rfl) (by kernel_rfl) (fun _ _ _ h => h) (by rfl) hHeld ?_
        try simp only [Act.put, List.setIfInBounds_toArray, List.set_cons_zero, List.set_cons_succ]
        refine pass_op (i := 13) (d := 120) rfl rfl (by kernel_rfl) (by kernel_rfl) (by kernel_rfl) (fun _ _ _ h => h) (by rfl) hHeld ?_
        try simp only [Act.put, List.setIfInBounds_toArray, List.set_cons_zero, List.set_cons_succ]
        refine pass_op (i := 14) (d := 121) rfl rfl (by kernel_rfl) (by kernel_rfl) (by kernel_rfl) (fun _ _ _ h => h) (by rfl) hHeld ?_
        try simp only [Act.put, List.setIfInBounds_toArray, List.set_cons_zero, List.set_cons_succ]
        refine pass_op (i := 15) (d := 122) rfl rfl (by kernel_rfl) (by kernel_rfl) (by kernel_rfl) (fun _ _ _ h => h) (by rfl) hHeld ?_
        try simp only [Act.put, List.setIfInBounds_toArray, List.set_cons_zero, List.set_cons_succ]
        refine pass_op (i := 16) (d := 123) rfl rfl (by kernel_rfl) (by kernel_rfl) (by kernel_rfl) (fun _ _ _ h => h) (by rfl) hHeld ?_
        try simp only [Act.put, List.setIfInBounds_toArray, List.set_cons_zero, List.set_cons_succ]
        refine take_op (i := 17) (d := 124) (OP := Op.pick (Operand.tmp 115) (Operand.const (Value.bool true)) (Operand.tmp 123)) (T := 4) (v := ?vog10) rfl rfl rfl rfl (by kernel_rfl) (by kernel_rfl) (by kernel_rfl) (fun _ _ _ h => h) (by rfl) ?hog10 hHeld ?rog10
        case hog10 => (intro w' hSw; (try dsimp only at hSw); go_simp <;> with_reducible rfl)
        try simp only [Act.put, List.setIfInBounds_toArray, List.set_cons_zero, List.set_cons_succ]
        refine take_op (i := 18) (d := 4) (OP := Op.assign (Operand.tmp 124)) (T := 4) (v := ?vog11) rfl rfl rfl rfl (by kernel_rfl) (by kernel_rfl) (by kernel_rfl) (fun _ _ _ h => h) (by rfl) ?hog11 hHeld ?rog11
        case hog11 => (intro w' hSw; (try dsimp only at hSw); go_simp <;> with_reducible rfl)
        try simp only [Act.put, List.setIfInBounds_toArray, List.set_cons_zero, List.set_cons_succ]
        refine wpAnyH_done (by kernel_rfl) ?_ _
        go_wp2
        go_ret
        exact ⟨rfl, up H9.out.2.1 BD.out⟩
      · have hdl : decide ((FB.length : Int) < (FA.length : Int)) = false := by simpa using hle
        have hne : ((strOfNums (FB.take FA.length)).toList == (strOfNums FA).toList) = false := by
          refine str_ne (U8.take ?_ _) ?_ hnt
          · rw [HG.out.2.2.2.1]; exact frA_u8 b
          · rw [HG.out.2.2.1]; exact frA_u8 a
        have hne' : ((strOfNums (FB.take FA.length)).toList != (strOfNums FA).toList) = true := by
          show (!((strOfNums (FB.take FA.length)).toList == (strOfNums FA).toList)) = true
          rw [hne]; rfl
        have htl : (FB.take FA.length).length = FA.length := by rw [List.length_take]; omega
        have HTL := hide htl
        clear hsame htl
        go_wp2_with (first
          | (go_at_call 14; refine (k14 _ _).mono ?_; rintro e wq ⟨rfl, hq⟩; have hq := hq.symm; subst hq))
        refine (KK.out.1 _ L10.out).mono ?_
        rintro e w11 ⟨rfl, d11⟩
        have L11 := hide (up L10.out d11)
        clear d11
        go_wp2_with fail
        refine (KK.out.2 _ L11.out).mono ?_
        rintro e w12 ⟨rfl, d12⟩
        have L12 := hide (up L11.out d12)
        clear d12
        have hcx := conv_rd (cap := xc) (HOW.out.1 _ L12.out).rd rfl
        have hcy := conv_rd (cap := yc) (HOW.out.2 _ L12.out).rd rfl
        go_upto_region 16 with fail
        have hox := (HOW.out.2 _ L12.out.drew)
        obtain ⟨hsl, hrt⟩ := slice_to hox.rd rfl hle hox.cap.1
        have hsd := And.intro (conv_rd (cap := xc) (HOW.out.1 _ L12.out.drew).rd rfl) (conv_rd (cap := yc) hrt HTL.out)
        clear hrt hox hcx hcy
        refine wp_region_held_drew (S := fun w' => (convert 26 9 (.slice xa FA.length xc)).run Tryz.prog w' = .ok (.string (strOfNums FA)) w' ∧ (convert 26 9 (.slice ya FA.length yc)).run Tryz.prog w' = .ok (.string (strOfNums (FB.take FA.length))) w') (by kernel_rfl) hsd (fun hHeld => ?_)
        clear hsd
        have BD := hide L12.out.drew
        obtain ⟨Wd, hWd⟩ : ∃ q, q = w12.drew := ⟨_, rfl⟩
        rw [← hWd] at hHeld BD ⊢
        clear hWd
        obtain ⟨q1, q2⟩ := hHeld
        have hHeld := And.intro q1 q2
        clear q1 q2
        refine take_op (i := 0) (d := 107) (OP := Op.move (Operand.tmp 17)) (T := 4) (v := ?vog12) rfl rfl rfl rfl (by kernel_rfl) (by kernel_rfl) (by kernel_rfl) (fun _ _ _ h => h) (by rfl) ?hog12 hHeld ?rog12
        case hog12 => (intro w' hSw; (try dsimp only at hSw); go_simp <;> with_reducible rfl)
        try simp only [Act.put, List.setIfInBounds_toArray, List.set_cons_zero, List.set_cons_succ]
        refine take_op (i := 1) (d := 108) (OP := Op.move (Operand.tmp 107)) (T := 4) (v := ?vog13) rfl rfl rfl rfl (by kernel_rfl) (by kernel_rfl) (by kernel_rfl) (fun _ _ _ h => h) (by rfl) ?hog13 hHeld ?rog13
        case hog13 => (intro w' hSw; (try dsimp only at hSw); go_simp <;> with_reducible rfl)
        try simp only [Act.put, List.setIfInBounds_toArray, List.set_cons_zero, List.set_cons_succ]
        refine take_op (i := 2) (d := 109) (OP := Op.move (Operand.tmp 5)) (T := 26) (v := ?vog14) rfl rfl rfl rfl (by kernel_rfl) (by kernel_rfl) (by kernel_rfl) (fun _ _ _ h => h) (by rfl) ?hog14 hHeld ?rog14
        case hog14 => (intro w' hSw; (try dsimp only at hSw); go_simp <;> with_reducible rfl)
        try simp only [Act.put, List.setIfInBounds_toArray, List.set_cons_zero, List.set_cons_succ]
        refine take_op (i := 3) (d := 110) (OP := Op.call { callee := Callee.builtin Builtin.len, args := #[Operand.tmp 109], argTypes := #[26] }) (T := 3) (v := ?vog15) rfl rfl rfl rfl (by kernel_rfl) (by kernel_rfl) (by kernel_rfl) (fun _ _ _ h => h) (by rfl) ?hog15 hHeld ?rog15
        case hog15 => (intro w' hSw; (try dsimp only at hSw); go_simp <;> with_reducible rfl)
        try simp only [Act.put, List.setIfInBounds_toArray, List.set_cons_zero, List.set_cons_succ]
        refine take_op (i := 4) (d := 111) (OP := Op.move (Operand.tmp 7)) (T := 26) (v := ?vog16) rfl rfl rfl rfl (by kernel_rfl) (by kernel_rfl) (by kernel_rfl) (fun _ _ _ h => h) (by rfl) ?hog16 hHeld ?rog16
        case hog16 => (intro w' hSw; (try dsimp only at hSw); go_simp <;> with_reducible rfl)
        try simp only [Act.put, List.setIfInBounds_toArray, List.set_cons_zero, List.set_cons_succ]
        refine take_op (i := 5) (d := 112) (OP := Op.call { callee := Callee.builtin Builtin.len, args := #[Operand.tmp 111], argTypes := #[26] }) (T := 3) (v := ?vog17) rfl rfl rfl rfl (by kernel_rfl) (by kernel_rfl) (by kernel_rfl) (fun _ _ _ h => h) (by rfl) ?hog17 hHeld ?rog17
        case hog17 => (intro w' hSw; (try dsimp only at hSw); go_simp <;> with_reducible rfl)
        try simp only [Act.put, List.setIfInBounds_toArray, List.set_cons_zero, List.set_cons_succ]
        refine take_op (i := 6) (d := 113) (OP := Op.binOp BinOp.gtr 3 (Operand.tmp 110) (Operand.tmp 112) 3) (T := 4) (v := (.bool false)) rfl rfl rfl rfl (by kernel_rfl) (by kernel_rfl) (by kernel_rfl) (fun _ _ _ h => h) (by rfl) ?hog18 hHeld ?rog18
        case hog18 => (intro w' hSw; (try dsimp only at hSw); go_simp <;> first | with_reducible rfl | (simp; omega) | (simp [hdl]))
        try simp only [Act.put, List.setIfInBounds_toArray, List.set_cons_zero, List.set_cons_succ]
        refine take_op (i := 7) (d := 114) (OP := Op.pick (Operand.tmp 108) (Operand.const (Value.bool true)) (Operand.tmp 113)) (T := 4) (v := ?vog19) rfl rfl rfl rfl (by kernel_rfl) (by kernel_rfl) (by kernel_rfl) (fun _ _ _ h => h) (by rfl) ?hog19 hHeld ?rog19
        case hog19 => (intro w' hSw; (try dsimp only at hSw); go_simp <;> with_reducible rfl)
        try simp only [Act.put, List.setIfInBounds_toArray, List.set_cons_zero, List.set_cons_succ]
        refine take_op (i := 8) (d := 115) (OP := Op.move (Operand.tmp 114)) (T := 4) (v := ?vog20) rfl rfl rfl rfl (by kernel_rfl) (by kernel_rfl) (by kernel_rfl) (fun _ _ _ h => h) (by rfl) ?hog20 hHeld ?rog20
        case hog20 => (intro w' hSw; (try dsimp only at hSw); go_simp <;> with_reducible rfl)
        try simp only [Act.put, List.setIfInBounds_toArray, List.set_cons_zero, List.set_cons_succ]
        refine take_op (i := 9) (d := 116) (OP := Op.move (Operand.tmp 7)) (T := 26) (v := ?vog21) rfl rfl rfl rfl (by kernel_rfl) (by kernel_rfl) (by kernel_rfl) (fun _ _ _ h => h) (by rfl) ?hog21 hHeld ?rog21
        case hog21 => (intro w' hSw; (try dsimp only at hSw); go_simp <;> with_reducible rfl)
        try simp only [Act.put, List.setIfInBounds_toArray, List.set_cons_zero, List.set_cons_succ]
        refine take_op (i := 10) (d := 117) (OP := Op.move (Operand.tmp 5)) (T := 26) (v := ?vog22) rfl rfl rfl rfl (by kernel_rfl) (by kernel_rfl) (by kernel_rfl) (fun _ _ _ h => h) (by rfl) ?hog22 hHeld ?rog22
        case hog22 => (intro w' hSw; (try dsimp only at hSw); go_simp <;> with_reducible rfl)
        try simp only [Act.put, List.setIfInBounds_toArray, List.set_cons_zero, List.set_cons_succ]
        refine take_op (i := 11) (d := 118) (OP := Op.call { callee := Callee.builtin Builtin.len, args := #[Operand.tmp 117], argTypes := #[26] }) (T := 3) (v := ?vog23) rfl rfl rfl rfl (by kernel_rfl) (by kernel_rfl) (by kernel_rfl) (fun _ _ _ h => h) (by rfl) ?hog23 hHeld ?rog23
        case hog23 => (intro w' hSw; (try dsimp only at hSw); go_simp <;> with_reducible rfl)
        try simp only [Act.put, List.setIfInBounds_toArray, List.set_cons_zero, List.set_cons_succ]
        refine take_op (i := 12) (d := 119) (OP := Op.slice 26 (Operand.tmp 116) none (some (Operand.tmp 118)) none) (T := 26) (v := ?vog24) rfl rfl rfl rfl (by kernel_rfl) (by kernel_rfl) (by kernel_rfl) (fun _ _ _ h => h) (by rfl) ?hog24 hHeld ?rog24
        case hog24 => (intro w' hSw; (try dsimp only at hSw); go_simp <;> with_reducible rfl)
        try simp only [Act.put, List.setIfInBounds_toArray, List.set_cons_zero, List.set_cons_succ]
        refine take_op (i := 13) (d := 120) (OP := Op.convert 26 9 (Operand.tmp 119)) (T := 9) (v := ?vog25) rfl rfl rfl rfl (by kernel_rfl) (by kernel_rfl) (by kernel_rfl) (fun _ _ _ h => h) (by rfl) ?hog25 hHeld ?rog25
        case hog25 => (intro w' hSw; (try dsimp only at hSw); go_simp <;> with_reducible rfl)
        try simp only [Act.put, List.setIfInBounds_toArray, List.set_cons_zero, List.set_cons_succ]
        refine take_op (i := 14) (d := 121) (OP := Op.move (Operand.tmp 5)) (T := 26) (v := ?vog26) rfl rfl rfl rfl (by kernel_rfl) (by kernel_rfl) (by kernel_rfl) (fun _ _ _ h => h) (by rfl) ?hog26 hHeld ?rog26
        case hog26 => (intro w' hSw; (try dsimp only at hSw); go_simp <;> with_reducible rfl)
        try simp only [Act.put, List.setIfInBounds_toArray, List.set_cons_zero, List.set_cons_succ]
        refine take_op (i := 15) (d := 122) (OP := Op.convert 26 9 (Operand.tmp 121)) (T := 9) (v := ?vog27) rfl rfl rfl rfl (by kernel_rfl) (by kernel_rfl) (by kernel_rfl) (fun _ _ _ h => h) (by rfl) ?hog27 hHeld ?rog27
        case hog27 => (intro w' hSw; (try dsimp only at hSw); go_simp <;> with_reducible rfl)
        try simp only [Act.put, List.setIfInBounds_toArray, List.set_cons_zero, List.set_cons_succ]
        refine take_op (i := 16) (d := 123) (OP := Op.binOp BinOp.neq 9 (Operand.tmp 120) (Operand.tmp 122) 9) (T := 4) (v := ?vog28) rfl rfl rfl rfl (by kernel_rfl) (by kernel_rfl) (by kernel_rfl) (fun _ _ _ h => h) (by rfl) ?hog28 hHeld ?rog28
        case hog28 => (intro w' hSw; (try dsimp only at hSw); go_simp <;> with_reducible rfl)
        try simp only [Act.put, List.setIfInBounds_toArray, List.set_cons_zero, List.set_cons_succ]
        refine take_op (i := 17) (d := 124) (OP := Op.pick (Operand.tmp 115) (Operand.const (Value.bool true)) (Operand.tmp 123)) (T := 4) (v := ?vog29) rfl rfl rfl rfl (by kernel_rfl) (by kernel_rfl) (by kernel_rfl) (fun _ _ _ h => h) (by rfl) ?hog29 hHeld ?rog29
        case hog29 => (intro w' hSw; (try dsimp only at hSw); go_simp <;> with_reducible rfl)
        try simp only [Act.put, List.setIfInBounds_toArray, List.set_cons_zero, List.set_cons_succ]
        refine take_op (i := 18) (d := 4) (OP := Op.assign (Operand.tmp 124)) (T := 4) (v := ?vog30) rfl rfl rfl rfl (by kernel_rfl) (by kernel_rfl) (by kernel_rfl) (fun _ _ _ h => h) (by rfl) ?hog30 hHeld ?rog30
        case hog30 => (intro w' hSw; (try dsimp only at hSw); go_simp <;> with_reducible rfl)
        try simp only [Act.put, List.setIfInBounds_toArray, List.set_cons_zero, List.set_cons_succ]
        refine wpAnyH_done (by kernel_rfl) ?_ _
        go_wp2
        go_ret
        exact ⟨rfl, up H9.out.2.1 BD.out⟩
    · clear hsame
      go_wp2_with (first
        | (go_at_call 14; refine (k14 _ _).mono ?_; rintro e wq ⟨rfl, hq⟩; have hq := hq.symm; subst hq))
      refine (KK.out.1 _ L10.out).mono ?_
      rintro e w11 ⟨rfl, d11⟩
      have L11 := hide (up L10.out d11)
      clear d11
      go_wp2_with fail
      refine (KK.out.2 _ L11.out).mono ?_
      rintro e w12 ⟨rfl, d12⟩
      have L12 := hide (up L11.out d12)
      clear d12
      have hcx := conv_rd (cap := xc) (HOW.out.1 _ L12.out).rd rfl
      have hcy := conv_rd (cap := yc) (HOW.out.2 _ L12.out).rd rfl
      go_upto_region 16 with fail
      have hsd : True := trivial
      clear hcx hcy
      refine wp_region_held_drew (S := fun w' => True) (by kernel_rfl) hsd (fun hHeld => ?_)
      clear hsd
      have BD := hide L12.out.drew
      obtain ⟨Wd, hWd⟩ : ∃ q, q = w12.drew := ⟨_, rfl⟩
      rw [← hWd] at BD ⊢
      clear hWd
      refine take_op (i := 0) (d := 107) (OP := Op.move (Operand.tmp 17)) (T := 4) (v := ?vog31) rfl rfl rfl rfl (by kernel_rfl) (by kernel_rfl) (by kernel_rfl) (fun _ _ _ h => h) (by rfl) ?hog31 hHeld ?rog31
      case hog31 => (intro w' hSw; (try dsimp only at hSw); go_simp <;> with_reducible rfl)
      try simp only [Act.put, List.setIfInBounds_toArray, List.set_cons_zero, List.set_cons_succ]
      refine take_op (i := 1) (d := 108) (OP := Op.move (Operand.tmp 107)) (T := 4) (v := ?vog32) rfl rfl rfl rfl (by kernel_rfl) (by kernel_rfl) (by kernel_rfl) (fun _ _ _ h => h) (by rfl) ?hog32 hHeld ?rog32
      case hog32 => (intro w' hSw; (try dsimp only at hSw); go_simp <;> with_reducible rfl)
      try simp only [Act.put, List.setIfInBounds_toArray, List.set_cons_zero, List.set_cons_succ]
      refine pass_op (i := 2) (d := 109) rfl rfl (by kernel_rfl) (by kernel_rfl) (by kernel_rfl) (fun _ _ _ h => h) (by rfl) hHeld ?_
      try simp only [Act.put, List.setIfInBounds_toArray, List.set_cons_zero, List.set_cons_succ]
      refine pass_op (i := 3) (d := 110) rfl rfl (by kernel_rfl) (by kernel_rfl) (by kernel_rfl) (fun _ _ _ h => h) (by rfl) hHeld ?_
      try simp only [Act.put, List.setIfInBounds_toArray, List.set_cons_zero, List.set_cons_succ]
      refine pass_op (i := 4) (d := 111) rfl rfl (by kernel_rfl) (by kernel_rfl) (by kernel_rfl) (fun _ _ _ h => h) (by rfl) hHeld ?_
      try simp only [Act.put, List.setIfInBounds_toArray, List.set_cons_zero, List.set_cons_succ]
      refine pass_op (i := 5) (d := 112) rfl rfl (by kernel_rfl) (by kernel_rfl) (by kernel_rfl) (fun _ _ _ h => h) (by rfl) hHeld ?_
      try simp only [Act.put, List.setIfInBounds_toArray, List.set_cons_zero, List.set_cons_succ]
      refine pass_op (i := 6) (d := 113) rfl rfl (by kernel_rfl) (by kernel_rfl) (by kernel_rfl) (fun _ _ _ h => h) (by rfl) hHeld ?_
      try simp only [Act.put, List.setIfInBounds_toArray, List.set_cons_zero, List.set_cons_succ]
      refine take_op (i := 7) (d := 114) (OP := Op.pick (Operand.tmp 108) (Operand.const (Value.bool true)) (Operand.tmp 113)) (T := 4) (v := ?vog33) rfl rfl rfl rfl (by kernel_rfl) (by kernel_rfl) (by kernel_rfl) (fun _ _ _ h => h) (by rfl) ?hog33 hHeld ?rog33
      case hog33 => (intro w' hSw; (try dsimp only at hSw); go_simp <;> with_reducible rfl)
      try simp only [Act.put, List.setIfInBounds_toArray, List.set_cons_zero, List.set_cons_succ]
      refine take_op (i := 8) (d := 115) (OP := Op.move (Operand.tmp 114)) (T := 4) (v := ?vog34) rfl rfl rfl rfl (by kernel_rfl) (by kernel_rfl) (by kernel_rfl) (fun _ _ _ h => h) (by rfl) ?hog34 hHeld ?rog34
      case hog34 => (intro w' hSw; (try dsimp only at hSw); go_simp <;> with_reducible rfl)
      try simp only [Act.put, List.setIfInBounds_toArray, List.set_cons_zero, List.set_cons_succ]
      refine pass_op (i := 9) (d := 116) rfl rfl (by kernel_rfl) (by kernel_rfl) (by kernel_rfl) (fun _ _ _ h => h) (by rfl) hHeld ?_
      try simp only [Act.put, List.setIfInBounds_toArray, List.set_cons_zero, List.set_cons_succ]
      refine pass_op (i := 10) (d := 117) rfl rfl (by kernel_rfl) (by kernel_rfl) (by kernel_rfl) (fun _ _ _ h => h) (by rfl) hHeld ?_
      try simp only [Act.put, List.setIfInBounds_toArray, List.set_cons_zero, List.set_cons_succ]
      refine pass_op (i := 11) (d := 118) rfl rfl (by kernel_rfl) (by kernel_rfl) (by kernel_rfl) (fun _ _ _ h => h) (by rfl) hHeld ?_
      try simp only [Act.put, List.setIfInBounds_toArray, List.set_cons_zero, List.set_cons_succ]
      refine pass_op (i := 12) (d := 119) rfl rfl (by kernel_rfl) (by kernel_rfl) (by kernel_rfl) (fun _ _ _ h => h) (by rfl) hHeld ?_
      try simp only [Act.put, List.setIfInBounds_toArray, List.set_cons_zero, List.set_cons_succ]
      refine pass_op (i := 13) (d := 120) rfl rfl (by kernel_rfl) (by kernel_rfl) (by kernel_rfl) (fun _ _ _ h => h) (by rfl) hHeld ?_
      try simp only [Act.put, List.setIfInBounds_toArray, List.set_cons_zero, List.set_cons_succ]
      refine pass_op (i := 14) (d := 121) rfl rfl (by kernel_rfl) (by kernel_rfl) (by kernel_rfl) (fun _ _ _ h => h) (by rfl) hHeld ?_
      try simp only [Act.put, List.setIfInBounds_toArray, List.set_cons_zero, List.set_cons_succ]
      refine pass_op (i := 15) (d := 122) rfl rfl (by kernel_rfl) (by kernel_rfl) (by kernel_rfl) (fun _ _ _ h => h) (by rfl) hHeld ?_
      try simp only [Act.put, List.setIfInBounds_toArray, List.set_cons_zero, List.set_cons_succ]
      refine pass_op (i := 16) (d := 123) rfl rfl (by kernel_rfl) (by kernel_rfl) (by kernel_rfl) (fun _ _ _ h => h) (by rfl) hHeld ?_
      try simp only [Act.put, List.setIfInBounds_toArray, List.set_cons_zero, List.set_cons_succ]
      refine take_op (i := 17) (d := 124) (OP := Op.pick (Operand.tmp 115) (Operand.const (Value.bool true)) (Operand.tmp 123)) (T := 4) (v := ?vog35) rfl rfl rfl rfl (by kernel_rfl) (by kernel_rfl) (by kernel_rfl) (fun _ _ _ h => h) (by rfl) ?hog35 hHeld ?rog35
      case hog35 => (intro w' hSw; (try dsimp only at hSw); go_simp <;> with_reducible rfl)
      try simp only [Act.put, List.setIfInBounds_toArray, List.set_cons_zero, List.set_cons_succ]
      refine take_op (i := 18) (d := 4) (OP := Op.assign (Operand.tmp 124)) (T := 4) (v := ?vog36) rfl rfl rfl rfl (by kernel_rfl) (by kernel_rfl) (by kernel_rfl) (fun _ _ _ h => h) (by rfl) ?hog36 hHeld ?rog36
      case hog36 => (intro w' hSw; (try dsimp only at hSw); go_simp <;> with_reducible rfl)
      try simp only [Act.put, List.setIfInBounds_toArray, List.set_cons_zero, List.set_cons_succ]
      refine wpAnyH_done (by kernel_rfl) ?_ _
      go_wp2
      go_ret
      exact ⟨rfl, up H9.out.2.1 BD.out⟩
  · have hzb : (ea + eb == 0) = false := by simpa using hz
    have hzn : (ea + eb != 0) = true := by simpa using hz
    go_wp2_with (go_at_call 14; refine (k14 _ _).mono ?_; rintro e wq ⟨rfl, hq⟩; have hq := hq.symm; subst hq)
    go_ret
    exact ⟨rfl, H5.out.2.2.1⟩
end Go.Proofs.YtpepgoelnagoaaaGreatDoor
