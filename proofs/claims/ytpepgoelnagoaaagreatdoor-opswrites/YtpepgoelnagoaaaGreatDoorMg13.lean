/-
  OPS: the document's Form 15, FormAll 21, Wrong 19, Check 13.
  THE DOCUMENT's Join and Split: what they answer.
-/
import Derived.Test.YtpepgoelnagoaaaGreatDoorMg12
import Derived.Test.YtpepgoelnagoaaaGreatDoorKiC
import Derived.Test.YtpepgoelnagoaaaGreatDoorMg5
import Derived.Test.YtpepgoelnagoaaaGreatDoorMg7
namespace Go.Proofs.YtpepgoelnagoaaaGreatDoor
open Go.RowKit Go.Shelf
set_option linter.unusedSimpArgs false
set_option linter.unusedVariables false
attribute [local go_sem] Oper.semAt_some

theorem refChk_any {w : World} {pa : Option Addr} {pc : Nat} (o : Od) (h : Rs w pa o.p) : Calls Tryz.prog 13 #[odv pa o.p.length pc o] w fun e w' => e = .returned (.int .i64 (chkO o)) ∧ Below w.heap.size w w' :=
  Ki.refCheck_any o.k o.s o.d o.n o.t h

set_option maxHeartbeats 2000000 in
set_option maxRecDepth 100000 in
theorem wrong19_any (ao : Option Addr) (cap : Nat) (ps : List Od) (w : World) (hr : Rq w ao ps) (hlen : ps.length ≤ 100000000) :
    Calls Tryz.prog 19 #[.slice ao ps.length cap] w fun e w' => e = .returned (.int .i64 (wrongL ps)) ∧ Below w.heap.size w w' := by
  go_enter Tryz.func19, Tryz.ntmps19
  go_wp2
  go_loopw [3] (fun i wr => ∃ (k : Nat), k ≤ ps.length ∧ i = .int .i64 k ∧ Hid (∀ j o, j < k → ps[j]? = some o → chkO o = 0) ∧ Hid (Below w.heap.size w wr))
    (fun i _ => ps.length - (intOf i).toNat)
  case atStart => exact ⟨0, Nat.zero_le _, rfl, hide (fun j o h => by omega), hide (Below.refl _ _)⟩
  case round =>
    obtain ⟨k, hk, rfl, HA, HB⟩ := hrel
    by_cases hlt : k < ps.length
    · obtain ⟨x, hx⟩ : ∃ q, ps[k]? = some q := ⟨_, List.getElem?_eq_getElem hlt⟩
      obtain ⟨ab, aoff, pa, pc, rfl, hp, c0, c1, c2, c3, c4, c5⟩ := (hr.below HB.out) k x hx
      have HX := hide hx
      clear hx
      have k13 := refChk_any (w := wr) (pc := pc) x hp.rs
      obtain ⟨v, hv⟩ : ∃ q, q = chkO x := ⟨_, rfl⟩
      rw [← hv] at k13
      have HV := hide hv
      clear hv
      have HX2 := hide (And.intro HX HV)
      clear HX HV
      obtain ⟨xp, xk, xs, xd, xn, xt⟩ := x
      dsimp only at c0 c1 c2 c3 c4 c5 k13 hp
      generalize xp.length = N at c0 k13
      clear hp
      by_cases hv0 : v = 0
      · subst hv0
        go_wp2_with (go_at_call 13; refine k13.mono ?_; rintro e w2 ⟨rfl, hb2⟩; have HB2 := hide hb2; clear hb2)
        go_roundw
        case rel => exact ⟨k + 1, by omega, by go_num, hide (fun j o hj ho => by
            by_cases hjk : j < k
            · exact HA.out j o hjk ho
            · have : j = k := by omega
              subst this
              rw [HX2.out.1.out] at ho
              cases ho
              exact HX2.out.2.out.symm), hide (HB.out.trans (HB2.out.mono HB.out.size))⟩
        case measure => simp [intOf]; omega
      · have hv1 : (v != 0) = true := by simpa using hv0
        go_wp2_with (go_at_call 13; refine k13.mono ?_; rintro e w2 ⟨rfl, hb2⟩; have HB2 := hide hb2; clear hb2)
        go_ret
        exact ⟨(by rw [find_all HA.out HX2.out.1.out (by rw [← HX2.out.2.out]; exact hv0), ← HX2.out.2.out]; rfl), HB.out.trans (HB2.out.mono HB.out.size)⟩
    · have hw : wrongL ps = if 64 < ps.length then 3 else 0 := find_not (fun j o hj ho => HA.out j o (by omega) ho)
      have HH := hide hw
      clear hw
      by_cases h64 : 64 < ps.length
      · have h64' : (64 : Int) < (ps.length : Int) := by omega
        go_wp2
        go_ret
        exact ⟨(by rw [HH.out, if_pos h64]; rfl), HB.out⟩
      · have h64' : ¬ (64 : Int) < (ps.length : Int) := by omega
        go_wp2
        go_ret
        exact ⟨(by rw [HH.out, if_neg h64]; rfl), HB.out⟩

/-- What bytes are laid behind others: where they then lie, under a letter. -/
theorem app_let {w : World} {B : Nat} {p l : List Int} {ao a : Option Addr} {c cp : Nat} (hown : Own 5 w B (.slice a p.length cp) p) (hc : ao = none → c = 0) (hrd : Rd w ao l) (hbytes : p.length + l.length ≤ 140737488355328) (hB : B ≤ w.heap.size) :
    ∃ q a' c' w', q = p ++ l ∧ (Builtin.append_ #[26, 26] 26 #[.slice a p.length cp, .slice ao l.length c]).run Tryz.prog w = .ok (.slice a' q.length c') w' ∧ Own 5 w' B (.slice a' q.length c') q ∧ (a' = none → c' = 0) ∧ Below B w w' := by
  obtain ⟨a', c', w', h1, h2, h3, h4⟩ := app_own hown hc hrd hbytes hB
  exact ⟨_, a', c', w', rfl, h1, h2, h3, h4⟩

set_option maxHeartbeats 8000000 in
set_option maxRecDepth 100000 in
theorem refForm_any {w : World} {pa : Option Addr} {pc : Nat} (o : Od) (h : Ki.Rp w pa pc o.p) (ho : OkO o) (hn : I64 o.n) : Calls Tryz.prog 15 #[odv pa o.p.length pc o] w fun e w' => Made 5 w w' e (frO o) := by
  obtain ⟨p, k, s, d, n, t⟩ := o
  have hps := ho.psz
  have hss := ho.ssz
  have htt := ho.text
  have hd1 := ho.d1
  have hd7 := ho.d7
  dsimp only at hps hss htt hd1 hd7 h hn
  have hN6 : p.length ≤ 6 := hps.1
  obtain ⟨w0, hw0⟩ : ∃ q, q = w.alloc (.cells (odC pa p.length pc ⟨p, k, s, d, n, t⟩) 34) := ⟨_, rfl⟩
  have d0 : Below w.heap.size w w0 := by rw [hw0]; exact (Below.refl _ w).alloc (Nat.le_refl _) _
  obtain ⟨Sb, hSb⟩ : ∃ q, q = w.heap.size := ⟨_, rfl⟩
  have m0 := op6_new w pa p.length pc ⟨p, k, s, d, n, t⟩
  rw [← hw0, ← hSb] at m0
  have HS : Hid (∀ W, Below w0.heap.size w0 W → Op6 W Sb pa p.length pc ⟨p, k, s, d, n, t⟩ ∧ Rs W pa p) := hide (fun W hW => ⟨op6_of ((hW.block _ (Array.getElem?_eq_some_iff.1 m0).1).trans m0), (h.rs.below d0).below hW⟩)
  have HW := hide (And.intro hw0 (And.intro hSb d0))
  have wr : IntKind.u64.wrap d = d := by rw [IntKind.wrap_u64]; omega
  have k53 := fun W => refNumber_int d W (by omega) (by omega)
  have l53 := Plain.numL_ten d.toNat (by omega)
  have k53' := fun W => refNumber_any p.length W (by omega)
  have l53' := Plain.numL_ten p.length (by omega)
  have HF : Hid (frO ⟨p, k, s, d, n, t⟩ = Plain.numL d.toNat ++ (Plain.numL p.length ++ p.flatMap frB) ++ frB s ++ frN ⟨p, k, s, d, n, t⟩) := hide rfl
  obtain ⟨X, hX⟩ : ∃ q, q = frO ⟨p, k, s, d, n, t⟩ := ⟨_, rfl⟩
  rw [← hX] at HF ⊢
  obtain ⟨L1, hL1⟩ : ∃ q, q = Plain.numL d.toNat := ⟨_, rfl⟩
  rw [← hL1] at k53 l53 HF
  obtain ⟨L2, hL2⟩ : ∃ q, q = Plain.numL p.length := ⟨_, rfl⟩
  rw [← hL2] at k53' l53' HF
  have HO := hide (And.intro ho (And.intro hn hps))
  clear hX hL1 hL2 ho hn hps m0 hSb hw0 d0 h hd1 hd7
  go_enter Tryz.func15, Tryz.ntmps15
  go_upto_region 1 with fail
  rw [← HW.out.1, ← HW.out.2.1]
  obtain ⟨⟨x0, x1, x2, x3, x4, x5⟩, -⟩ := HS.out w0 (Below.refl _ _)
  dsimp only at x0 x1 x2 x3 x4 x5
  go_upto_region 2 with (go_at_call 53; refine (k53 _).mono ?_; rintro e w1 ⟨a1, c1, rfl, O1, n1, b1⟩; have H1 := hide (And.intro O1 b1); clear O1 b1 k53 x0 x1 x2 x3 x4 x5; obtain ⟨⟨x0, x1, x2, x3, x4, x5⟩, -⟩ := HS.out w1 H1.out.2; dsimp only at x0 x1 x2 x3 x4 x5)
  have hpl : (p.length : Int) = p.length := rfl
  go_upto_region 3 with (first
    | (at_builtin; refine wpList_turn (OP := .call { callee := .builtin .append, args := #[.tmp 9, .tmp 14], argTypes := #[26, 26] }) (T := 26) rfl rfl rfl (exec_append rfl rfl hr3) ?_; clear hr3)
    | (go_at_call 53; refine (k53' _).mono ?_; rintro e w2 ⟨a2, c2, rfl, O2, n2, b2⟩; obtain ⟨P3, a3, c3, w3, hP3, hr3, O3, n3, b3⟩ := app_let (H1.out.1.below b2) n2 O2.rd (by omega) (Nat.le_trans H1.out.2.size b2.size); have B3 : Below w0.heap.size w0 w3 := (H1.out.2.trans (b2.mono H1.out.2.size)).trans b3; have H3 := hide (And.intro hP3 (And.intro O3 B3)); clear O2 b2 hP3 O3 b3 k53' x0 x1 x2 x3 x4 x5; obtain ⟨⟨x0, x1, x2, x3, x4, x5⟩, -⟩ := HS.out w3 B3; dsimp only at x0 x1 x2 x3 x4 x5; clear B3))
  go_wp2
  go_loopw [3, 4] (fun v3 v4 wr => ∃ (j : Nat) (P : List Int) (a : Option Addr) (c : Nat), j ≤ p.length ∧ v4 = .int .i64 (j : Nat) ∧ v3 = .slice a P.length c ∧ Hid (P = P3 ++ (p.take j).flatMap frB) ∧ Hid (Own 5 wr w0.heap.size (.slice a P.length c) P) ∧ (a = none → c = 0) ∧ Hid (Below w0.heap.size w0 wr))
    (fun _ v4 _ => p.length - (intOf v4).toNat)
  case atStart => exact ⟨0, P3, a3, c3, Nat.zero_le _, rfl, rfl, hide (by simp), hide H3.out.2.1, n3, hide H3.out.2.2⟩
  case round =>
    obtain ⟨j, P, a, c, hj, rfl, rfl, HP, HOw, hnil, HB⟩ := hrel
    clear x0 x1 x2 x3 x4 x5
    obtain ⟨⟨x0, x1, x2, x3, x4, x5⟩, hrs⟩ := HS.out wr HB.out
    dsimp only at x0 x1 x2 x3 x4 x5
    have hPl : P.length ≤ 1000 := by
      rw [HP.out, List.length_append, H3.out.1, List.length_append]
      have h1 := flat_len (f := frB) (l := p.take j) (B := 74) (fun x hx => by
        have h2 := HO.out.2.2.2 x (List.mem_of_mem_take hx)
        have := frB_len x (by omega)
        omega)
      rw [List.length_take] at h1
      have : 74 * min j p.length ≤ 74 * 6 := Nat.mul_le_mul_left _ (by omega)
      omega
    by_cases hlt : j < p.length
    · obtain ⟨x, hx⟩ : ∃ q, p[j]? = some q := ⟨_, List.getElem?_eq_getElem hlt⟩
      have hxs := HO.out.2.2.2 x (List.mem_of_getElem? hx)
      obtain ⟨ab, aoff, rfl, e0⟩ := hrs.at hx
      obtain ⟨cc, Wc, hcv, hRc, bc⟩ := conv_str x wr
      have k54 := refBytes_any (some ⟨wr.heap.size, 0, none⟩) cc (ints x.data.toList) Wc hRc (by intro e; cases e) (by rw [ints_size]; omega)
      rw [ints_size] at k54
      replace k54 : Calls Tryz.prog 54 #[.slice (some ⟨wr.heap.size, 0, none⟩) x.size cc] Wc fun e w' => Made 5 Wc w' e (frB x) := k54
      have hfl := frB_len x (by omega)
      obtain ⟨M, hM⟩ : ∃ q, q = frB x := ⟨_, rfl⟩
      rw [← hM] at k54 hfl
      have HX := hide (And.intro hx (And.intro hM (And.intro bc hrs)))
      clear hx hM bc hRc hrs
      have hMl : M.length ≤ 100 := by omega
      clear hfl
      go_wp2_with (first
        | (at_builtin; refine wpList_turn (OP := .call { callee := .builtin .append, args := #[.tmp 23, .tmp 30], argTypes := #[26, 26] }) (T := 26) rfl rfl rfl (exec_append rfl rfl hr6) ?_; clear hr6)
        | (go_at_call 54; refine k54.mono ?_; rintro e w5 ⟨a5, c5, rfl, O5, n5, b5⟩; have b15 : Below wr.heap.size wr w5 := HX.out.2.2.1.trans (b5.mono HX.out.2.2.1.size); obtain ⟨P6, a6, c6, w6, hP6, hr6, O6, n6, b6⟩ := app_let (HOw.out.below b15) n5 O5.rd (by omega) (Nat.le_trans HB.out.size b15.size); have H6 := hide (And.intro hP6 (And.intro O6 ((HB.out.trans (b15.mono HB.out.size)).trans b6))); clear O5 b5 hP6 O6 b6 b15 k54 x0 x1 x2 x3 x4 x5 e0)
        | (refine wpList_turn (OP := .convert 9 26 (.tmp 28)) (T := 26) rfl rfl rfl (exec_conv rfl hcv) ?_; clear hcv))
      go_roundw
      case rel => exact ⟨j + 1, P6, a6, c6, by omega, by go_num, rfl, hide (by rw [H6.out.1, HP.out, flatF_snoc frB p j x HX.out.1, HX.out.2.1, List.append_assoc]), hide H6.out.2.1, n6, hide H6.out.2.2⟩
      case measure => simp [intOf]; omega
    · have hPj : P = P3 ++ p.flatMap frB := by rw [HP.out, List.take_of_length_le (by omega)]
      have HPJ := hide hPj
      clear hPj HP hrs
      obtain ⟨cc, Wc, hcv, hRc, bc⟩ := conv_str s wr
      have k54 := refBytes_any (some ⟨wr.heap.size, 0, none⟩) cc (ints s.data.toList) Wc hRc (by intro e; cases e) (by rw [ints_size]; omega)
      rw [ints_size] at k54
      replace k54 : Calls Tryz.prog 54 #[.slice (some ⟨wr.heap.size, 0, none⟩) s.size cc] Wc fun e w' => Made 5 Wc w' e (frB s) := k54
      have hfl := frB_len s (by omega)
      obtain ⟨M, hM⟩ : ∃ q, q = frB s := ⟨_, rfl⟩
      rw [← hM] at k54 hfl HF
      have HX := hide bc
      clear hM bc hRc
      have hMl : M.length ≤ 100 := by omega
      clear hfl
      have hzz : ¬ (j : Int) < (p.length : Int) := by omega
      go_upto_region 8 with (first
        | (at_builtin; refine wpList_turn (OP := .call { callee := .builtin .append, args := #[.tmp 32, .tmp 36], argTypes := #[26, 26] }) (T := 26) rfl rfl rfl (exec_append rfl rfl hr6) ?_; clear hr6)
        | (go_at_call 54; refine k54.mono ?_; rintro e w5 ⟨a5, c5, rfl, O5, n5, b5⟩; have b15 : Below wr.heap.size wr w5 := HX.out.trans (b5.mono HX.out.size); obtain ⟨P6, a6, c6, w6, hP6, hr6, O6, n6, b6⟩ := app_let (HOw.out.below b15) n5 O5.rd (by omega) (Nat.le_trans HB.out.size b15.size); have B6 := (HB.out.trans (b15.mono HB.out.size)).trans b6; have l6 : P6.length ≤ 1100 := (by rw [hP6, List.length_append]; omega); have H6 := hide (And.intro hP6 (And.intro O6 B6)); clear O5 b5 hP6 O6 b6 b15 k54 x0 x1 x2 x3 x4 x5; obtain ⟨⟨x0, x1, x2, x3, x4, x5⟩, -⟩ := HS.out w6 B6; dsimp only at x0 x1 x2 x3 x4 x5; clear B6)
        | (refine wpList_turn (OP := .convert 9 26 (.tmp 34)) (T := 26) rfl rfl rfl (exec_conv rfl hcv) ?_; clear hcv))
      have hXX : X = P6 ++ frN ⟨p, k, s, d, n, t⟩ := by rw [HF.out, H6.out.1, HPJ.out, H3.out.1]; simp only [List.append_assoc]
      have HXX := hide hXX
      have hnn : I64 n := HO.out.2.1
      clear hXX HPJ HF H3 HOw HB hPl hzz
      have hfn : frN ⟨p, k, s, d, n, t⟩ = if d = 1 then Plain.numL (Plain.fold n) else if d = 6 then [] else frB t := rfl
      by_cases h1 : d = 1
      · subst h1
        rw [if_pos rfl] at hfn
        rw [hfn] at HXX
        have k55 := refSigned_any n w6 hnn.1 hnn.2
        have l55 := Plain.numL_ten (Plain.fold n) (Plain.fold_lt n hnn.1 hnn.2)
        obtain ⟨M2, hM2⟩ : ∃ q, q = Plain.numL (Plain.fold n) := ⟨_, rfl⟩
        rw [← hM2] at k55 l55 HXX
        clear hfn hM2 hnn
        go_wp2_with (first
          | (at_builtin; refine wpList_turn (OP := .call { callee := .builtin .append, args := #[.tmp 42, .tmp 45], argTypes := #[26, 26] }) (T := 26) rfl rfl rfl (exec_append rfl rfl hr8) ?_; clear hr8)
          | (go_at_call 55; refine k55.mono ?_; rintro e w7 ⟨a7, c7, rfl, O7, n7, b7⟩; obtain ⟨P8, a8, c8, w8, hP8, hr8, O8, n8, b8⟩ := app_let (H6.out.2.1.below b7) n7 O7.rd (by omega) (Nat.le_trans H6.out.2.2.size b7.size); have H8 := hide (And.intro hP8 (And.intro O8 ((H6.out.2.2.trans (b7.mono H6.out.2.2.size)).trans b8))); clear O7 b7 hP8 O8 b8 k55 x0 x1 x2 x3 x4 x5))
        go_ret
        have he : X = P8 := by rw [HXX.out, H8.out.1]
        subst he
        exact ⟨a8, c8, rfl, H8.out.2.1.lift HW.out.2.2.size, n8, HW.out.2.2.trans (H8.out.2.2.mono HW.out.2.2.size)⟩
      have e1 : (d == 1) = false := by simpa using h1
      rw [if_neg h1] at hfn
      by_cases h6 : d = 6
      · subst h6
        rw [if_pos rfl] at hfn
        rw [hfn, List.append_nil] at HXX
        clear hfn hnn
        go_wp2
        go_ret
        have he : X = P6 := HXX.out
        subst he
        exact ⟨a6, c6, rfl, H6.out.2.1.lift HW.out.2.2.size, n6, HW.out.2.2.trans (H6.out.2.2.mono HW.out.2.2.size)⟩
      have e6 : (d == 6) = false := by simpa using h6
      rw [if_neg h6] at hfn
      rw [hfn] at HXX
      obtain ⟨cd, Wd, hcd, hRd, bd⟩ := conv_str t w6
      have k54 := refBytes_any (some ⟨w6.heap.size, 0, none⟩) cd (ints t.data.toList) Wd hRd (by intro e; cases e) (by rw [ints_size]; omega)
      rw [ints_size] at k54
      replace k54 : Calls Tryz.prog 54 #[.slice (some ⟨w6.heap.size, 0, none⟩) t.size cd] Wd fun e w' => Made 5 Wd w' e (frB t) := k54
      have hfl := frB_len t (by omega)
      obtain ⟨M2, hM2⟩ : ∃ q, q = frB t := ⟨_, rfl⟩
      rw [← hM2] at k54 hfl HXX
      have HX2 := hide bd
      have hM2l : M2.length ≤ 300 := by omega
      clear hM2 bd hRd hfn hnn hfl
      go_wp2_with (first
        | (at_builtin; refine wpList_turn (OP := .call { callee := .builtin .append, args := #[.tmp 50, .tmp 54], argTypes := #[26, 26] }) (T := 26) rfl rfl rfl (exec_append rfl rfl hr8) ?_; clear hr8)
        | (go_at_call 54; refine k54.mono ?_; rintro e w7 ⟨a7, c7, rfl, O7, n7, b7⟩; have b17 : Below w6.heap.size w6 w7 := HX2.out.trans (b7.mono HX2.out.size); obtain ⟨P8, a8, c8, w8, hP8, hr8, O8, n8, b8⟩ := app_let (H6.out.2.1.below b17) n7 O7.rd (by omega) (Nat.le_trans H6.out.2.2.size b17.size); have H8 := hide (And.intro hP8 (And.intro O8 ((H6.out.2.2.trans (b17.mono H6.out.2.2.size)).trans b8))); clear O7 b7 hP8 O8 b8 b17 k54 x0 x1 x2 x3 x4 x5)
        | (refine wpList_turn (OP := .convert 9 26 (.tmp 52)) (T := 26) rfl rfl rfl (exec_conv rfl hcd) ?_; clear hcd))
      go_ret
      have he : X = P8 := by rw [HXX.out, H8.out.1]
      subst he
      exact ⟨a8, c8, rfl, H8.out.2.1.lift HW.out.2.2.size, n8, HW.out.2.2.trans (H8.out.2.2.mono HW.out.2.2.size)⟩
end Go.Proofs.YtpepgoelnagoaaaGreatDoor
namespace Go.Proofs.YtpepgoelnagoaaaGreatDoor
open Go.RowKit Go.Shelf
set_option linter.unusedSimpArgs false

set_option maxHeartbeats 1000000 in
set_option maxRecDepth 100000 in
theorem refJoin_any {w : World} {ao : Option Addr} {c : Nat} {l : List ByteArray} (h : Rs w ao l) (hp : pathB l = true) : Calls Tryz.prog 58 #[.slice ao l.length c] w fun e w' => e = .returned (.string ⟨(joinB l).toArray⟩) ∧ w' = w := by
  obtain ⟨h6, h64⟩ := path_sizes hp
  unfold joinB
  obtain ⟨N, hN⟩ : ∃ N, N = l.length := ⟨_, rfl⟩
  rw [← hN] at h6 ⊢
  by_cases h0 : l = []
  · subst h0
    subst hN
    rw [if_pos rfl]
    go_enter Tryz.func58, Tryz.ntmps58
    go_wp2
    go_ret
    exact ⟨rfl, rfl⟩
  · rw [if_neg h0]
    have hN0 : N ≠ 0 := fun e => h0 (List.eq_nil_of_length_eq_zero (by omega))
    have z0 : ((N : Int) == 0) = false := by rw [beq_eq_false_iff_ne]; omega
    obtain ⟨R, hR⟩ : ∃ R, R = l.flatMap (fun s => 47 :: s.data.toList) := ⟨_, rfl⟩
    rw [← hR]
    have H := hide (And.intro hN (And.intro hR h64))
    clear hN hR h0 h64
    go_enter Tryz.func58, Tryz.ntmps58
    go_wp2
    go_loopw [3, 4] (fun v3 v4 wr => ∃ (i : Nat) (a : ByteArray), i ≤ N ∧ v4 = .int .i64 i ∧ v3 = .string a ∧ a.size ≤ 65 * i ∧ Hid (a.data.toList = (l.take i).flatMap (fun s => 47 :: s.data.toList)) ∧ wr = w) (fun _ v4 _ => N - (intOf v4).toNat)
    case atStart => exact ⟨0, _, by omega, rfl, rfl, by simp [ByteArray.size], hide (by simp), rfl⟩
    case round =>
      obtain ⟨i, a, hi, rfl, rfl, ha, HA, rfl⟩ := hrel
      by_cases hc : i < N
      · have z1 : (i : Int) < (N : Int) := by omega
        have hx : l[i]? = some (l[i]'(by rw [← H.out.1]; exact hc)) := List.getElem?_eq_getElem _
        generalize l[i]'(by rw [← H.out.1]; exact hc) = s at hx
        have hft := flatJ_take l i s hx
        have hs64 := H.out.2.2 s (List.mem_of_getElem? hx)
        obtain ⟨g, off, rfl, hcx⟩ := h.at hx
        have HF := hide hft
        clear hft hx
        go_wp2
        go_roundw
        case rel =>
          refine ⟨i + 1, a ++ ⟨#[47]⟩ ++ s, by omega, by go_num, rfl, ?_, hide ?_, trivial⟩
          · simp only [ByteArray.size_append]
            have : (⟨#[47]⟩ : ByteArray).size = 1 := rfl
            omega
          · rw [HF.out, ← HA.out]
            simp [ByteArray.data_append]
        case measure => simp [intOf]; omega
      · have z1 : ¬ (i : Int) < (N : Int) := by omega
        have hE : a = ⟨R.toArray⟩ := by
          apply ba_eq
          rw [HA.out, List.take_of_length_le (by rw [← H.out.1]; omega), ← H.out.2.1]
        have HE := hide hE
        clear hE
        go_wp2
        go_ret
        exact ⟨by rw [HE.out]; rfl, rfl⟩

end Go.Proofs.YtpepgoelnagoaaaGreatDoor
