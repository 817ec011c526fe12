/-
  OPS, texts: cuts at a separator; an operation's text and a list's read back.
  OPS: the document's Form 15, FormAll 21, Wrong 19, Check 13.
  THE DOCUMENT's Join and Split: what they answer.
-/
import Derived.Test.YtpepgoelnagoaaaGreatDoorMg18
import Derived.Test.YtpepgoelnagoaaaGreatDoorMg12
import Derived.Test.YtpepgoelnagoaaaGreatDoorKiC
import Derived.Test.YtpepgoelnagoaaaGreatDoorMg6
import Derived.Test.YtpepgoelnagoaaaGreatDoorMg7
namespace Go.Proofs.YtpepgoelnagoaaaGreatDoor
open Go.RowKit Go.Shelf
set_option linter.unusedSimpArgs false
set_option linter.unusedVariables false

theorem index_at (a : UInt8) (t r : List UInt8) : ∀ (l : List UInt8), (∀ b ∈ l, b ≠ a) → Lib.index (l ++ (a :: t) ++ r) (a :: t) = l.length
  | [], _ => by
    show Lib.index (a :: (t ++ r)) (a :: t) = 0
    unfold Lib.index
    have : (a :: t).isPrefixOf (a :: (t ++ r)) = true := by
      rw [List.isPrefixOf_iff_prefix]
      exact ⟨r, by simp⟩
    rw [if_pos this]
  | b :: l, h => by
    have ih := index_at a t r l (fun x hx => h x (List.mem_cons_of_mem _ hx))
    have hb : b ≠ a := h b (by simp)
    show Lib.index (b :: (l ++ (a :: t) ++ r)) (a :: t) = _
    unfold Lib.index
    have : (a :: t).isPrefixOf (b :: (l ++ (a :: t) ++ r)) = false := by
      simp [List.isPrefixOf]
      intro e
      exact absurd e.symm hb
    rw [this, ih]
    simp
theorem index_no (a : UInt8) (t : List UInt8) : ∀ (l : List UInt8), (∀ b ∈ l, b ≠ a) → Lib.index l (a :: t) = -1
  | [], _ => rfl
  | b :: l, h => by
    have ih := index_no a t l (fun x hx => h x (List.mem_cons_of_mem _ hx))
    have hb : b ≠ a := h b (by simp)
    unfold Lib.index
    have : (a :: t).isPrefixOf (b :: l) = false := by
      simp [List.isPrefixOf]
      intro e
      exact absurd e.symm hb
    rw [this, ih]
    rfl
theorem cut_mid (a : UInt8) (t r l : List UInt8) (h : ∀ b ∈ l, b ≠ a) : Lib.cut (l ++ (a :: t) ++ r) (a :: t) = (l, r, true) := by
  unfold Lib.cut
  rw [index_at a t r l h, if_pos (by omega), Int.toNat_natCast]
  have h1 : (l ++ (a :: t) ++ r).take l.length = l := by rw [List.append_assoc]; exact List.take_left
  have h2 : (l ++ (a :: t) ++ r).drop (l.length + (a :: t).length) = r := by
    rw [← List.length_append]; exact List.drop_left
  rw [h1, h2]
theorem cut_end (a : UInt8) (t l : List UInt8) (h : ∀ b ∈ l, b ≠ a) : Lib.cut l (a :: t) = (l, [], false) := by
  unfold Lib.cut
  rw [index_no a t l h, if_neg (by omega)]
/-- Where pieces that are joined stand. -/
def qW (sg : List UInt8) (ws : List (List UInt8)) : Pz := if ws = [] then ⟨⟨#[]⟩, false⟩ else ⟨⟨(Lib.join ws sg).toArray⟩, true⟩
theorem join_cons (w v : List UInt8) (ws : List (List UInt8)) (sg : List UInt8) : Lib.join (w :: v :: ws) sg = w ++ sg ++ Lib.join (v :: ws) sg := by
  simp [Lib.join, List.intercalate, List.append_assoc]
theorem join_one (w sg : List UInt8) : Lib.join [w] sg = w := by simp [Lib.join, List.intercalate]
theorem nextW (a : UInt8) (t w : List UInt8) (ws : List (List UInt8)) (h : ∀ b ∈ w, b ≠ a) : nextP (a :: t) (qW (a :: t) (w :: ws)) = (⟨w.toArray⟩, true, qW (a :: t) ws) := by
  have hq : qW (a :: t) (w :: ws) = ⟨⟨(Lib.join (w :: ws) (a :: t)).toArray⟩, true⟩ := if_neg (by simp)
  rw [hq]
  unfold nextP
  rw [if_pos rfl]
  dsimp only
  cases ws with
  | nil =>
    have hc : Lib.cut (Lib.join [w] (a :: t)) (a :: t) = (w, [], false) := by rw [join_one]; exact cut_end a t w h
    show ((⟨(Lib.cut (Lib.join [w] (a :: t)) (a :: t)).1.toArray⟩ : ByteArray), true, (⟨⟨(Lib.cut (Lib.join [w] (a :: t)) (a :: t)).2.1.toArray⟩, (Lib.cut (Lib.join [w] (a :: t)) (a :: t)).2.2⟩ : Pz)) = _
    rw [hc]
    rfl
  | cons v ws =>
    have hc : Lib.cut (Lib.join (w :: v :: ws) (a :: t)) (a :: t) = (w, Lib.join (v :: ws) (a :: t), true) := by rw [join_cons]; exact cut_mid a t _ w h
    show ((⟨(Lib.cut (Lib.join (w :: v :: ws) (a :: t)) (a :: t)).1.toArray⟩ : ByteArray), true, (⟨⟨(Lib.cut (Lib.join (w :: v :: ws) (a :: t)) (a :: t)).2.1.toArray⟩, (Lib.cut (Lib.join (w :: v :: ws) (a :: t)) (a :: t)).2.2⟩ : Pz)) = _
    rw [hc]
    rfl
theorem ne32 {w : List UInt8} (h : ∀ b ∈ w, inWord b) : ∀ b ∈ w, b ≠ 32 := fun b hb e => (h b hb).1 (by rw [e]; rfl)
theorem doW_in (d : Int) (h1 : 1 ≤ d) (h7 : d ≤ 7) : (∀ b ∈ doW d, inWord b) ∧ Ki.ofWB Ki.doWs ⟨(doW d).toArray⟩ = (d, true) ∧ 3 ≤ (doW d).length := by
  have key : ∀ l : List UInt8, l.all (fun b => decide (b.toNat ≠ 32) && decide (b.toNat ≠ 59)) = true → ∀ b ∈ l, inWord b := fun l h b hb => by
    have := List.all_eq_true.1 h b hb
    simp only [Bool.and_eq_true, decide_eq_true_eq] at this
    exact this
  rcases (by omega : d = 1 ∨ d = 2 ∨ d = 3 ∨ d = 4 ∨ d = 5 ∨ d = 6 ∨ d = 7) with rfl | rfl | rfl | rfl | rfl | rfl | rfl <;>
    exact ⟨key _ (by kernel_rfl), by kernel_rfl, of_decide_eq_true (by kernel_rfl)⟩
def tailW (o : Od) : List (List UInt8) := if o.d = 1 then [decL o.n] else if o.d = 6 then [] else [wordB o.t.data.toList]
theorem rd3_text {o : Od} (ho : OkO o) : rd3 (spZ blankS) (qW [32] (txW o)) = ((o.d, o.p, o.s), 0, qW [32] (tailW o)) := by
  obtain ⟨hd, hof, -⟩ := doW_in o.d ho.d1 ho.d7
  have hb : blankS.data.toList = [32] := rfl
  obtain ⟨tail, htail⟩ : ∃ t, t = tailW o := ⟨_, rfl⟩
  have hw : txW o = doW o.d :: wordB (joinB o.p) :: wordB o.s.data.toList :: tail := by rw [htail]; rfl
  have e1 : fld (spZ blankS).pd 0 0 (qW [32] (txW o)) = (o.d, 0, qW [32] (wordB (joinB o.p) :: wordB o.s.data.toList :: tail)) := by
    show spD [32] (qW [32] (txW o)) = _
    unfold spD
    rw [hw, nextW 32 [] _ _ (ne32 hd)]
    dsimp only
    rw [hof]
    rfl
  have e2 : fld (spZ blankS).pp [] 0 (qW [32] (wordB (joinB o.p) :: wordB o.s.data.toList :: tail)) = (o.p, 0, qW [32] (wordB o.s.data.toList :: tail)) := by
    show spP [32] (qW [32] (wordB (joinB o.p) :: wordB o.s.data.toList :: tail)) = _
    unfold spP
    rw [nextW 32 [] _ _ (ne32 (word_in _))]
    dsimp only
    rw [unword_word]
    have hs : splitP (unP (some (joinB o.p))) = (o.p, 0) := by
      unfold splitP unP
      dsimp only
      rw [if_pos rfl]
      show (match splitB (joinB o.p) with | some L => (keysOf L, (0 : Int)) | none => ([], 4)) = _
      rw [split_join ho.path]
      dsimp only
      rw [keysOf_map]
    rw [hs]
  have e3 : fld (spZ blankS).pk ⟨#[]⟩ 0 (qW [32] (wordB o.s.data.toList :: tail)) = (o.s, 0, qW [32] tail) := by
    show spT [32] (qW [32] (wordB o.s.data.toList :: tail)) = _
    unfold spT
    rw [nextW 32 [] _ _ (ne32 (word_in _))]
    dsimp only
    rw [unword_word]
    rfl
  rw [← htail]
  unfold rd3
  rw [e1]
  dsimp only
  rw [e2]
  dsimp only
  rw [e3]
/-- An operation's words read back. -/
theorem rdO_text {o : Od} (ho : OkO o) (hn : I64 o.n) : rdO (spZ blankS) (qW [32] (txW o)) = (o, 0, qW [32] []) := by
  have h3 := rd3_text ho
  obtain ⟨tail, htail⟩ : ∃ t, t = tailW o := ⟨_, rfl⟩
  rw [← htail] at h3
  have h4 : rd4 (spZ blankS) o.d 0 (qW [32] tail) = ((o.n, o.t), 0, qW [32] []) := by
    unfold rd4
    rw [htail]
    unfold tailW
    by_cases h1 : o.d = 1
    · have e4 : fld (spZ blankS).pn 0 0 (qW [32] [decL o.n]) = (o.n, 0, qW [32] []) := by
        show spN [32] (qW [32] [decL o.n]) = _
        unfold spN
        rw [nextW 32 [] _ _ (ne32 (dec_in _))]
        dsimp only
        rw [numW_dec hn]
        rfl
      rw [if_pos h1, if_pos h1, e4, ho.add h1]
    · by_cases h6 : o.d = 6
      · rw [if_neg h1, if_pos h6, if_neg h1, if_pos h6, ho.num h1, ho.pop h6]
      · have e4 : fld (spZ blankS).pt ⟨#[]⟩ 0 (qW [32] [wordB o.t.data.toList]) = (o.t, 0, qW [32] []) := by
          show spT [32] (qW [32] [wordB o.t.data.toList]) = _
          unfold spT
          rw [nextW 32 [] _ _ (ne32 (word_in _))]
          dsimp only
          rw [unword_word]
          rfl
        rw [if_neg h1, if_neg h6, if_neg h1, if_neg h6, e4, ho.num h1]
  unfold rdO
  rw [h3]
  dsimp only
  rw [h4]
  dsimp only
  rw [← ho.kind]
theorem txW_ne (o : Od) : txW o ≠ [] := by unfold txW; simp
theorem qW_text (o : Od) : qW [32] (txW o) = ⟨⟨(txO o).toArray⟩, true⟩ := if_neg (txW_ne o)
theorem parseS_text {o : Od} (hc : chkO o = 0) (hn : I64 o.n) : parseS ⟨(txO o).toArray⟩ = (o, 0) := by
  have h := rdO_text (ok_of hc) hn
  rw [qW_text] at h
  unfold parseS
  rw [h]
  have hq : (nextP [32] (qW [32] [])).2.1 = false := rfl
  rw [hq, if_neg (by simp)]
  unfold readS
  rw [h]
  dsimp only
  rw [if_pos ⟨rfl, hc⟩]
end Go.Proofs.YtpepgoelnagoaaaGreatDoor
namespace Go.Proofs.YtpepgoelnagoaaaGreatDoor
open Go.RowKit Go.Shelf
set_option linter.unusedSimpArgs false
set_option linter.unusedVariables false
attribute [local go_sem] Oper.semAt_some

theorem refChk_any {w : World} {pa : Option Addr} {pc : Nat} (o : Od) (h : Rs w pa o.p) : Calls Tryz.prog 13 #[odv pa o.p.length pc o] w fun e w' => e = .returned (.int .i64 (chkO o)) ∧ Below w.heap.size w w' :=
  Ki.refCheck_any o.k o.s o.d o.n o.t h

set_option maxHeartbeats 2000000 in
set_option maxRecDepth 100000 in
theorem wrong19_any (ao : Option Addr) (cap : Nat) (ps : List Od) (w : World) (hr : Rq w ao ps) (hlen : ps.length ≤ 100000000) :
    Calls Tryz.prog 19 #[.slice ao ps.length cap] w fun e w' => e = .returned (.int .i64 (wrongL ps)) ∧ Below w.heap.size w w' := by
  go_enter Tryz.func19, Tryz.ntmps19
  go_wp2
  go_loopw [3] (fun i wr => ∃ (k : Nat), k ≤ ps.length ∧ i = .int .i64 k ∧ Hid (∀ j o, j < k → ps[j]? = some o → chkO o = 0) ∧ Hid (Below w.heap.size w wr))
    (fun i _ => ps.length - (intOf i).toNat)
  case atStart => exact ⟨0, Nat.zero_le _, rfl, hide (fun j o h => by omega), hide (Below.refl _ _)⟩
  case round =>
    obtain ⟨k, hk, rfl, HA, HB⟩ := hrel
    by_cases hlt : k < ps.length
    · obtain ⟨x, hx⟩ : ∃ q, ps[k]? = some q := ⟨_, List.getElem?_eq_getElem hlt⟩
      obtain ⟨ab, aoff, pa, pc, rfl, hp, c0, c1, c2, c3, c4, c5⟩ := (hr.below HB.out) k x hx
      have HX := hide hx
      clear hx
      have k13 := refChk_any (w := wr) (pc := pc) x hp.rs
      obtain ⟨v, hv⟩ : ∃ q, q = chkO x := ⟨_, rfl⟩
      rw [← hv] at k13
      have HV := hide hv
      clear hv
      have HX2 := hide (And.intro HX HV)
      clear HX HV
      obtain ⟨xp, xk, xs, xd, xn, xt⟩ := x
      dsimp only at c0 c1 c2 c3 c4 c5 k13 hp
      generalize xp.length = N at c0 k13
      clear hp
      by_cases hv0 : v = 0
      · subst hv0
        go_wp2_with (go_at_call 13; refine k13.mono ?_; rintro e w2 ⟨rfl, hb2⟩; have HB2 := hide hb2; clear hb2)
        go_roundw
        case rel => exact ⟨k + 1, by omega, by go_num, hide (fun j o hj ho => by
            by_cases hjk : j < k
            · exact HA.out j o hjk ho
            · have : j = k := by omega
              subst this
              rw [HX2.out.1.out] at ho
              cases ho
              exact HX2.out.2.out.symm), hide (HB.out.trans (HB2.out.mono HB.out.size))⟩
        case measure => simp [intOf]; omega
      · have hv1 : (v != 0) = true := by simpa using hv0
        go_wp2_with (go_at_call 13; refine k13.mono ?_; rintro e w2 ⟨rfl, hb2⟩; have HB2 := hide hb2; clear hb2)
        go_ret
        exact ⟨(by rw [find_all HA.out HX2.out.1.out (by rw [← HX2.out.2.out]; exact hv0), ← HX2.out.2.out]; rfl), HB.out.trans (HB2.out.mono HB.out.size)⟩
    · have hw : wrongL ps = if 64 < ps.length then 3 else 0 := find_not (fun j o hj ho => HA.out j o (by omega) ho)
      have HH := hide hw
      clear hw
      by_cases h64 : 64 < ps.length
      · have h64' : (64 : Int) < (ps.length : Int) := by omega
        go_wp2
        go_ret
        exact ⟨(by rw [HH.out, if_pos h64]; rfl), HB.out⟩
      · have h64' : ¬ (64 : Int) < (ps.length : Int) := by omega
        go_wp2
        go_ret
        exact ⟨(by rw [HH.out, if_neg h64]; rfl), HB.out⟩

/-- What bytes are laid behind others: where they then lie, under a letter. -/
theorem app_let {w : World} {B : Nat} {p l : List Int} {ao a : Option Addr} {c cp : Nat} (hown : Own 5 w B (.slice a p.length cp) p) (hc : ao = none → c = 0) (hrd : Rd w ao l) (hbytes : p.length + l.length ≤ 140737488355328) (hB : B ≤ w.heap.size) :
    ∃ q a' c' w', q = p ++ l ∧ (Builtin.append_ #[26, 26] 26 #[.slice a p.length cp, .slice ao l.length c]).run Tryz.prog w = .ok (.slice a' q.length c') w' ∧ Own 5 w' B (.slice a' q.length c') q ∧ (a' = none → c' = 0) ∧ Below B w w' := by
  obtain ⟨a', c', w', h1, h2, h3, h4⟩ := app_own hown hc hrd hbytes hB
  exact ⟨_, a', c', w', rfl, h1, h2, h3, h4⟩

set_option maxHeartbeats 8000000 in
set_option maxRecDepth 100000 in
theorem refForm_any {w : World} {pa : Option Addr} {pc : Nat} (o : Od) (h : Ki.Rp w pa pc o.p) (ho : OkO o) (hn : I64 o.n) : Calls Tryz.prog 15 #[odv pa o.p.length pc o] w fun e w' => Made 5 w w' e (frO o) := by
  obtain ⟨p, k, s, d, n, t⟩ := o
  have hps := ho.psz
  have hss := ho.ssz
  have htt := ho.text
  have hd1 := ho.d1
  have hd7 := ho.d7
  dsimp only at hps hss htt hd1 hd7 h hn
  have hN6 : p.length ≤ 6 := hps.1
  obtain ⟨w0, hw0⟩ : ∃ q, q = w.alloc (.cells (odC pa p.length pc ⟨p, k, s, d, n, t⟩) 34) := ⟨_, rfl⟩
  have d0 : Below w.heap.size w w0 := by rw [hw0]; exact (Below.refl _ w).alloc (Nat.le_refl _) _
  obtain ⟨Sb, hSb⟩ : ∃ q, q = w.heap.size := ⟨_, rfl⟩
  have m0 := op6_new w pa p.length pc ⟨p, k, s, d, n, t⟩
  rw [← hw0, ← hSb] at m0
  have HS : Hid (∀ W, Below w0.heap.size w0 W → Op6 W Sb pa p.length pc ⟨p, k, s, d, n, t⟩ ∧ Rs W pa p) := hide (fun W hW => ⟨op6_of ((hW.block _ (Array.getElem?_eq_some_iff.1 m0).1).trans m0), (h.rs.below d0).below hW⟩)
  have HW := hide (And.intro hw0 (And.intro hSb d0))
  have wr : IntKind.u64.wrap d = d := by rw [IntKind.wrap_u64]; omega
  have k53 := fun W => refNumber_int d W (by omega) (by omega)
  have l53 := Plain.numL_ten d.toNat (by omega)
  have k53' := fun W => refNumber_any p.length W (by omega)
  have l53' := Plain.numL_ten p.length (by omega)
  have HF : Hid (frO ⟨p, k, s, d, n, t⟩ = Plain.numL d.toNat ++ (Plain.numL p.length ++ p.flatMap frB) ++ frB s ++ frN ⟨p, k, s, d, n, t⟩) := hide rfl
  obtain ⟨X, hX⟩ : ∃ q, q = frO ⟨p, k, s, d, n, t⟩ := ⟨_, rfl⟩
  rw [← hX] at HF ⊢
  obtain ⟨L1, hL1⟩ : ∃ q, q = Plain.numL d.toNat := ⟨_, rfl⟩
  rw [← hL1] at k53 l53 HF
  obtain ⟨L2, hL2⟩ : ∃ q, q = Plain.numL p.length := ⟨_, rfl⟩
  rw [← hL2] at k53' l53' HF
  have HO := hide (And.intro ho (And.intro hn hps))
  clear hX hL1 hL2 ho hn hps m0 hSb hw0 d0 h hd1 hd7
  go_enter Tryz.func15, Tryz.ntmps15
  go_upto_region 1 with fail
  rw [← HW.out.1, ← HW.out.2.1]
  obtain ⟨⟨x0, x1, x2, x3, x4, x5⟩, -⟩ := HS.out w0 (Below.refl _ _)
  dsimp only at x0 x1 x2 x3 x4 x5
  go_upto_region 2 with (go_at_call 53; refine (k53 _).mono ?_; rintro e w1 ⟨a1, c1, rfl, O1, n1, b1⟩; have H1 := hide (And.intro O1 b1); clear O1 b1 k53 x0 x1 x2 x3 x4 x5; obtain ⟨⟨x0, x1, x2, x3, x4, x5⟩, -⟩ := HS.out w1 H1.out.2; dsimp only at x0 x1 x2 x3 x4 x5)
  have hpl : (p.length : Int) = p.length := rfl
  go_upto_region 3 with (first
    | (at_builtin; refine wpList_turn (OP := .call { callee := .builtin .append, args := #[.tmp 9, .tmp 14], argTypes := #[26, 26] }) (T := 26) rfl rfl rfl (exec_append rfl rfl hr3) ?_; clear hr3)
    | (go_at_call 53; refine (k53' _).mono ?_; rintro e w2 ⟨a2, c2, rfl, O2, n2, b2⟩; obtain ⟨P3, a3, c3, w3, hP3, hr3, O3, n3, b3⟩ := app_let (H1.out.1.below b2) n2 O2.rd (by omega) (Nat.le_trans H1.out.2.size b2.size); have B3 : Below w0.heap.size w0 w3 := (H1.out.2.trans (b2.mono H1.out.2.size)).trans b3; have H3 := hide (And.intro hP3 (And.intro O3 B3)); clear O2 b2 hP3 O3 b3 k53' x0 x1 x2 x3 x4 x5; obtain ⟨⟨x0, x1, x2, x3, x4, x5⟩, -⟩ := HS.out w3 B3; dsimp only at x0 x1 x2 x3 x4 x5; clear B3))
  go_wp2
  go_loopw [3, 4] (fun v3 v4 wr => ∃ (j : Nat) (P : List Int) (a : Option Addr) (c : Nat), j ≤ p.length ∧ v4 = .int .i64 (j : Nat) ∧ v3 = .slice a P.length c ∧ Hid (P = P3 ++ (p.take j).flatMap frB) ∧ Hid (Own 5 wr w0.heap.size (.slice a P.length c) P) ∧ (a = none → c = 0) ∧ Hid (Below w0.heap.size w0 wr))
    (fun _ v4 _ => p.length - (intOf v4).toNat)
  case atStart => exact ⟨0, P3, a3, c3, Nat.zero_le _, rfl, rfl, hide (by simp), hide H3.out.2.1, n3, hide H3.out.2.2⟩
  case round =>
    obtain ⟨j, P, a, c, hj, rfl, rfl, HP, HOw, hnil, HB⟩ := hrel
    clear x0 x1 x2 x3 x4 x5
    obtain ⟨⟨x0, x1, x2, x3, x4, x5⟩, hrs⟩ := HS.out wr HB.out
    dsimp only at x0 x1 x2 x3 x4 x5
    have hPl : P.length ≤ 1000 := by
      rw [HP.out, List.length_append, H3.out.1, List.length_append]
      have h1 := flat_len (f := frB) (l := p.take j) (B := 74) (fun x hx => by
        have h2 := HO.out.2.2.2 x (List.mem_of_mem_take hx)
        have := frB_len x (by omega)
        omega)
      rw [List.length_take] at h1
      have : 74 * min j p.length ≤ 74 * 6 := Nat.mul_le_mul_left _ (by omega)
      omega
    by_cases hlt : j < p.length
    · obtain ⟨x, hx⟩ : ∃ q, p[j]? = some q := ⟨_, List.getElem?_eq_getElem hlt⟩
      have hxs := HO.out.2.2.2 x (List.mem_of_getElem? hx)
      obtain ⟨ab, aoff, rfl, e0⟩ := hrs.at hx
      obtain ⟨cc, Wc, hcv, hRc, bc⟩ := conv_str x wr
      have k54 := refBytes_any (some ⟨wr.heap.size, 0, none⟩) cc (ints x.data.toList) Wc hRc (by intro e; cases e) (by rw [ints_size]; omega)
      rw [ints_size] at k54
      replace k54 : Calls Tryz.prog 54 #[.slice (some ⟨wr.heap.size, 0, none⟩) x.size cc] Wc fun e w' => Made 5 Wc w' e (frB x) := k54
      have hfl := frB_len x (by omega)
      obtain ⟨M, hM⟩ : ∃ q, q = frB x := ⟨_, rfl⟩
      rw [← hM] at k54 hfl
      have HX := hide (And.intro hx (And.intro hM (And.intro bc hrs)))
      clear hx hM bc hRc hrs
      have hMl : M.length ≤ 100 := by omega
      clear hfl
      go_wp2_with (first
        | (at_builtin; refine wpList_turn (OP := .call { callee := .builtin .append, args := #[.tmp 23, .tmp 30], argTypes := #[26, 26] }) (T := 26) rfl rfl rfl (exec_append rfl rfl hr6) ?_; clear hr6)
        | (go_at_call 54; refine k54.mono ?_; rintro e w5 ⟨a5, c5, rfl, O5, n5, b5⟩; have b15 : Below wr.heap.size wr w5 := HX.out.2.2.1.trans (b5.mono HX.out.2.2.1.size); obtain ⟨P6, a6, c6, w6, hP6, hr6, O6, n6, b6⟩ := app_let (HOw.out.below b15) n5 O5.rd (by omega) (Nat.le_trans HB.out.size b15.size); have H6 := hide (And.intro hP6 (And.intro O6 ((HB.out.trans (b15.mono HB.out.size)).trans b6))); clear O5 b5 hP6 O6 b6 b15 k54 x0 x1 x2 x3 x4 x5 e0)
        | (refine wpList_turn (OP := .convert 9 26 (.tmp 28)) (T := 26) rfl rfl rfl (exec_conv rfl hcv) ?_; clear hcv))
      go_roundw
      case rel => exact ⟨j + 1, P6, a6, c6, by omega, by go_num, rfl, hide (by rw [H6.out.1, HP.out, flatF_snoc frB p j x HX.out.1, HX.out.2.1, List.append_assoc]), hide H6.out.2.1, n6, hide H6.out.2.2⟩
      case measure => simp [intOf]; omega
    · have hPj : P = P3 ++ p.flatMap frB := by rw [HP.out, List.take_of_length_le (by omega)]
      have HPJ := hide hPj
      clear hPj HP hrs
      obtain ⟨cc, Wc, hcv, hRc, bc⟩ := conv_str s wr
      have k54 := refBytes_any (some ⟨wr.heap.size, 0, none⟩) cc (ints s.data.toList) Wc hRc (by intro e; cases e) (by rw [ints_size]; omega)
      rw [ints_size] at k54
      replace k54 : Calls Tryz.prog 54 #[.slice (some ⟨wr.heap.size, 0, none⟩) s.size cc] Wc fun e w' => Made 5 Wc w' e (frB s) := k54
      have hfl := frB_len s (by omega)
      obtain ⟨M, hM⟩ : ∃ q, q = frB s := ⟨_, rfl⟩
      rw [← hM] at k54 hfl HF
      have HX := hide bc
      clear hM bc hRc
      have hMl : M.length ≤ 100 := by omega
      clear hfl
      have hzz : ¬ (j : Int) < (p.length : Int) := by omega
      go_upto_region 8 with (first
        | (at_builtin; refine wpList_turn (OP := .call { callee := .builtin .append, args := #[.tmp 32, .tmp 36], argTypes := #[26, 26] }) (T := 26) rfl rfl rfl (exec_append rfl rfl hr6) ?_; clear hr6)
        | (go_at_call 54; refine k54.mono ?_; rintro e w5 ⟨a5, c5, rfl, O5, n5, b5⟩; have b15 : Below wr.heap.size wr w5 := HX.out.trans (b5.mono HX.out.size); obtain ⟨P6, a6, c6, w6, hP6, hr6, O6, n6, b6⟩ := app_let (HOw.out.below b15) n5 O5.rd (by omega) (Nat.le_trans HB.out.size b15.size); have B6 := (HB.out.trans (b15.mono HB.out.size)).trans b6; have l6 : P6.length ≤ 1100 := (by rw [hP6, List.length_append]; omega); have H6 := hide (And.intro hP6 (And.intro O6 B6)); clear O5 b5 hP6 O6 b6 b15 k54 x0 x1 x2 x3 x4 x5; obtain ⟨⟨x0, x1, x2, x3, x4, x5⟩, -⟩ := HS.out w6 B6; dsimp only at x0 x1 x2 x3 x4 x5; clear B6)
        | (refine wpList_turn (OP := .convert 9 26 (.tmp 34)) (T := 26) rfl rfl rfl (exec_conv rfl hcv) ?_; clear hcv))
      have hXX : X = P6 ++ frN ⟨p, k, s, d, n, t⟩ := by rw [HF.out, H6.out.1, HPJ.out, H3.out.1]; simp only [List.append_assoc]
      have HXX := hide hXX
      have hnn : I64 n := HO.out.2.1
      clear hXX HPJ HF H3 HOw HB hPl hzz
      have hfn : frN ⟨p, k, s, d, n, t⟩ = if d = 1 then Plain.numL (Plain.fold n) else if d = 6 then [] else frB t := rfl
      by_cases h1 : d = 1
      · subst h1
        rw [if_pos rfl] at hfn
        rw [hfn] at HXX
        have k55 := refSigned_any n w6 hnn.1 hnn.2
        have l55 := Plain.numL_ten (Plain.fold n) (Plain.fold_lt n hnn.1 hnn.2)
        obtain ⟨M2, hM2⟩ : ∃ q, q = Plain.numL (Plain.fold n) := ⟨_, rfl⟩
        rw [← hM2] at k55 l55 HXX
        clear hfn hM2 hnn
        go_wp2_with (first
          | (at_builtin; refine wpList_turn (OP := .call { callee := .builtin .append, args := #[.tmp 42, .tmp 45], argTypes := #[26, 26] }) (T := 26) rfl rfl rfl (exec_append rfl rfl hr8) ?_; clear hr8)
          | (go_at_call 55; refine k55.mono ?_; rintro e w7 ⟨a7, c7, rfl, O7, n7, b7⟩; obtain ⟨P8, a8, c8, w8, hP8, hr8, O8, n8, b8⟩ := app_let (H6.out.2.1.below b7) n7 O7.rd (by omega) (Nat.le_trans H6.out.2.2.size b7.size); have H8 := hide (And.intro hP8 (And.intro O8 ((H6.out.2.2.trans (b7.mono H6.out.2.2.size)).trans b8))); clear O7 b7 hP8 O8 b8 k55 x0 x1 x2 x3 x4 x5))
        go_ret
        have he : X = P8 := by rw [HXX.out, H8.out.1]
        subst he
        exact ⟨a8, c8, rfl, H8.out.2.1.lift HW.out.2.2.size, n8, HW.out.2.2.trans (H8.out.2.2.mono HW.out.2.2.size)⟩
      have e1 : (d == 1) = false := by simpa using h1
      rw [if_neg h1] at hfn
      by_cases h6 : d = 6
      · subst h6
        rw [if_pos rfl] at hfn
        rw [hfn, List.append_nil] at HXX
        clear hfn hnn
        go_wp2
        go_ret
        have he : X = P6 := HXX.out
        subst he
        exact ⟨a6, c6, rfl, H6.out.2.1.lift HW.out.2.2.size, n6, HW.out.2.2.trans (H6.out.2.2.mono HW.out.2.2.size)⟩
      have e6 : (d == 6) = false := by simpa using h6
      rw [if_neg h6] at hfn
      rw [hfn] at HXX
      obtain ⟨cd, Wd, hcd, hRd, bd⟩ := conv_str t w6
      have k54 := refBytes_any (some ⟨w6.heap.size, 0, none⟩) cd (ints t.data.toList) Wd hRd (by intro e; cases e) (by rw [ints_size]; omega)
      rw [ints_size] at k54
      replace k54 : Calls Tryz.prog 54 #[.slice (some ⟨w6.heap.size, 0, none⟩) t.size cd] Wd fun e w' => Made 5 Wd w' e (frB t) := k54
      have hfl := frB_len t (by omega)
      obtain ⟨M2, hM2⟩ : ∃ q, q = frB t := ⟨_, rfl⟩
      rw [← hM2] at k54 hfl HXX
      have HX2 := hide bd
      have hM2l : M2.length ≤ 300 := by omega
      clear hM2 bd hRd hfn hnn hfl
      go_wp2_with (first
        | (at_builtin; refine wpList_turn (OP := .call { callee := .builtin .append, args := #[.tmp 50, .tmp 54], argTypes := #[26, 26] }) (T := 26) rfl rfl rfl (exec_append rfl rfl hr8) ?_; clear hr8)
        | (go_at_call 54; refine k54.mono ?_; rintro e w7 ⟨a7, c7, rfl, O7, n7, b7⟩; have b17 : Below w6.heap.size w6 w7 := HX2.out.trans (b7.mono HX2.out.size); obtain ⟨P8, a8, c8, w8, hP8, hr8, O8, n8, b8⟩ := app_let (H6.out.2.1.below b17) n7 O7.rd (by omega) (Nat.le_trans H6.out.2.2.size b17.size); have H8 := hide (And.intro hP8 (And.intro O8 ((H6.out.2.2.trans (b17.mono H6.out.2.2.size)).trans b8))); clear O7 b7 hP8 O8 b8 b17 k54 x0 x1 x2 x3 x4 x5)
        | (refine wpList_turn (OP := .convert 9 26 (.tmp 52)) (T := 26) rfl rfl rfl (exec_conv rfl hcd) ?_; clear hcd))
      go_ret
      have he : X = P8 := by rw [HXX.out, H8.out.1]
      subst he
      exact ⟨a8, c8, rfl, H8.out.2.1.lift HW.out.2.2.size, n8, HW.out.2.2.trans (H8.out.2.2.mono HW.out.2.2.size)⟩
end Go.Proofs.YtpepgoelnagoaaaGreatDoor
namespace Go.Proofs.YtpepgoelnagoaaaGreatDoor
open Go.RowKit Go.Shelf
set_option linter.unusedSimpArgs false

set_option maxHeartbeats 1000000 in
set_option maxRecDepth 100000 in
theorem refJoin_any {w : World} {ao : Option Addr} {c : Nat} {l : List ByteArray} (h : Rs w ao l) (hp : pathB l = true) : Calls Tryz.prog 58 #[.slice ao l.length c] w fun e w' => e = .returned (.string ⟨(joinB l).toArray⟩) ∧ w' = w := by
  obtain ⟨h6, h64⟩ := path_sizes hp
  unfold joinB
  obtain ⟨N, hN⟩ : ∃ N, N = l.length := ⟨_, rfl⟩
  rw [← hN] at h6 ⊢
  by_cases h0 : l = []
  · subst h0
    subst hN
    rw [if_pos rfl]
    go_enter Tryz.func58, Tryz.ntmps58
    go_wp2
    go_ret
    exact ⟨rfl, rfl⟩
  · rw [if_neg h0]
    have hN0 : N ≠ 0 := fun e => h0 (List.eq_nil_of_length_eq_zero (by omega))
    have z0 : ((N : Int) == 0) = false := by rw [beq_eq_false_iff_ne]; omega
    obtain ⟨R, hR⟩ : ∃ R, R = l.flatMap (fun s => 47 :: s.data.toList) := ⟨_, rfl⟩
    rw [← hR]
    have H := hide (And.intro hN (And.intro hR h64))
    clear hN hR h0 h64
    go_enter Tryz.func58, Tryz.ntmps58
    go_wp2
    go_loopw [3, 4] (fun v3 v4 wr => ∃ (i : Nat) (a : ByteArray), i ≤ N ∧ v4 = .int .i64 i ∧ v3 = .string a ∧ a.size ≤ 65 * i ∧ Hid (a.data.toList = (l.take i).flatMap (fun s => 47 :: s.data.toList)) ∧ wr = w) (fun _ v4 _ => N - (intOf v4).toNat)
    case atStart => exact ⟨0, _, by omega, rfl, rfl, by simp [ByteArray.size], hide (by simp), rfl⟩
    case round =>
      obtain ⟨i, a, hi, rfl, rfl, ha, HA, rfl⟩ := hrel
      by_cases hc : i < N
      · have z1 : (i : Int) < (N : Int) := by omega
        have hx : l[i]? = some (l[i]'(by rw [← H.out.1]; exact hc)) := List.getElem?_eq_getElem _
        generalize l[i]'(by rw [← H.out.1]; exact hc) = s at hx
        have hft := flatJ_take l i s hx
        have hs64 := H.out.2.2 s (List.mem_of_getElem? hx)
        obtain ⟨g, off, rfl, hcx⟩ := h.at hx
        have HF := hide hft
        clear hft hx
        go_wp2
        go_roundw
        case rel =>
          refine ⟨i + 1, a ++ ⟨#[47]⟩ ++ s, by omega, by go_num, rfl, ?_, hide ?_, trivial⟩
          · simp only [ByteArray.size_append]
            have : (⟨#[47]⟩ : ByteArray).size = 1 := rfl
            omega
          · rw [HF.out, ← HA.out]
            simp [ByteArray.data_append]
        case measure => simp [intOf]; omega
      · have z1 : ¬ (i : Int) < (N : Int) := by omega
        have hE : a = ⟨R.toArray⟩ := by
          apply ba_eq
          rw [HA.out, List.take_of_length_le (by rw [← H.out.1]; omega), ← H.out.2.1]
        have HE := hide hE
        clear hE
        go_wp2
        go_ret
        exact ⟨by rw [HE.out]; rfl, rfl⟩

theorem ext_mid (s : ByteArray) (a i : Nat) : s.extract a i = ⟨((s.data.toList.drop a).take (i - a)).toArray⟩ := by
  apply ByteArray.ext
  apply Array.toList_inj.1
  simp [ByteArray.data_extract, List.drop_take]
theorem keysOf_snoc (acc : List (List UInt8)) (k : List UInt8) : keysOf (acc ++ [k]) = keysOf acc ++ [⟨k.toArray⟩] := by simp [keysOf]
theorem keysOf_length (acc : List (List UInt8)) : (keysOf acc).length = acc.length := by simp [keysOf]
theorem pieces_ne (cur l : List UInt8) : pieces cur l ≠ [] := by
  rw [pieces_cut]
  split <;> simp
theorem cur_next (s : ByteArray) (a i : Nat) (h : a ≤ i) (hi : i < s.size) : (s.data.toList.drop a).take (i + 1 - a) = (s.data.toList.drop a).take (i - a) ++ [s[i]'hi] := by
  have hl : s.data.toList.length = s.size := (Lib.size_eq s).symm
  rw [show i + 1 - a = i - a + 1 by omega, List.take_add_one, List.getElem?_drop, show a + (i - a) = i by omega, List.getElem?_eq_getElem (by omega)]
  simp only [Option.toList_some]
  congr 2

set_option maxHeartbeats 2000000 in
set_option maxRecDepth 100000 in
theorem refSplit_any (s : ByteArray) (w : World) (hs : s.size ≤ 1000000) : Calls Tryz.prog 79 #[.string s] w fun e w' => SplitE w w' (splitB s.data.toList) e ∧ Below w.heap.size w w' := by
  obtain ⟨i0, hi, hz0, hz1, hz2⟩ := info_parts Tryz.info9
  have hl : s.data.toList.length = s.size := (Lib.size_eq s).symm
  by_cases h47 : s.data.toList = [47]
  · have : s = ⟨#[47]⟩ := by
      apply ByteArray.ext
      apply Array.toList_inj.1
      exact h47
    subst this
    go_enter Tryz.func79, Tryz.ntmps79
    go_wp2
    go_ret2
    exact ⟨.inr ⟨[], _, rfl, rfl, Os.nil _ _⟩, Below.refl _ _⟩
  · have b2 : (s.toList == [47]) = false := by rw [beq_eq_false_iff_ne, ByteArray.toList_eq]; exact h47
    by_cases h0 : s.size = 0
    · obtain rfl : s = ⟨#[]⟩ := by
        apply ByteArray.ext
        exact Array.eq_empty_of_size_eq_zero h0
      go_enter Tryz.func79, Tryz.ntmps79
      go_wp2
      go_loopw [4, 6] (fun v4 v6 wr => v4 = .slice none 0 0 ∧ v6 = .int .i64 1 ∧ wr = w) (fun _ _ _ => 0)
      case atStart => exact ⟨rfl, rfl, rfl⟩
      case round =>
        obtain ⟨rfl, rfl, rfl⟩ := hrel
        go_wp2
        go_ret2
        exact ⟨.inl ⟨rfl, rfl⟩, Below.refl _ _⟩
    · obtain ⟨F, hF⟩ : ∃ F, F = pieces [] (s.data.toList.drop 1) := ⟨_, rfl⟩
      have hsp := refSplit_eq s.data.toList h47
      rw [← hF] at hsp
      have HF := hide (And.intro hF hsp)
      clear hF hsp h47
      go_enter Tryz.func79, Tryz.ntmps79
      go_wp2
      go_loopw [4, 5, 6] (fun v4 v5 v6 wr => ∃ (i at' : Nat) (acc : List (List UInt8)), v5 = .int .i64 at' ∧ v6 = .int .i64 i ∧ i ≤ s.size + 1 ∧ at' ≤ i + 1 ∧ acc.length ≤ 7 ∧ Hid (Os wr w.heap.size v4 (keysOf acc)) ∧ Hid ((i ≤ s.size ∧ at' ≤ i ∧ acc ++ pieces ((s.data.toList.drop at').take (i - at')) (s.data.toList.drop i) = F) ∨ (i = s.size + 1 ∧ acc = F)) ∧ Hid (Below w.heap.size w wr)) (fun _ _ v6 _ => s.size + 1 - (intOf v6).toNat)
      case atStart => exact ⟨1, 1, [], rfl, rfl, by omega, by omega, by simp, hide (Os.nil _ _), hide (.inl ⟨by omega, by omega, by rw [HF.out.1]; simp⟩), hide (Below.refl _ _)⟩
      case round =>
        obtain ⟨i, at', acc, rfl, rfl, his, hat, hacc, HO, HP, HW⟩ := hrel
        obtain ⟨ao, cc, hv4, -, -, -, -⟩ := HO.out.shape
        rw [keysOf_length] at hv4
        subst hv4
        have hsz := HW.out.size
        by_cases hgo : i ≤ s.size ∧ acc.length ≤ 6
        · obtain ⟨g1, g2⟩ := hgo
          have z1 : (i : Int) ≤ (s.size : Int) := by omega
          have z2 : (acc.length : Int) ≤ 6 := by omega
          obtain ⟨-, hai, hpc⟩ : i ≤ s.size ∧ at' ≤ i ∧ acc ++ pieces ((s.data.toList.drop at').take (i - at')) (s.data.toList.drop i) = F := by
            rcases HP.out with h | h
            · exact h
            · omega
          have a1 : (0 : Int) ≤ (at' : Int) := by omega
          have a2 : (at' : Int) ≤ (i : Int) := by omega
          have hext := ext_mid s at' i
          obtain ⟨cur, hcur⟩ : ∃ cur, cur = (s.data.toList.drop at').take (i - at') := ⟨_, rfl⟩
          rw [← hcur] at hext hpc
          have HX := hide (And.intro hpc hcur)
          clear hpc hcur HP
          have hO := HO.out
          have q1 : ∀ (j : Nat) (u : Value), [Value.string ⟨cur.toArray⟩][j]? = some u → (wr.alloc (.cells #[.string ⟨cur.toArray⟩] 9)).cell? ((⟨wr.heap.size, 0, none⟩ : Addr).add j) = some u := fun j u hj => by
            match j, hj with
            | 0, hj => simp at hj; subst hj; simp [Addr.add]
          have HQ := hide (And.intro q1 (show (keysOf acc).length + 1 ≤ maxLen ∧ ((keysOf acc).length + 1) * 16 ≤ 140737488355328 by unfold maxLen; rw [keysOf_length]; omega))
          clear q1
          by_cases hend : i = s.size
          · have hE : acc ++ [cur] = F := by
              have := HX.out.1
              rw [List.drop_eq_nil_of_le (by omega), pieces] at this
              exact this
            have HE := hide hE
            clear hE
            subst hend
            go_wp2_with (at_builtin; refine wpList_append_own _ rfl _ _ 30 rfl w.heap.size 9 i0 (.string ⟨#[]⟩) 1 16 Tryz.underlying30 hi hz0 hz1 hz2 rfl (by decide) _ _ _ rfl (World.ownsRow.alloc hO (.cells #[.string ⟨cur.toArray⟩] 9)) ⟨wr.heap.size, 0, none⟩ 1 1 [.string ⟨cur.toArray⟩] rfl rfl HQ.out.1 (fun u hu => by simp at hu; subst hu; rfl) HQ.out.2.1 HQ.out.2.2 (Nat.le_trans hsz (by simp)) ?_)
            intro v2 w9 hown9 hg9 _
            have hO9 : Os w9 w.heap.size v2 (keysOf (acc ++ [cur])) := by
              rw [keysOf_snoc]
              unfold Os
              rw [List.length_append, List.map_append]
              exact hown9
            have hB9 : Below w.heap.size w w9 := (HW.out.alloc hsz _).grown hg9 (by simp; omega) (fun j hj => (World.ownsRow.lt hO j hj).1)
            obtain ⟨a9, c9, hv9, -, -, -, -⟩ := hO9.shape
            rw [keysOf_length] at hv9
            subst hv9
            have H9 := hide (And.intro hO9 hB9)
            clear hO9 hB9 hown9 hg9 hO
            go_wp2
            go_roundw
            case rel => exact ⟨s.size + 1, s.size + 1, acc ++ [cur], by go_num, by go_num, by omega, by omega, by simp; omega, hide H9.out.1, hide (.inr ⟨rfl, HE.out⟩), hide H9.out.2⟩
            case measure => simp [intOf]
          · have hlt : i < s.size := by omega
            have z3 : ((i : Int) == (s.size : Int)) = false := by rw [beq_eq_false_iff_ne]; omega
            obtain ⟨X, hX, x0, x1, ix⟩ := at_string s i hlt
            obtain ⟨tl, hu, he, hq⟩ := rune1_cons s i hlt
            by_cases g47 : X = 47
            · subst g47
              have hs47 : s[i]'hlt = 47 := by
                apply UInt8.toNat_inj.1
                have : (47 : UInt8).toNat = 47 := rfl
                omega
              have hE : (acc ++ [cur]) ++ pieces [] (s.data.toList.drop (i + 1)) = F := by
                have := HX.out.1
                rw [he, hs47, pieces, if_pos rfl, ← hu] at this
                rw [← this]
                simp
              have HE := hide hE
              clear hE hs47 hX hu he hq
              go_wp2_with (at_builtin; refine wpList_append_own _ rfl _ _ 30 rfl w.heap.size 9 i0 (.string ⟨#[]⟩) 1 16 Tryz.underlying30 hi hz0 hz1 hz2 rfl (by decide) _ _ _ rfl (World.ownsRow.alloc hO (.cells #[.string ⟨cur.toArray⟩] 9)) ⟨wr.heap.size, 0, none⟩ 1 1 [.string ⟨cur.toArray⟩] rfl rfl HQ.out.1 (fun u hu => by simp at hu; subst hu; rfl) HQ.out.2.1 HQ.out.2.2 (Nat.le_trans hsz (by simp)) ?_)
              intro v2 w9 hown9 hg9 _
              have hO9 : Os w9 w.heap.size v2 (keysOf (acc ++ [cur])) := by
                rw [keysOf_snoc]
                unfold Os
                rw [List.length_append, List.map_append]
                exact hown9
              have hB9 : Below w.heap.size w w9 := (HW.out.alloc hsz _).grown hg9 (by simp; omega) (fun j hj => (World.ownsRow.lt hO j hj).1)
              obtain ⟨a9, c9, hv9, -, -, -, -⟩ := hO9.shape
              rw [keysOf_length] at hv9
              subst hv9
              have H9 := hide (And.intro hO9 hB9)
              clear hO9 hB9 hown9 hg9 hO
              go_wp2
              go_roundw
              case rel => exact ⟨i + 1, i + 1, acc ++ [cur], by go_num, by go_num, by omega, by omega, by simp; omega, hide H9.out.1, hide (.inl ⟨by omega, by omega, by rw [Nat.sub_self, List.take_zero]; exact HE.out⟩), hide H9.out.2⟩
              case measure => simp [intOf]; omega
            · have g48 : (X == 47) = false := by simpa using g47
              have hs47 : s[i]'hlt ≠ 47 := fun e => by
                apply g47
                rw [hX, e]
                rfl
              have hE : acc ++ pieces ((s.data.toList.drop at').take (i + 1 - at')) (s.data.toList.drop (i + 1)) = F := by
                have := HX.out.1
                rw [he, pieces, if_neg hs47, ← hu, HX.out.2] at this
                rw [cur_next s at' i hai hlt]
                exact this
              have HE := hide hE
              clear hE hs47 hX hu he hq
              go_wp2
              go_roundw
              case rel => exact ⟨i + 1, at', acc, rfl, by go_num, by omega, by omega, by omega, hide HO.out, hide (.inl ⟨by omega, by omega, HE.out⟩), hide HW.out⟩
              case measure => simp [intOf]; omega
        · have hK : F.take 7 = acc ∧ acc.length ≠ 0 := by
            have hne : F ≠ [] := by rw [HF.out.1]; exact pieces_ne _ _
            have hnl : F.length ≠ 0 := fun e => hne (List.eq_nil_of_length_eq_zero e)
            rcases HP.out with ⟨g1, g2, g3⟩ | ⟨g1, g2⟩
            · have h7 : acc.length = 7 := by omega
              refine ⟨?_, by omega⟩
              rw [← g3, List.take_append_of_le_length (by omega), List.take_of_length_le (by omega)]
            · refine ⟨by rw [← g2, List.take_of_length_le (by omega)], by rw [g2]; exact hnl⟩
          have hsp := HF.out.2
          rw [hK.1] at hsp
          have hk0 : ((acc.length : Int) == 0) = false := by rw [beq_eq_false_iff_ne]; omega
          have hrs : Rs wr ao (keysOf acc) := by
            obtain ⟨ao', c', hv', hr', -⟩ := HO.out.shape
            rw [keysOf_length] at hv'
            cases hv'
            exact hr'
          have hpt := refPath_any (c := cc) hrs
          rw [keysOf_length] at hpt
          have hor : ¬ (i : Int) ≤ (s.size : Int) ∨ ((i : Int) ≤ (s.size : Int) ∧ ¬ (acc.length : Int) ≤ 6) := by omega
          cases hpb : pathB (keysOf acc) with
          | false =>
            rw [hpb] at hsp hpt
            rw [if_neg (by simp)] at hsp
            have HS := hide hsp
            clear hsp hK hrs hgo hpb
            rcases hor with z1 | ⟨z1, z2⟩
            all_goals
              go_wp2_with (go_at_call 49; refine hpt.mono ?_; rintro e w8 ⟨rfl, b8⟩)
              go_ret2
              exact ⟨.inl ⟨HS.out, rfl⟩, HW.out.trans (b8.mono hsz)⟩
          | true =>
            have hjn : ∀ W, Below wr.heap.size wr W → Calls Tryz.prog 58 #[.slice ao acc.length cc] W fun e w' => e = .returned (.string ⟨(joinB (keysOf acc)).toArray⟩) ∧ w' = W := fun W hW => by
              have := refJoin_any (c := cc) (hrs.below hW) hpb
              rw [keysOf_length] at this
              exact this
            rw [hpb] at hsp hpt
            by_cases hj : joinB (keysOf acc) = s.data.toList
            · rw [if_pos ⟨rfl, hj⟩] at hsp
              have hsame : ((⟨(joinB (keysOf acc)).toArray⟩ : ByteArray).toList == s.toList) = true := by rw [ByteArray.toList_eq, ByteArray.toList_eq, hj]; simp
              have HS := hide hsp
              clear hsp hK hrs hgo hpb hj
              generalize (⟨(joinB (keysOf acc)).toArray⟩ : ByteArray) = J at hjn hsame
              rcases hor with z1 | ⟨z1, z2⟩
              all_goals
                go_wp2_with (first
                  | (go_at_call 49; refine hpt.mono ?_; rintro e w8 ⟨rfl, b8⟩)
                  | (go_at_call 58; refine (hjn _ b8).mono ?_; rintro e w7 ⟨rfl, hw7⟩; have hwx := hw7.symm; clear hw7; subst hwx))
                go_ret2
                exact ⟨.inr ⟨acc, _, HS.out, rfl, HO.out.below b8⟩, HW.out.trans (b8.mono hsz)⟩
            · rw [if_neg (fun e => hj e.2)] at hsp
              have hsame : ((⟨(joinB (keysOf acc)).toArray⟩ : ByteArray).toList == s.toList) = false := by rw [ByteArray.toList_eq, ByteArray.toList_eq, beq_eq_false_iff_ne]; exact hj
              have HS := hide hsp
              clear hsp hK hrs hgo hpb hj
              generalize (⟨(joinB (keysOf acc)).toArray⟩ : ByteArray) = J at hjn hsame
              rcases hor with z1 | ⟨z1, z2⟩
              all_goals
                go_wp2_with (first
                  | (go_at_call 49; refine hpt.mono ?_; rintro e w8 ⟨rfl, b8⟩)
                  | (go_at_call 58; refine (hjn _ b8).mono ?_; rintro e w7 ⟨rfl, hw7⟩; have hwx := hw7.symm; clear hw7; subst hwx))
                go_ret2
                exact ⟨.inl ⟨HS.out, rfl⟩, HW.out.trans (b8.mono hsz)⟩
end Go.Proofs.YtpepgoelnagoaaaGreatDoor
