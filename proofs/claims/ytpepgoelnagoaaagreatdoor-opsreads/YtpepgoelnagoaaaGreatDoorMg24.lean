/-
  OPS: the document's ParseAll 37.
  OPS: the document's Spoil 33: what it turns.
  OPS: OpsBack 6, its walk.
-/
import Derived.Test.YtpepgoelnagoaaaGreatDoorDtP
import Derived.Test.YtpepgoelnagoaaaGreatDoorMg17
import Derived.Test.YtpepgoelnagoaaaGreatDoorMg21
namespace Go.Proofs.YtpepgoelnagoaaaGreatDoor
open Go.RowKit Go.Shelf
set_option linter.unusedSimpArgs false
set_option linter.unusedVariables false
attribute [local go_sem] Oper.semAt_some

/-- The pieces of a text between '; ', behind cur. -/
def pieces2 : List UInt8 → List UInt8 → List (List UInt8)
  | cur, [] => [cur]
  | cur, [b] => [cur ++ [b]]
  | cur, b :: c :: t => if b = 59 ∧ c = 32 then cur :: pieces2 [] t else pieces2 (cur ++ [b]) (c :: t)
theorem pieces2_nil (cur : List UInt8) : pieces2 cur [] = [cur] := by unfold pieces2; rfl
theorem pieces2_skip (cur : List UInt8) (b : UInt8) (t : List UInt8) (h : ¬ (b = 59 ∧ t.head? = some 32)) : pieces2 cur (b :: t) = pieces2 (cur ++ [b]) t := by
  cases t with
  | nil => rw [pieces2_nil]; unfold pieces2; rfl
  | cons c t =>
    conv => lhs; unfold pieces2
    rw [if_neg (fun e => h ⟨e.1, by rw [e.2]; rfl⟩)]
theorem pieces2_hit (cur t : List UInt8) : pieces2 cur (59 :: 32 :: t) = cur :: pieces2 [] t := by
  conv => lhs; unfold pieces2
  rw [if_pos ⟨rfl, rfl⟩]
theorem pieces2_ind {P : List UInt8 → List UInt8 → Prop} (h0 : ∀ cur, P cur []) (h1 : ∀ cur b t, ¬ (b = 59 ∧ t.head? = some 32) → P (cur ++ [b]) t → P cur (b :: t)) (h2 : ∀ cur t, P [] t → P cur (59 :: 32 :: t)) : ∀ (n : Nat) (l cur : List UInt8), l.length ≤ n → P cur l
  | n, [], cur, _ => h0 cur
  | 0, b :: t, cur, h => by simp at h
  | n + 1, b :: t, cur, h => by
    by_cases hb : b = 59 ∧ t.head? = some 32
    · obtain ⟨rfl, ht⟩ := hb
      cases t with
      | nil => simp at ht
      | cons c t =>
        simp only [List.head?_cons, Option.some.injEq] at ht
        subst ht
        exact h2 cur t (pieces2_ind h0 h1 h2 n t [] (by simp at h; omega))
    · exact h1 cur b t hb (pieces2_ind h0 h1 h2 n t _ (by simp at h; omega))
theorem pieces2_ne (cur l : List UInt8) : pieces2 cur l ≠ [] := by
  refine pieces2_ind (P := fun cur l => pieces2 cur l ≠ []) ?_ ?_ ?_ l.length l cur (Nat.le_refl _)
  · intro cur; rw [pieces2_nil]; simp
  · intro cur b t h ih; rw [pieces2_skip cur b t h]; exact ih
  · intro cur t _; rw [pieces2_hit]; simp
theorem join2 (l cur : List UInt8) : Lib.join (pieces2 cur l) [59, 32] = cur ++ l := by
  refine pieces2_ind (P := fun cur l => Lib.join (pieces2 cur l) [59, 32] = cur ++ l) ?_ ?_ ?_ l.length l cur (Nat.le_refl _)
  · intro cur; rw [pieces2_nil, join_one]; simp
  · intro cur b t h ih; rw [pieces2_skip cur b t h, ih]; simp
  · intro cur t ih
    rw [pieces2_hit]
    have hne := pieces2_ne [] t
    generalize pieces2 [] t = R at ih hne ⊢
    cases R with
    | nil => exact absurd rfl hne
    | cons v ws => rw [join_cons, ih]; simp
theorem cut_hit (t : List UInt8) : Lib.cut (59 :: 32 :: t) [59, 32] = ([], t, true) := by
  have := cut_mid 59 [32] t [] (by simp)
  simpa using this
theorem index_cons (b : UInt8) (t : List UInt8) (h : ¬ (b = 59 ∧ t.head? = some 32)) : Lib.index (b :: t) [59, 32] = if Lib.index t [59, 32] = -1 then -1 else Lib.index t [59, 32] + 1 := by
  conv => lhs; unfold Lib.index
  have hp : ([59, 32] : List UInt8).isPrefixOf (b :: t) = false := by
    rw [Bool.eq_false_iff]
    intro hp
    apply h
    obtain ⟨r, hr⟩ := List.isPrefixOf_iff_prefix.1 hp
    simp only [List.cons_append, List.nil_append, List.cons.injEq] at hr
    obtain ⟨h1, h2⟩ := hr
    exact ⟨h1.symm, by rw [← h2]; rfl⟩
  rw [hp]
  simp
theorem pieces2_cut (l cur : List UInt8) : pieces2 cur l = if (Lib.cut l [59, 32]).2.2 = true then (cur ++ (Lib.cut l [59, 32]).1) :: pieces2 [] (Lib.cut l [59, 32]).2.1 else [cur ++ l] := by
  refine pieces2_ind (P := fun cur l => pieces2 cur l = if (Lib.cut l [59, 32]).2.2 = true then (cur ++ (Lib.cut l [59, 32]).1) :: pieces2 [] (Lib.cut l [59, 32]).2.1 else [cur ++ l]) ?_ ?_ ?_ l.length l cur (Nat.le_refl _)
  · intro cur
    rw [pieces2_nil, cut_end 59 [32] [] (by simp)]
    simp
  · intro cur b t h ih
    rw [pieces2_skip cur b t h, ih]
    have hi := index_cons b t h
    have hg := Lib.index_ge t [59, 32]
    unfold Lib.cut
    by_cases hx : Lib.index t [59, 32] = -1
    · rw [hx] at hi ⊢
      rw [if_pos rfl] at hi
      rw [hi]
      simp
    · rw [if_neg hx] at hi
      have g1 : 0 ≤ Lib.index t [59, 32] := by omega
      have g2 : 0 ≤ Lib.index t [59, 32] + 1 := by omega
      rw [hi, if_pos g1, if_pos g2]
      dsimp only
      rw [if_pos rfl, if_pos rfl, show (Lib.index t [59, 32] + 1).toNat = (Lib.index t [59, 32]).toNat + 1 by omega]
      simp [Nat.add_right_comm]
  · intro cur t _
    rw [pieces2_hit, cut_hit]
    simp
theorem pcsQ_is : ∀ (n : Nat) (q : Pz), mz q ≤ n → q.more = true → pcsQ [59, 32] n q = keysOf (pieces2 [] q.left.data.toList)
  | 0, q, h, hm => by unfold mz at h; rw [if_pos hm] at h; omega
  | n + 1, q, h, hm => by
    have hd := nextP_mz (sg := [59, 32]) (by simp) hm
    unfold pcsQ
    rw [if_pos hm, pieces2_cut]
    have e : nextP [59, 32] q = (⟨(Lib.cut q.left.data.toList [59, 32]).1.toArray⟩, true, ⟨⟨(Lib.cut q.left.data.toList [59, 32]).2.1.toArray⟩, (Lib.cut q.left.data.toList [59, 32]).2.2⟩) := if_pos hm
    rw [e] at hd ⊢
    dsimp only at hd ⊢
    by_cases hc : (Lib.cut q.left.data.toList [59, 32]).2.2 = true
    · rw [if_pos hc, pcsQ_is n _ (by omega) hc]
      simp [keysOf]
    · rw [if_neg hc, pcsQ_done (by simpa using hc)]
      have : (Lib.cut q.left.data.toList [59, 32]).1 = q.left.data.toList := by
        unfold Lib.cut at hc ⊢
        split at hc
        · exact absurd rfl hc
        · rename_i hx; rw [if_neg hx]
      rw [this]
      simp [keysOf]
theorem piecesA_is (s : ByteArray) : piecesA s = keysOf (pieces2 [] s.data.toList) := pcsQ_is (s.size + 1) ⟨s, true⟩ (by unfold mz; rw [if_pos rfl]; exact Nat.le_refl _) rfl
abbrev bk (k : List UInt8) : ByteArray := ⟨k.toArray⟩
/-- How far a list of a text is read. -/
structure PqR (s : ByteArray) (F : List (List UInt8)) (i at' : Nat) (acc : List (List UInt8)) (xs : List Ox) : Prop where
  ops : xs.map Prod.fst = acc.map (fun k => (parseS (bk k)).1)
  ok : ∀ k ∈ acc, (parseS (bk k)).2 = 0
  len : acc.length ≤ 65
  pos : (i ≤ s.size ∧ at' ≤ i ∧ acc ++ pieces2 ((s.data.toList.drop at').take (i - at')) (s.data.toList.drop i) = F) ∨ (at' = i + 1 ∧ i < s.size ∧ s.data.toList[i]? = some 32 ∧ acc ++ pieces2 [] (s.data.toList.drop (i + 1)) = F) ∨ (i = s.size + 1 ∧ acc = F)
theorem PqR.xlen {s : ByteArray} {F : List (List UInt8)} {i at' : Nat} {acc : List (List UInt8)} {xs : List Ox} (h : PqR s F i at' acc xs) : xs.length = acc.length := by
  have := congrArg List.length h.ops
  simpa using this
theorem PqR.push {s : ByteArray} {F : List (List UInt8)} {i at' i2 at2 : Nat} {acc : List (List UInt8)} {xs : List Ox} {cur : List UInt8} {x : Ox} (h : PqR s F i at' acc xs) (hx : x.1 = (parseS (bk cur)).1) (he : (parseS (bk cur)).2 = 0) (hl : acc.length ≤ 64)
    (hp : (i2 ≤ s.size ∧ at2 ≤ i2 ∧ (acc ++ [cur]) ++ pieces2 ((s.data.toList.drop at2).take (i2 - at2)) (s.data.toList.drop i2) = F) ∨ (at2 = i2 + 1 ∧ i2 < s.size ∧ s.data.toList[i2]? = some 32 ∧ (acc ++ [cur]) ++ pieces2 [] (s.data.toList.drop (i2 + 1)) = F) ∨ (i2 = s.size + 1 ∧ acc ++ [cur] = F)) : PqR s F i2 at2 (acc ++ [cur]) (xs ++ [x]) := by
  refine ⟨by rw [List.map_append, List.map_append, h.ops]; simp [hx], fun y hy => ?_, by simp; omega, hp⟩
  rcases List.mem_append.1 hy with hy | hy
  · exact h.ok y hy
  · simp only [List.mem_cons, List.not_mem_nil, or_false] at hy
    subst hy; exact he
theorem PqR.chk {s : ByteArray} {F : List (List UInt8)} {i at' : Nat} {acc : List (List UInt8)} {xs : List Ox} (h : PqR s F i at' acc xs) : ∀ o ∈ xs.map Prod.fst, chkO o = 0 ∧ I64 o.n := by
  rw [h.ops]
  intro o ho
  obtain ⟨k, hk, rfl⟩ := List.mem_map.1 ho
  have := parseS_inv (h.ok k hk)
  exact this.2
theorem PqR.text {s : ByteArray} {F : List (List UInt8)} {i at' : Nat} {acc : List (List UInt8)} {xs : List Ox} (h : PqR s F i at' acc xs) (hF : F = pieces2 [] s.data.toList) (ha : acc = F) : (⟨(txA (xs.map Prod.fst)).toArray⟩ : ByteArray) = s := by
  have hne : xs.map Prod.fst ≠ [] := by
    rw [h.ops, ha, hF]
    intro e
    exact pieces2_ne [] s.data.toList (List.map_eq_nil_iff.1 e)
  unfold txA
  rw [if_neg hne, h.ops, List.map_map]
  have : acc.map (txO ∘ fun k => (parseS (bk k)).1) = acc := by
    conv => rhs; rw [← List.map_id acc]
    refine List.map_congr_left (fun k hk => ?_)
    exact (parseS_inv (h.ok k hk)).1.symm
  rw [this, ha, hF, join2]
  simp
theorem wrong_all {l : List Od} (h : ∀ o ∈ l, chkO o = 0 ∧ I64 o.n) : wrongL l = if 64 < l.length then 3 else 0 := find_not (fun j o _ ho => (h o (List.mem_of_getElem? ho)).1)

set_option maxHeartbeats 16000000 in
set_option maxRecDepth 100000 in
theorem dparseAll_any (s : ByteArray) (w : World) (hs : s.size ≤ 1000000) (hE : EnvO w) (hEE : EnvE w) : Calls Tryz.prog 37 #[.string s] w fun e w' => ∃ v, e = .returned (.tuple #[v, .int .i64 (parseA s).2]) ∧ ∃ xs, xs.map Prod.fst = (parseA s).1 ∧ Oq w' w.heap.size v xs ∧ Below w.heap.size w w' := by
  have hl : s.data.toList.length = s.size := (Lib.size_eq s).symm
  by_cases h46 : s = ⟨#[46]⟩
  · have hr : parseA s = ([], 0) := if_pos h46
    rw [hr]
    subst h46
    go_enter Tryz.func37, Tryz.ntmps37
    go_wp2
    go_ret2
    first | exact ⟨_, rfl, [], rfl, Oq.nil _ _, Below.refl _ _⟩ | exact ⟨_, rfl, Oq.nil _ _, Below.refl _ _⟩
  have hne : (s.toList == [46]) = false := by
    have h := str_ne' h46
    rw [ByteArray.toList_eq ⟨#[46]⟩] at h
    exact h
  have hr : parseA s = if (piecesA s).length ≤ 64 ∧ ∀ x ∈ piecesA s, (parseS x).2 = 0 then ((piecesA s).map (fun x => (parseS x).1), 0) else ([], 4) := if_neg h46
  obtain ⟨F, hF⟩ : ∃ r, r = pieces2 [] s.data.toList := ⟨_, rfl⟩
  rw [piecesA_is, ← hF] at hr
  obtain ⟨X, hX⟩ : ∃ r, r = parseA s := ⟨_, rfl⟩
  rw [← hX] at hr ⊢
  have HR := hide hr
  have HE := hide (And.intro hE (And.intro hEE hF))
  clear hX hr hE hEE h46 hF
  go_enter Tryz.func37, Tryz.ntmps37
  go_wp2
  go_loopw [4, 5, 6] (fun v4 v5 v6 wr => ∃ (i at' : Nat) (acc : List (List UInt8)) (xs : List Ox) (a4 : Option Addr) (c4 : Nat), v4 = .slice a4 xs.length c4 ∧ v5 = .int .i64 (at' : Nat) ∧ v6 = .int .i64 (i : Nat) ∧ i ≤ s.size + 1 ∧ Hid (PqR s F i at' acc xs) ∧ Hid (Oq wr w.heap.size (.slice a4 xs.length c4) xs) ∧ Hid (Below w.heap.size w wr))
    (fun _ _ v6 _ => s.size + 1 - (intOf v6).toNat)
  case atStart => exact ⟨0, 0, [], [], none, 0, rfl, rfl, rfl, by omega, hide ⟨rfl, fun k hk => (by cases hk), by simp, .inl ⟨by omega, by omega, by rw [HE.out.2.2]; simp⟩⟩, hide (Oq.nil _ _), hide (Below.refl _ _)⟩
  case round =>
    obtain ⟨i, at', acc, xs, a4, c4, rfl, rfl, rfl, his, HP, HO, HB⟩ := hrel
    have HXL := hide HP.out.xlen
    have hsz := HB.out.size
    by_cases hgo : i ≤ s.size ∧ xs.length ≤ 64
    · obtain ⟨g1, g2⟩ := hgo
      have z1 : (i : Int) ≤ (s.size : Int) := by omega
      have z2 : (xs.length : Int) ≤ 64 := by omega
      rcases HP.out.pos with ⟨-, hai, hpc⟩ | ⟨hae, hil, h32, hpc⟩ | ⟨h, -⟩
      · have a1 : (0 : Int) ≤ (at' : Int) := by omega
        have a2 : (at' : Int) ≤ (i : Int) := by omega
        have hext := ext_mid s at' i
        obtain ⟨cur, hcur⟩ : ∃ cur, cur = (s.data.toList.drop at').take (i - at') := ⟨_, rfl⟩
        rw [← hcur] at hext hpc
        have hcs : (bk cur).size ≤ 1000000 := by
          rw [arr_size, hcur, List.length_take, List.length_drop]
          omega
        have k35 := dparse_any (bk cur) wr hcs (HE.out.1.below HB.out) (HE.out.2.1.below HB.out)
        have hpl := parseS_plen (bk cur)
        obtain ⟨R, hR⟩ : ∃ r, r = parseS (bk cur) := ⟨_, rfl⟩
        rw [← hR] at k35 hpl
        have HX := hide (And.intro hpc (And.intro hcur (And.intro hR hpl)))
        clear hpc hcur hR hcs hpl
        by_cases hend : i = s.size
        · have hE2 : acc ++ [cur] = F := by
            have := HX.out.1
            rw [List.drop_eq_nil_of_le (by omega), pieces2_nil] at this
            exact this
          have HF2 := hide hE2
          clear hE2
          subst hend
          have Hpl := hide HX.out.2.2.2
          obtain ⟨o, er⟩ := R
          dsimp only at k35
          have HRo : Hid ((o, er) = parseS (bk cur)) := hide HX.out.2.2.1
          have hpl : o.p.length ≤ 1000000 := HX.out.2.2.2
          have Hpl := hide hpl
          clear hpl HX
          go_upto_region 10 with (go_at_call 35; refine k35.mono ?_; rintro e w5 ⟨pa, pc, rfl, hos, hb⟩; have H5 := hide (And.intro hos hb); clear hos hb k35)
          obtain ⟨p, k, ks, d, n, t⟩ := o
          dsimp only at Hpl ⊢
          obtain ⟨w6, hw6⟩ : ∃ r, r = w5.alloc (.cells (oc6 (.slice pa p.length pc) k ks d n t) 34) := ⟨_, rfl⟩
          rw [← hw6]
          have d6 : Below w5.heap.size w5 w6 := by rw [hw6]; exact (Below.refl _ _).alloc (Nat.le_refl _) _
          have m6 : w6.heap[w5.heap.size]? = some (.cells (oc6 (.slice pa p.length pc) k ks d n t) 34 (0, 0)) := by rw [hw6]; exact heap_alloc_new _ _
          have d56 : Below wr.heap.size wr w6 := H5.out.2.trans (d6.mono H5.out.2.size)
          obtain ⟨⟨x0, x1, x2, x3, x4, x5⟩, f0, f1, f2, f3, f4, f5⟩ := blk6 m6
          have D6 := hide (And.intro d56 d6)
          clear d56 d6 hw6 m6
          by_cases her : er = 0
          · subst her
            have hO6 : Oq w6 w.heap.size (.slice a4 xs.length c4) xs := HO.out.below D6.out.1
            have hpath : Os w6 w.heap.size (.slice pa p.length pc) p := row_lift (H5.out.1.below D6.out.2) hsz
            have hlen1 : xs.length + 1 ≤ 1000000 := by omega
            have d7 : Below w6.heap.size w6 (w6.alloc (.cells (oc6 (.slice pa p.length pc) k ks d n t) 34)) := (Below.refl _ _).alloc (Nat.le_refl _) _
            obtain ⟨v8, w8, hr8, hO8, -, hb8⟩ := push_op (x := (⟨p, k, ks, d, n, t⟩, pa, pc)) (hO6.below d7) (hpath.below d7) Hpl.out (heap_alloc_new w6 (.cells (oc6 (.slice pa p.length pc) k ks d n t) 34)) hlen1 (Nat.le_trans hsz (Nat.le_trans D6.out.1.size d7.size))
            obtain ⟨a8, c8, hv8, -, -, -, -⟩ := hO8.shape
            subst hv8
            have hb9 : Below w.heap.size w w8 := (HB.out.trans ((D6.out.1.mono hsz).trans (d7.mono (Nat.le_trans hsz D6.out.1.size)))).trans hb8
            have hnx := HP.out.push (x := (⟨p, k, ks, d, n, t⟩, pa, pc)) (by rw [← HRo.out]) (by rw [← HRo.out]) (by have := HXL.out; omega) (i2 := s.size + 1) (at2 := s.size) (.inr (.inr ⟨rfl, HF2.out⟩))
            have HN := hide (And.intro hnx (And.intro hO8 hb9))
            clear hnx hO8 hb9 hO6 hpath hlen1 d7 hb8
            go_wp2_with (at_builtin; refine wpList_turn (OP := .call { callee := .builtin .append, args := #[.tmp 56, .tmp 58], argTypes := #[22, 22] }) (T := 22) rfl rfl rfl (exec_append rfl rfl hr8) ?_; clear hr8)
            go_roundw
            case rel => exact ⟨s.size + 1, s.size, acc ++ [cur], xs ++ [(⟨p, k, ks, d, n, t⟩, pa, pc)], a8, c8, by simp, by go_num, by go_num, by omega, hide HN.out.1, hide HN.out.2.1, hide HN.out.2.2⟩
            case measure => simp [intOf]
          · have her1 : (er != 0) = true := by simpa using her
            have HXX : Hid (X = ([], 4)) := hide (by
              rw [HR.out]
              refine if_neg (fun hc => her ?_)
              have := hc.2 (bk cur) (by rw [← HF2.out]; simp [keysOf])
              rw [← HRo.out] at this
              exact this)
            go_wp2
            go_ret2
            rw [HXX.out]
            exact ⟨_, rfl, [], rfl, Oq.nil _ _, HB.out.trans (D6.out.1.mono HB.out.size)⟩
        · have hlt : i < s.size := by omega
          have z3 : ((i : Int) == (s.size : Int)) = false := by rw [beq_eq_false_iff_ne]; omega
          obtain ⟨Xb, hXb, x0b, x1b, ix⟩ := at_string s i hlt
          obtain ⟨tl, hu, he, hq⟩ := rune1_cons s i hlt
          by_cases g59 : Xb = 59
          · have hs59 : s[i]'hlt = 59 := by
              apply UInt8.toNat_inj.1
              have : (59 : UInt8).toNat = 59 := rfl
              omega
            by_cases hlt2 : i + 1 < s.size
            · have z4 : ((i : Int) + 1 < (s.size : Int)) := by omega
              obtain ⟨Yb, hYb, y0b, y1b, iy⟩ := at_string s (i + 1) hlt2
              obtain ⟨tl2, hu2, he2, hq2⟩ := rune1_cons s (i + 1) hlt2
              have hcast : ((i + 1 : Nat) : Int) = (i : Int) + 1 := by omega
              rw [hcast] at iy
              by_cases g32 : Yb = 32
              · have hs32 : s[i + 1]'hlt2 = 32 := by
                  apply UInt8.toNat_inj.1
                  have : (32 : UInt8).toNat = 32 := rfl
                  omega
                have hE2 : (acc ++ [cur]) ++ pieces2 [] (s.data.toList.drop (i + 2)) = F := by
                  have := HX.out.1
                  rw [he, hs59, ← hu, he2, hs32, pieces2_hit, ← hu2] at this
                  rw [← this]
                  simp
                have h32' : s.data.toList[i + 1]? = some 32 := by
                  rw [List.getElem?_eq_getElem (by omega)]
                  exact congrArg some hs32
                have HF2 := hide (And.intro hE2 h32')
                clear hE2 h32' hs59 hs32 hXb hu he hq hYb hu2 he2 hq2
                subst g59 g32
                have Hpl := hide HX.out.2.2.2
                obtain ⟨o, er⟩ := R
                dsimp only at k35
                have HRo : Hid ((o, er) = parseS (bk cur)) := hide HX.out.2.2.1
                have hpl : o.p.length ≤ 1000000 := HX.out.2.2.2
                have Hpl := hide hpl
                clear hpl HX
                go_upto_region 10 with (go_at_call 35; refine k35.mono ?_; rintro e w5 ⟨pa, pc, rfl, hos, hb⟩; have H5 := hide (And.intro hos hb); clear hos hb k35)
                obtain ⟨p, k, ks, d, n, t⟩ := o
                dsimp only at Hpl ⊢
                obtain ⟨w6, hw6⟩ : ∃ r, r = w5.alloc (.cells (oc6 (.slice pa p.length pc) k ks d n t) 34) := ⟨_, rfl⟩
                rw [← hw6]
                have d6 : Below w5.heap.size w5 w6 := by rw [hw6]; exact (Below.refl _ _).alloc (Nat.le_refl _) _
                have m6 : w6.heap[w5.heap.size]? = some (.cells (oc6 (.slice pa p.length pc) k ks d n t) 34 (0, 0)) := by rw [hw6]; exact heap_alloc_new _ _
                have d56 : Below wr.heap.size wr w6 := H5.out.2.trans (d6.mono H5.out.2.size)
                obtain ⟨⟨x0, x1, x2, x3, x4, x5⟩, f0, f1, f2, f3, f4, f5⟩ := blk6 m6
                have D6 := hide (And.intro d56 d6)
                clear d56 d6 hw6 m6
                by_cases her : er = 0
                · subst her
                  have hO6 : Oq w6 w.heap.size (.slice a4 xs.length c4) xs := HO.out.below D6.out.1
                  have hpath : Os w6 w.heap.size (.slice pa p.length pc) p := row_lift (H5.out.1.below D6.out.2) hsz
                  have hlen1 : xs.length + 1 ≤ 1000000 := by omega
                  have d7 : Below w6.heap.size w6 (w6.alloc (.cells (oc6 (.slice pa p.length pc) k ks d n t) 34)) := (Below.refl _ _).alloc (Nat.le_refl _) _
                  obtain ⟨v8, w8, hr8, hO8, -, hb8⟩ := push_op (x := (⟨p, k, ks, d, n, t⟩, pa, pc)) (hO6.below d7) (hpath.below d7) Hpl.out (heap_alloc_new w6 (.cells (oc6 (.slice pa p.length pc) k ks d n t) 34)) hlen1 (Nat.le_trans hsz (Nat.le_trans D6.out.1.size d7.size))
                  obtain ⟨a8, c8, hv8, -, -, -, -⟩ := hO8.shape
                  subst hv8
                  have hb9 : Below w.heap.size w w8 := (HB.out.trans ((D6.out.1.mono hsz).trans (d7.mono (Nat.le_trans hsz D6.out.1.size)))).trans hb8
                  have hnx := HP.out.push (x := (⟨p, k, ks, d, n, t⟩, pa, pc)) (by rw [← HRo.out]) (by rw [← HRo.out]) (by have := HXL.out; omega) (i2 := i + 1) (at2 := i + 2) (.inr (.inl ⟨rfl, hlt2, HF2.out.2, HF2.out.1⟩))
                  have HN := hide (And.intro hnx (And.intro hO8 hb9))
                  clear hnx hO8 hb9 hO6 hpath hlen1 d7 hb8
                  go_wp2_with (at_builtin; refine wpList_turn (OP := .call { callee := .builtin .append, args := #[.tmp 56, .tmp 58], argTypes := #[22, 22] }) (T := 22) rfl rfl rfl (exec_append rfl rfl hr8) ?_; clear hr8)
                  go_roundw
                  case rel => exact ⟨i + 1, i + 2, acc ++ [cur], xs ++ [(⟨p, k, ks, d, n, t⟩, pa, pc)], a8, c8, by simp, by go_num, by go_num, by omega, hide HN.out.1, hide HN.out.2.1, hide HN.out.2.2⟩
                  case measure => simp [intOf]; omega
                · have her1 : (er != 0) = true := by simpa using her
                  have HXX : Hid (X = ([], 4)) := hide (by
                    rw [HR.out]
                    refine if_neg (fun hc => her ?_)
                    have := hc.2 (bk cur) (by rw [← HF2.out.1]; simp [keysOf])
                    rw [← HRo.out] at this
                    exact this)
                  go_wp2
                  go_ret2
                  rw [HXX.out]
                  exact ⟨_, rfl, [], rfl, Oq.nil _ _, HB.out.trans (D6.out.1.mono HB.out.size)⟩
              · have g33 : (Yb == 32) = false := by simpa using g32
                have hE2 : acc ++ pieces2 ((s.data.toList.drop at').take (i + 1 - at')) (s.data.toList.drop (i + 1)) = F := by
                  have := HX.out.1
                  rw [he, pieces2_skip cur _ tl (fun hh => g32 (by
                    have h2 := hh.2
                    rw [← hu, he2] at h2
                    simp only [List.head?_cons, Option.some.injEq] at h2
                    rw [hYb, h2]; rfl)), ← hu, HX.out.2.1] at this
                  rw [cur_next s at' i hai hlt]
                  exact this
                subst g59
                clear hs59 hXb hu he hq hYb hu2 he2 hq2
                clear k35 HX
                have HE2 := hide hE2
                clear hE2
                go_wp2
                go_roundw
                case rel => exact ⟨i + 1, at', acc, xs, a4, c4, rfl, rfl, by go_num, by omega, hide ⟨HP.out.ops, HP.out.ok, HP.out.len, .inl ⟨by omega, by omega, HE2.out⟩⟩, HO, HB⟩
                case measure => simp [intOf]; omega
            · have z4 : ¬ ((i : Int) + 1 < (s.size : Int)) := by omega
              have hE2 : acc ++ pieces2 ((s.data.toList.drop at').take (i + 1 - at')) (s.data.toList.drop (i + 1)) = F := by
                have := HX.out.1
                rw [he, pieces2_skip cur _ tl (fun hh => by
                  have h2 := hh.2
                  have : tl = [] := List.eq_nil_of_length_eq_zero (by omega)
                  rw [this] at h2
                  simp at h2), ← hu, HX.out.2.1] at this
                rw [cur_next s at' i hai hlt]
                exact this
              subst g59
              clear hs59 hXb hu he hq
              clear k35 HX
              have HE2 := hide hE2
              clear hE2
              go_wp2
              go_roundw
              case rel => exact ⟨i + 1, at', acc, xs, a4, c4, rfl, rfl, by go_num, by omega, hide ⟨HP.out.ops, HP.out.ok, HP.out.len, .inl ⟨by omega, by omega, HE2.out⟩⟩, HO, HB⟩
              case measure => simp [intOf]; omega
          · have g58 : (Xb == 59) = false := by simpa using g59
            have hE2 : acc ++ pieces2 ((s.data.toList.drop at').take (i + 1 - at')) (s.data.toList.drop (i + 1)) = F := by
              have := HX.out.1
              rw [he, pieces2_skip cur _ tl (fun hh => g59 (by rw [hXb, hh.1]; rfl)), ← hu, HX.out.2.1] at this
              rw [cur_next s at' i hai hlt]
              exact this
            clear hXb hu he hq
            clear k35 HX
            have HE2 := hide hE2
            clear hE2
            go_wp2
            go_roundw
            case rel => exact ⟨i + 1, at', acc, xs, a4, c4, rfl, rfl, by go_num, by omega, hide ⟨HP.out.ops, HP.out.ok, HP.out.len, .inl ⟨by omega, by omega, HE2.out⟩⟩, HO, HB⟩
            case measure => simp [intOf]; omega
      · have z3 : ((i : Int) == (s.size : Int)) = false := by rw [beq_eq_false_iff_ne]; omega
        obtain ⟨Xb, hXb, x0b, x1b, ix⟩ := at_string s i hil
        have hX32 : Xb = 32 := by
          rw [List.getElem?_eq_getElem (by omega)] at h32
          simp only [Option.some.injEq] at h32
          rw [hXb]
          have : s[i]'hil = 32 := h32
          rw [this]; rfl
        subst hX32
        have hE2 : acc ++ pieces2 ((s.data.toList.drop at').take (i + 1 - at')) (s.data.toList.drop (i + 1)) = F := by
          rw [hae, Nat.sub_self, List.take_zero]
          exact hpc
        have hai : at' ≤ i + 1 := by omega
        have hlt := hil
        clear hXb h32 hpc hae
        have HE2 := hide hE2
        clear hE2
        go_wp2
        go_roundw
        case rel => exact ⟨i + 1, at', acc, xs, a4, c4, rfl, rfl, by go_num, by omega, hide ⟨HP.out.ops, HP.out.ok, HP.out.len, .inl ⟨by omega, by omega, HE2.out⟩⟩, HO, HB⟩
        case measure => simp [intOf]; omega
      · omega
    · have hps := HP.out.chk
      have hps2 := wrong_all hps
      have hlm : (xs.map Prod.fst).length = xs.length := by simp
      rw [hlm] at hps2
      obtain ⟨ao', cc', hv', hrq, -, -, -⟩ := HO.out.shape
      simp only [Value.slice.injEq, true_and] at hv'
      obtain ⟨rfl, rfl⟩ := hv'
      have k19 := wrong19_any a4 c4 (xs.map Prod.fst) wr hrq (by have := HP.out.len; have := HXL.out; omega)
      rw [hlm] at k19
      have hok : OkL (xs.map Prod.fst) := ⟨fun o ho => ok_of (hps o ho).1, fun o ho => (hps o ho).2, by have := HP.out.len; have := HXL.out; omega⟩
      have k22 := fun W (hW : Below wr.heap.size wr W) => refTextAll_any a4 c4 (xs.map Prod.fst) W (hrq.below hW) hok ((HE.out.1.below HB.out).below hW)
      rw [hlm] at k22
      have hor : ¬ (i : Int) ≤ (s.size : Int) ∨ ((i : Int) ≤ (s.size : Int) ∧ ¬ (xs.length : Int) ≤ 64) := by omega
      by_cases h64 : 64 < xs.length
      · rw [if_pos h64] at hps2
        rw [hps2] at k19
        have HXX : Hid (X = ([], 4)) := hide (by
          rw [HR.out]
          refine if_neg (fun hc => ?_)
          have h1 := hc.1
          rw [keysOf_length] at h1
          rcases HP.out.pos with ⟨-, -, h⟩ | ⟨-, -, -, h⟩ | ⟨-, h⟩
          · rw [← h, List.length_append] at h1; have := HXL.out; omega
          · rw [← h, List.length_append] at h1; have := HXL.out; omega
          · rw [← h] at h1; have := HXL.out; omega)
        have HO9 := HO
        clear hps hps2 hlm hrq hok k22 hgo h64
        rcases hor with z1 | ⟨z1, z2⟩
        all_goals
          go_wp2_with (go_at_call 19; refine k19.mono ?_; rintro e wz ⟨rfl, bz⟩; have BZ := hide bz; clear bz k19)
          go_ret2
          rw [HXX.out]
          exact ⟨_, rfl, [], rfl, Oq.nil _ _, HB.out.trans (BZ.out.mono HB.out.size)⟩
      · rw [if_neg h64] at hps2
        rw [hps2] at k19
        have hiF : i = s.size + 1 ∧ acc = F := by
          rcases HP.out.pos with ⟨h1, -, -⟩ | ⟨-, h1, -, -⟩ | h
          · exact absurd ⟨h1, by omega⟩ hgo
          · exact absurd ⟨by omega, by omega⟩ hgo
          · exact h
        have ht := HP.out.text HE.out.2.2 hiF.2
        obtain ⟨XT, hXT⟩ : ∃ r, r = (⟨(txA (xs.map Prod.fst)).toArray⟩ : ByteArray) := ⟨_, rfl⟩
        rw [← hXT] at ht k22
        have HXX : Hid (X = (xs.map Prod.fst, 0)) := hide (by
          rw [HR.out, ← hiF.2]
          have e1 : ∀ x ∈ keysOf acc, (parseS x).2 = 0 := fun x hx => by
            obtain ⟨k, hk, rfl⟩ := List.mem_map.1 hx
            exact HP.out.ok k hk
          rw [if_pos ⟨by rw [keysOf_length]; have := HXL.out; omega, e1⟩, HP.out.ops]
          unfold keysOf
          rw [List.map_map]
          rfl)
        subst ht
        have z1 : ¬ (i : Int) ≤ (XT.size : Int) := by omega
        clear hps hps2 hlm hrq hok hgo h64 hXT hor hiF
        go_wp2_with (first
          | (go_at_call 19; refine k19.mono ?_; rintro e wz ⟨rfl, bz⟩; have BZ := hide bz; clear bz k19)
          | (go_at_call 22; refine (k22 _ BZ.out).mono ?_; rintro e wy ⟨rfl, by'⟩; have BY := hide by'; clear by' k22))
        go_ret2
        rw [HXX.out]
        exact ⟨_, rfl, xs, rfl, (HO.out.below BZ.out).below BY.out, (HB.out.trans (BZ.out.mono HB.out.size)).trans (BY.out.mono (Nat.le_trans HB.out.size BZ.out.size))⟩
end Go.Proofs.YtpepgoelnagoaaaGreatDoor
namespace Go.Proofs.YtpepgoelnagoaaaGreatDoor
open Go.RowKit Go.Shelf
set_option linter.unusedSimpArgs false
set_option linter.unusedVariables false
attribute [local go_sem] Oper.semAt_some

/-- The blocks of operations in a row lie below E. -/
def InB (E : Nat) (v : Value) (xs : List Ox) : Prop := (∀ j, v.ownBlock = some j → j < E) ∧ ∀ x ∈ xs, ∀ j, (Value.slice x.2.1 x.1.p.length x.2.2).ownBlock = some j → j < E
theorem Oq.inb {w : World} {B : Nat} {v : Value} {xs : List Ox} (h : Oq w B v xs) : InB w.heap.size v xs :=
  ⟨fun j hj => (World.ownsRow.lt h.row j hj).2, fun x hx j hj => (World.ownsRow.lt (h.path x hx) j hj).2⟩
theorem InB.mono {E E' : Nat} {v : Value} {xs : List Ox} (h : InB E v xs) (hE : E ≤ E') : InB E' v xs :=
  ⟨fun j hj => Nat.lt_of_lt_of_le (h.1 j hj) hE, fun x hx j hj => Nat.lt_of_lt_of_le (h.2 x hx j hj) hE⟩
structure SpS (w0 : World) (B E g cap : Nat) (xs : List Ox) (i : Nat) (W : World) : Prop where
  row : ∃ cur, W.heap[g]? = some (.cells cur 34 (0, 0)) ∧ ∀ i' x, i ≤ i' → xs[i']? = some x → ∀ j, j < 6 → cur[i' * 6 + j]? = (oxC x)[j]?
  path : ∀ x ∈ xs, ∀ a, x.2.1 = some a → ∃ gp cur, a = ⟨gp, 0, none⟩ ∧ W.heap[gp]? = some (.cells cur 9 (0, 0)) ∧ x.1.p.length ≤ cur.size ∧ B ≤ gp ∧ gp < E
  nop : ∀ x ∈ xs, x.2.1 = none → x.1.p.length = 0
  only : Only (fun j => B ≤ j ∧ j < E) w0 W
  lts : B ≤ g ∧ g < E
theorem SpS.mono {w0 : World} {B E g cap : Nat} {xs : List Ox} {i i2 : Nat} {W : World} (h : SpS w0 B E g cap xs i W) (hi : i ≤ i2) : SpS w0 B E g cap xs i2 W := by
  obtain ⟨⟨cur, h1, h2⟩, h3, h4, h5, h6⟩ := h
  exact ⟨⟨cur, h1, fun i' x hx => h2 i' x (Nat.le_trans hi hx)⟩, h3, h4, h5, h6⟩
theorem SpS.setg {w0 : World} {B E g cap : Nat} {xs : List Ox} {i : Nat} {W : World} (h : SpS w0 B E g cap xs i W) {off : Nat} {v : Value} (ho : off < i * 6) : SpS w0 B E g cap xs i (W.setCell ⟨g, off, none⟩ v) := by
  obtain ⟨⟨cur, h1, h2⟩, h3, h4, h5, h6⟩ := h
  obtain ⟨c, hon⟩ := Ki.set_one (i := off) v h1
  refine ⟨⟨_, c, fun i' x hi hx j hj => ?_⟩, fun x hx a ha => ?_, h4, h5.trans hon (fun j _ e => by subst e; exact h6), h6⟩
  · have hne : off ≠ i' * 6 + j := by
      have := Nat.mul_le_mul_right 6 hi
      omega
    rw [Array.getElem?_setIfInBounds_ne hne]
    exact h2 i' x hi hx j hj
  · obtain ⟨gp, cp, e, g1, g2, g3⟩ := h3 x hx a ha
    have hne : gp ≠ g := fun e => by
      rw [e, h1] at g1
      simp at g1
    exact ⟨gp, cp, e, (hon.block gp (Array.getElem?_eq_some_iff.1 g1).1 hne).trans g1, g2, g3⟩
theorem SpS.setp {w0 : World} {B E g cap : Nat} {xs : List Ox} {i : Nat} {W : World} (h : SpS w0 B E g cap xs i W) {x : Ox} {gp k : Nat} {v : Value} (hx : x ∈ xs) (ha : x.2.1 = some ⟨gp, 0, none⟩) : SpS w0 B E g cap xs i (W.setCell ⟨gp, k, none⟩ v) := by
  obtain ⟨⟨cur, h1, h2⟩, h3, h4, h5, h6⟩ := h
  obtain ⟨gp', cp, e, g1, g2, g3⟩ := h3 x hx _ ha
  simp only [Addr.mk.injEq, and_true] at e
  subst e
  have hne : g ≠ gp := fun e => by
    rw [← e, h1] at g1
    simp at g1
  obtain ⟨c, hon⟩ := Ki.set_one (i := k) v g1
  refine ⟨⟨cur, (hon.block g (Array.getElem?_eq_some_iff.1 h1).1 hne).trans h1, h2⟩, fun y hy a hya => ?_, h4, h5.trans hon (fun j _ e => by subst e; exact g3), h6⟩
  obtain ⟨gq, cq, e, q1, q2, q3⟩ := h3 y hy a hya
  by_cases hq : gq = gp
  · subst hq
    rw [g1] at q1
    simp only [Option.some.injEq, Obj.cells.injEq, and_true] at q1
    obtain ⟨rfl⟩ := q1
    exact ⟨gq, _, e, c, by simpa using q2, q3⟩
  · exact ⟨gq, cq, e, (hon.block gq (Array.getElem?_eq_some_iff.1 q1).1 hq).trans q1, q2, q3⟩
theorem SpS.cells {w0 : World} {B E g cap : Nat} {xs : List Ox} {i : Nat} {W : World} (h : SpS w0 B E g cap xs i W) {x : Ox} (hx : xs[i]? = some x) :
    (W.cell? ⟨g, i * 6, none⟩ = some (.slice x.2.1 x.1.p.length x.2.2) ∧ W.cell? ⟨g, i * 6 + 1, none⟩ = some (.int .i64 x.1.k) ∧ W.cell? ⟨g, i * 6 + 2, none⟩ = some (.string x.1.s) ∧ W.cell? ⟨g, i * 6 + 3, none⟩ = some (.int .i64 x.1.d) ∧ W.cell? ⟨g, i * 6 + 4, none⟩ = some (.int .i64 x.1.n) ∧ W.cell? ⟨g, i * 6 + 5, none⟩ = some (.string x.1.t)) ∧ (∀ j, W.frozen? ⟨g, j, none⟩ = false) := by
  obtain ⟨⟨cur, h1, h2⟩, -, -, -, -⟩ := h
  have q := fun j hj => h2 i x (Nat.le_refl _) hx j hj
  refine ⟨⟨?_, ?_, ?_, ?_, ?_, ?_⟩, fun j => frozen_of_row _ _ j _ 34 h1⟩
  · rw [cell_of_row _ _ _ _ 34 (0, 0) h1]; exact q 0 (by omega)
  · rw [cell_of_row _ _ _ _ 34 (0, 0) h1]; exact q 1 (by omega)
  · rw [cell_of_row _ _ _ _ 34 (0, 0) h1]; exact q 2 (by omega)
  · rw [cell_of_row _ _ _ _ 34 (0, 0) h1]; exact q 3 (by omega)
  · rw [cell_of_row _ _ _ _ 34 (0, 0) h1]; exact q 4 (by omega)
  · rw [cell_of_row _ _ _ _ 34 (0, 0) h1]; exact q 5 (by omega)
theorem SpS.pcell {w0 : World} {B E g cap : Nat} {xs : List Ox} {i : Nat} {W : World} (h : SpS w0 B E g cap xs i W) {x : Ox} (hx : x ∈ xs) {k : Nat} (hk : k < x.1.p.length) : ∃ gp u, x.2.1 = some ⟨gp, 0, none⟩ ∧ W.cell? ⟨gp, k, none⟩ = some u ∧ W.frozen? ⟨gp, k, none⟩ = false := by
  cases ha : x.2.1 with
  | none => have := h.nop x hx ha; omega
  | some a =>
    obtain ⟨gp, cur, e, g1, g2, -⟩ := h.path x hx a ha
    subst e
    refine ⟨gp, cur[k]'(by omega), rfl, ?_, frozen_of_row _ _ k _ 9 g1⟩
    rw [cell_of_row _ _ _ _ 9 (0, 0) g1, Array.getElem?_eq_getElem]
theorem Oq.sps {w : World} {B E : Nat} {v : Value} {xs : List Ox} (h : Oq w B v xs) (hE : InB E v xs) (hne : xs ≠ []) : ∃ g cap, v = .slice (some ⟨g, 0, none⟩) xs.length cap ∧ SpS w B E g cap xs 0 w := by
  rcases h.row.2 with ⟨-, h0⟩ | ⟨g, cap, cur, h1, h2, h3, h4, h5, h6, h7⟩
  · exact absurd (List.eq_nil_of_length_eq_zero h0) hne
  · refine ⟨g, cap, h1, ⟨cur, h3, fun i' x _ hx j hj => ?_⟩, fun x hx a ha => ?_, fun x hx ha => ?_, Only.refl _ _, h2, hE.1 g (by rw [h1]; rfl)⟩
    · have hi' : i' < xs.length := (List.getElem?_eq_some_iff.1 hx).1
      have := oxC_get xs i' j x hx hj
      rw [← h7, List.getElem?_take] at this
      rw [if_pos (by have := Nat.mul_le_mul_right 6 (show i' + 1 ≤ xs.length from hi'); omega)] at this
      simpa using this
    · rcases (h.path x hx).2 with ⟨q1, -⟩ | ⟨gp, cp, cup, q1, q2, q3, q4, q5, q6, q7⟩
      · rw [ha] at q1; simp at q1
      · rw [ha] at q1
        simp only [Value.slice.injEq, Option.some.injEq, true_and] at q1
        obtain ⟨rfl, rfl⟩ := q1
        exact ⟨gp, cup, rfl, q3, by omega, q2, hE.2 x hx gp (by rw [ha]; rfl)⟩
    · rcases (h.path x hx).2 with ⟨-, q2⟩ | ⟨gp, cp, cup, q1, -⟩
      · exact q2
      · rw [ha] at q1; simp at q1

set_option maxHeartbeats 4000000 in
set_option maxRecDepth 100000 in
theorem spoil33_any {w : World} {B E : Nat} {v : Value} {xs : List Ox} (h : Oq w B v xs) (hE : InB E v xs) (hl : xs.length ≤ 100000) : Calls Tryz.prog 33 #[v] w fun e w' => e = .returned (.tuple #[]) ∧ Only (fun j => B ≤ j ∧ j < E) w w' := by
  by_cases hne : xs = []
  · subst hne
    obtain ⟨ao, c, rfl, -, -, -, -⟩ := h.shape
    go_enter Tryz.func33, Tryz.ntmps33
    go_wp2
    go_loopw [2] (fun v2 wr => v2 = .int .i64 0 ∧ wr = w) (fun _ _ => 0)
    case atStart => exact ⟨rfl, rfl⟩
    case round =>
      obtain ⟨rfl, rfl⟩ := hrel
      go_wp2
      refine bodyPost_end (results_none rfl _ _ _) rfl ?_
      exact ⟨rfl, Only.refl _ _⟩
  · obtain ⟨g, cap, rfl, hs⟩ := h.sps hE hne
    have hpl := h.plen
    have HS := hide hs
    clear hs h hE hne
    go_enter Tryz.func33, Tryz.ntmps33
    go_wp2
    go_loopw [2, 3] (fun v2 v3 wr => ∃ i : Nat, v2 = .int .i64 (i : Nat) ∧ i ≤ xs.length ∧ Hid (SpS w B E g cap xs i wr)) (fun v2 _ _ => xs.length - (intOf v2).toNat)
    case atStart => exact ⟨0, rfl, Nat.zero_le _, HS⟩
    case round =>
      obtain ⟨i, rfl, hi, HI⟩ := hrel
      by_cases hlt : i < xs.length
      · have z : (i : Int) < (xs.length : Int) := by omega
        obtain ⟨x, hx⟩ : ∃ r, xs[i]? = some r := ⟨_, List.getElem?_eq_getElem hlt⟩
        have hxm := List.mem_of_getElem? hx
        have hN := hpl x hxm
        obtain ⟨N, hNe⟩ : ∃ r, r = x.1.p.length := ⟨_, rfl⟩
        have HX := hide (And.intro hx (And.intro hxm hNe))
        rw [← hNe] at hN
        clear hx hxm hNe
        go_wp2
        go_loopw [3] (fun v3 wq => ∃ k : Nat, v3 = .int .i64 (k : Nat) ∧ k ≤ N ∧ Hid (SpS w B E g cap xs i wq)) (fun v3 _ => N - (intOf v3).toNat)
        case atStart => exact ⟨0, rfl, Nat.zero_le _, HI⟩
        case round =>
          obtain ⟨k, rfl, hk, HK⟩ := hrel
          obtain ⟨⟨c0, c1, c2, c3, c4, c5⟩, hf⟩ := HK.out.cells HX.out.1
          rw [← HX.out.2.2] at c0
          by_cases hkn : k < N
          · obtain ⟨gp, u, ha, p0, p1⟩ := HK.out.pcell HX.out.2.1 (k := k) (by rw [← HX.out.2.2]; exact hkn)
            rw [ha] at c0
            have HA := hide ha
            clear ha c1 c2 c3 c4 c5 hf
            go_wp2
            go_roundw
            case rel => exact ⟨k + 1, by go_num, by omega, hide (HK.out.setp HX.out.2.1 HA.out)⟩
            case measure => simp [intOf]; omega
          · have f0 := hf (i * 6)
            have f1 := hf (i * 6 + 1)
            have f2 := hf (i * 6 + 2)
            have f3 := hf (i * 6 + 3)
            have f4 := hf (i * 6 + 4)
            have f5 := hf (i * 6 + 5)
            clear hf
            go_wp2
            go_roundw
            case rel => exact ⟨i + 1, by go_num, by omega, hide (((((((HK.out.mono (Nat.le_succ i)).setg (by omega)).setg (by omega)).setg (by omega)).setg (by omega)).setg (by omega)).setg (by omega))⟩
            case measure => simp [intOf]; omega
      · go_wp2
        refine bodyPost_end (results_none rfl _ _ _) rfl ?_
        exact ⟨rfl, HI.out.only⟩
end Go.Proofs.YtpepgoelnagoaaaGreatDoor
namespace Go.Proofs.YtpepgoelnagoaaaGreatDoor
open Go.RowKit Go.Shelf
set_option linter.unusedSimpArgs false
set_option linter.unusedVariables false
attribute [local go_sem] Oper.semAt_some

theorem slice_to {w : World} {ao : Option Addr} {l : List Int} {n cap j : Nat} (hr : Rd w ao l) (hl : l.length = n) (hj : j ≤ n) (hc : n ≤ cap) :
    (∀ w', (Instr.slice 26 (.slice ao n cap) none (some (.int .i64 j)) none).run Tryz.prog w' = .ok (.slice ao j cap) w') ∧ Rd w ao (l.take j) := by
  refine ⟨fun w' => ?_, ⟨fun h => ?_, fun a ha k u hk => ?_⟩⟩
  · have h2 : (0 : Int) ≤ (j : Int) ∧ (j : Int) ≤ (cap : Int) := by omega
    simp [Instr.slice, Instr.sliceBounds, Instr.sliceBound, asIntOf, run_underlying Tryz.underlying26, go_sem, show j ≤ cap by omega]
  · rw [hr.1 h]; simp
  · refine hr.2 a ha k u ?_
    rw [u8s_get] at hk ⊢
    rw [List.getElem?_take] at hk
    split at hk
    · exact hk
    · simp at hk

end Go.Proofs.YtpepgoelnagoaaaGreatDoor
