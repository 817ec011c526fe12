/-
  OPS, texts: cuts at a separator; an operation's text and a list's read back.
  OPS, forms: takeText 228, takeKey 225, End 69; the methods do 220, key 221, number 222, text 224 of the source 'formed'.
  OPS, forms: wire.Take[string] 227 over takeKey; the method path 223.
-/
import Derived.Test.YtpepgoelnagoaaaGreatDoorMg14
import Derived.Test.YtpepgoelnagoaaaGreatDoorMg11
import Derived.Test.YtpepgoelnagoaaaGreatDoorMg7
import Derived.Test.YtpepgoelnagoaaaGreatDoorMg9
namespace Go.Proofs.YtpepgoelnagoaaaGreatDoor
open Go.RowKit Go.Shelf
set_option linter.unusedSimpArgs false
set_option linter.unusedVariables false

theorem index_at (a : UInt8) (t r : List UInt8) : ∀ (l : List UInt8), (∀ b ∈ l, b ≠ a) → Lib.index (l ++ (a :: t) ++ r) (a :: t) = l.length
  | [], _ => by
    show Lib.index (a :: (t ++ r)) (a :: t) = 0
    unfold Lib.index
    have : (a :: t).isPrefixOf (a :: (t ++ r)) = true := by
      rw [List.isPrefixOf_iff_prefix]
      exact ⟨r, by simp⟩
    rw [if_pos this]
  | b :: l, h => by
    have ih := index_at a t r l (fun x hx => h x (List.mem_cons_of_mem _ hx))
    have hb : b ≠ a := h b (by simp)
    show Lib.index (b :: (l ++ (a :: t) ++ r)) (a :: t) = _
    unfold Lib.index
    have : (a :: t).isPrefixOf (b :: (l ++ (a :: t) ++ r)) = false := by
      simp [List.isPrefixOf]
      intro e
      exact absurd e.symm hb
    rw [this, ih]
    simp
theorem index_no (a : UInt8) (t : List UInt8) : ∀ (l : List UInt8), (∀ b ∈ l, b ≠ a) → Lib.index l (a :: t) = -1
  | [], _ => rfl
  | b :: l, h => by
    have ih := index_no a t l (fun x hx => h x (List.mem_cons_of_mem _ hx))
    have hb : b ≠ a := h b (by simp)
    unfold Lib.index
    have : (a :: t).isPrefixOf (b :: l) = false := by
      simp [List.isPrefixOf]
      intro e
      exact absurd e.symm hb
    rw [this, ih]
    rfl
theorem cut_mid (a : UInt8) (t r l : List UInt8) (h : ∀ b ∈ l, b ≠ a) : Lib.cut (l ++ (a :: t) ++ r) (a :: t) = (l, r, true) := by
  unfold Lib.cut
  rw [index_at a t r l h, if_pos (by omega), Int.toNat_natCast]
  have h1 : (l ++ (a :: t) ++ r).take l.length = l := by rw [List.append_assoc]; exact List.take_left
  have h2 : (l ++ (a :: t) ++ r).drop (l.length + (a :: t).length) = r := by
    rw [← List.length_append]; exact List.drop_left
  rw [h1, h2]
theorem cut_end (a : UInt8) (t l : List UInt8) (h : ∀ b ∈ l, b ≠ a) : Lib.cut l (a :: t) = (l, [], false) := by
  unfold Lib.cut
  rw [index_no a t l h, if_neg (by omega)]
/-- Where pieces that are joined stand. -/
def qW (sg : List UInt8) (ws : List (List UInt8)) : Pz := if ws = [] then ⟨⟨#[]⟩, false⟩ else ⟨⟨(Lib.join ws sg).toArray⟩, true⟩
theorem join_cons (w v : List UInt8) (ws : List (List UInt8)) (sg : List UInt8) : Lib.join (w :: v :: ws) sg = w ++ sg ++ Lib.join (v :: ws) sg := by
  simp [Lib.join, List.intercalate, List.append_assoc]
theorem join_one (w sg : List UInt8) : Lib.join [w] sg = w := by simp [Lib.join, List.intercalate]
theorem nextW (a : UInt8) (t w : List UInt8) (ws : List (List UInt8)) (h : ∀ b ∈ w, b ≠ a) : nextP (a :: t) (qW (a :: t) (w :: ws)) = (⟨w.toArray⟩, true, qW (a :: t) ws) := by
  have hq : qW (a :: t) (w :: ws) = ⟨⟨(Lib.join (w :: ws) (a :: t)).toArray⟩, true⟩ := if_neg (by simp)
  rw [hq]
  unfold nextP
  rw [if_pos rfl]
  dsimp only
  cases ws with
  | nil =>
    have hc : Lib.cut (Lib.join [w] (a :: t)) (a :: t) = (w, [], false) := by rw [join_one]; exact cut_end a t w h
    show ((⟨(Lib.cut (Lib.join [w] (a :: t)) (a :: t)).1.toArray⟩ : ByteArray), true, (⟨⟨(Lib.cut (Lib.join [w] (a :: t)) (a :: t)).2.1.toArray⟩, (Lib.cut (Lib.join [w] (a :: t)) (a :: t)).2.2⟩ : Pz)) = _
    rw [hc]
    rfl
  | cons v ws =>
    have hc : Lib.cut (Lib.join (w :: v :: ws) (a :: t)) (a :: t) = (w, Lib.join (v :: ws) (a :: t), true) := by rw [join_cons]; exact cut_mid a t _ w h
    show ((⟨(Lib.cut (Lib.join (w :: v :: ws) (a :: t)) (a :: t)).1.toArray⟩ : ByteArray), true, (⟨⟨(Lib.cut (Lib.join (w :: v :: ws) (a :: t)) (a :: t)).2.1.toArray⟩, (Lib.cut (Lib.join (w :: v :: ws) (a :: t)) (a :: t)).2.2⟩ : Pz)) = _
    rw [hc]
    rfl
theorem ne32 {w : List UInt8} (h : ∀ b ∈ w, inWord b) : ∀ b ∈ w, b ≠ 32 := fun b hb e => (h b hb).1 (by rw [e]; rfl)
theorem doW_in (d : Int) (h1 : 1 ≤ d) (h7 : d ≤ 7) : (∀ b ∈ doW d, inWord b) ∧ Ki.ofWB Ki.doWs ⟨(doW d).toArray⟩ = (d, true) ∧ 3 ≤ (doW d).length := by
  have key : ∀ l : List UInt8, l.all (fun b => decide (b.toNat ≠ 32) && decide (b.toNat ≠ 59)) = true → ∀ b ∈ l, inWord b := fun l h b hb => by
    have := List.all_eq_true.1 h b hb
    simp only [Bool.and_eq_true, decide_eq_true_eq] at this
    exact this
  rcases (by omega : d = 1 ∨ d = 2 ∨ d = 3 ∨ d = 4 ∨ d = 5 ∨ d = 6 ∨ d = 7) with rfl | rfl | rfl | rfl | rfl | rfl | rfl <;>
    exact ⟨key _ (by kernel_rfl), by kernel_rfl, of_decide_eq_true (by kernel_rfl)⟩
def tailW (o : Od) : List (List UInt8) := if o.d = 1 then [decL o.n] else if o.d = 6 then [] else [wordB o.t.data.toList]
theorem rd3_text {o : Od} (ho : OkO o) : rd3 (spZ blankS) (qW [32] (txW o)) = ((o.d, o.p, o.s), 0, qW [32] (tailW o)) := by
  obtain ⟨hd, hof, -⟩ := doW_in o.d ho.d1 ho.d7
  have hb : blankS.data.toList = [32] := rfl
  obtain ⟨tail, htail⟩ : ∃ t, t = tailW o := ⟨_, rfl⟩
  have hw : txW o = doW o.d :: wordB (joinB o.p) :: wordB o.s.data.toList :: tail := by rw [htail]; rfl
  have e1 : fld (spZ blankS).pd 0 0 (qW [32] (txW o)) = (o.d, 0, qW [32] (wordB (joinB o.p) :: wordB o.s.data.toList :: tail)) := by
    show spD [32] (qW [32] (txW o)) = _
    unfold spD
    rw [hw, nextW 32 [] _ _ (ne32 hd)]
    dsimp only
    rw [hof]
    rfl
  have e2 : fld (spZ blankS).pp [] 0 (qW [32] (wordB (joinB o.p) :: wordB o.s.data.toList :: tail)) = (o.p, 0, qW [32] (wordB o.s.data.toList :: tail)) := by
    show spP [32] (qW [32] (wordB (joinB o.p) :: wordB o.s.data.toList :: tail)) = _
    unfold spP
    rw [nextW 32 [] _ _ (ne32 (word_in _))]
    dsimp only
    rw [unword_word]
    have hs : splitP (unP (some (joinB o.p))) = (o.p, 0) := by
      unfold splitP unP
      dsimp only
      rw [if_pos rfl]
      show (match splitB (joinB o.p) with | some L => (keysOf L, (0 : Int)) | none => ([], 4)) = _
      rw [split_join ho.path]
      dsimp only
      rw [keysOf_map]
    rw [hs]
  have e3 : fld (spZ blankS).pk ⟨#[]⟩ 0 (qW [32] (wordB o.s.data.toList :: tail)) = (o.s, 0, qW [32] tail) := by
    show spT [32] (qW [32] (wordB o.s.data.toList :: tail)) = _
    unfold spT
    rw [nextW 32 [] _ _ (ne32 (word_in _))]
    dsimp only
    rw [unword_word]
    rfl
  rw [← htail]
  unfold rd3
  rw [e1]
  dsimp only
  rw [e2]
  dsimp only
  rw [e3]
/-- An operation's words read back. -/
theorem rdO_text {o : Od} (ho : OkO o) (hn : I64 o.n) : rdO (spZ blankS) (qW [32] (txW o)) = (o, 0, qW [32] []) := by
  have h3 := rd3_text ho
  obtain ⟨tail, htail⟩ : ∃ t, t = tailW o := ⟨_, rfl⟩
  rw [← htail] at h3
  have h4 : rd4 (spZ blankS) o.d 0 (qW [32] tail) = ((o.n, o.t), 0, qW [32] []) := by
    unfold rd4
    rw [htail]
    unfold tailW
    by_cases h1 : o.d = 1
    · have e4 : fld (spZ blankS).pn 0 0 (qW [32] [decL o.n]) = (o.n, 0, qW [32] []) := by
        show spN [32] (qW [32] [decL o.n]) = _
        unfold spN
        rw [nextW 32 [] _ _ (ne32 (dec_in _))]
        dsimp only
        rw [numW_dec hn]
        rfl
      rw [if_pos h1, if_pos h1, e4, ho.add h1]
    · by_cases h6 : o.d = 6
      · rw [if_neg h1, if_pos h6, if_neg h1, if_pos h6, ho.num h1, ho.pop h6]
      · have e4 : fld (spZ blankS).pt ⟨#[]⟩ 0 (qW [32] [wordB o.t.data.toList]) = (o.t, 0, qW [32] []) := by
          show spT [32] (qW [32] [wordB o.t.data.toList]) = _
          unfold spT
          rw [nextW 32 [] _ _ (ne32 (word_in _))]
          dsimp only
          rw [unword_word]
          rfl
        rw [if_neg h1, if_neg h6, if_neg h1, if_neg h6, e4, ho.num h1]
  unfold rdO
  rw [h3]
  dsimp only
  rw [h4]
  dsimp only
  rw [← ho.kind]
theorem txW_ne (o : Od) : txW o ≠ [] := by unfold txW; simp
theorem qW_text (o : Od) : qW [32] (txW o) = ⟨⟨(txO o).toArray⟩, true⟩ := if_neg (txW_ne o)
theorem parseS_text {o : Od} (hc : chkO o = 0) (hn : I64 o.n) : parseS ⟨(txO o).toArray⟩ = (o, 0) := by
  have h := rdO_text (ok_of hc) hn
  rw [qW_text] at h
  unfold parseS
  rw [h]
  have hq : (nextP [32] (qW [32] [])).2.1 = false := rfl
  rw [hq, if_neg (by simp)]
  unfold readS
  rw [h]
  dsimp only
  rw [if_pos ⟨rfl, hc⟩]
theorem txO_in {o : Od} (ho : OkO o) (hn : I64 o.n) : (∀ b ∈ txO o, b ≠ 59) ∧ 4 ≤ (txO o).length := by
  obtain ⟨hd, -, h3⟩ := doW_in o.d ho.d1 ho.d7
  have hall : ∀ w ∈ txW o, ∀ b ∈ w, inWord b := by
    intro w hw
    unfold txW at hw
    rcases List.mem_append.1 hw with hw | hw
    · simp only [List.mem_cons, List.not_mem_nil, or_false] at hw
      rcases hw with rfl | rfl | rfl
      · exact hd
      · exact word_in _
      · exact word_in _
    · split at hw
      · simp only [List.mem_cons, List.not_mem_nil, or_false] at hw
        subst hw; exact dec_in _
      · split at hw
        · cases hw
        · simp only [List.mem_cons, List.not_mem_nil, or_false] at hw
          subst hw; exact word_in _
  have hj : ∀ (ws : List (List UInt8)), (∀ w ∈ ws, ∀ b ∈ w, inWord b) → ∀ b ∈ Lib.join ws [32], b ≠ 59 := by
    intro ws
    induction ws with
    | nil => intro _ b hb; simp [Lib.join, List.intercalate] at hb
    | cons w ws ih =>
      intro h b hb
      cases ws with
      | nil =>
        rw [join_one] at hb
        intro e
        exact (h w (by simp) b hb).2 (by rw [e]; rfl)
      | cons v ws =>
        rw [join_cons] at hb
        rcases List.mem_append.1 hb with hb | hb
        · rcases List.mem_append.1 hb with hb | hb
          · intro e; exact (h w (by simp) b hb).2 (by rw [e]; rfl)
          · simp only [List.mem_cons, List.not_mem_nil, or_false] at hb
            subst hb; decide
        · exact ih (fun x hx => h x (List.mem_cons_of_mem _ hx)) b hb
  refine ⟨hj _ hall, ?_⟩
  unfold txO txW
  rw [List.cons_append, List.cons_append, join_cons, List.length_append, List.length_append]
  simp
  omega
theorem pcs_text : ∀ (ls : List (List UInt8)) (n : Nat), ls.length ≤ n → (∀ l ∈ ls, ∀ b ∈ l, b ≠ 59) → pcsQ [59, 32] n (qW [59, 32] ls) = ls.map (fun l => (⟨l.toArray⟩ : ByteArray))
  | [], n, _, _ => pcsQ_done rfl n
  | l :: ls, 0, h, _ => by simp at h
  | l :: ls, n + 1, h, hb => by
    have hm : (qW [59, 32] (l :: ls)).more = true := rfl
    unfold pcsQ
    rw [if_pos hm, nextW 59 [32] l ls (hb l (by simp))]
    dsimp only
    rw [pcs_text ls n (by simpa using h) (fun x hx => hb x (List.mem_cons_of_mem _ hx))]
    rfl
theorem join_len (sg : List UInt8) : ∀ (ls : List (List UInt8)), (∀ l ∈ ls, 4 ≤ l.length) → 4 * ls.length ≤ (Lib.join ls sg).length
  | [], _ => by simp
  | [l], h => by rw [join_one]; have := h l (by simp); simpa using this
  | l :: v :: ls, h => by
    have ih := join_len sg (v :: ls) (fun x hx => h x (List.mem_cons_of_mem _ hx))
    have := h l (by simp)
    rw [join_cons, List.length_append, List.length_append]
    simp only [List.length_cons] at ih ⊢
    omega
abbrev txT (l : List Od) : ByteArray := ⟨(txA l).toArray⟩
/-- The pieces of a list's text are its operations' texts. -/
theorem pieces_text {l : List Od} (hne : l ≠ []) (h : ∀ o ∈ l, chkO o = 0 ∧ I64 o.n) : piecesA (txT l) = l.map (fun o => (⟨(txO o).toArray⟩ : ByteArray)) ∧ txT l ≠ ⟨#[46]⟩ := by
  have ht : txA l = Lib.join (l.map txO) [59, 32] := if_neg hne
  have hin : ∀ x ∈ l.map txO, (∀ b ∈ x, b ≠ 59) ∧ 4 ≤ x.length := by
    intro x hx
    obtain ⟨o, ho, rfl⟩ := List.mem_map.1 hx
    exact txO_in (ok_of (h o ho).1) (h o ho).2
  have hlen := join_len [59, 32] (l.map txO) (fun x hx => (hin x hx).2)
  have hpos : 0 < l.length := List.length_pos_iff.2 hne
  rw [List.length_map] at hlen
  have hsz : (txT l).size = (Lib.join (l.map txO) [59, 32]).length := by
    rw [Lib.size_eq]
    show (txA l).length = _
    rw [ht]
  refine ⟨?_, fun e => ?_⟩
  · have hq : qW [59, 32] (l.map txO) = ⟨txT l, true⟩ := by
      unfold qW
      rw [if_neg (by simpa using hne), ← ht]
    unfold piecesA
    rw [← hq, pcs_text _ _ (by rw [List.length_map, hsz]; omega) (fun x hx => (hin x hx).1), List.map_map]
    rfl
  · have h1 : (txT l).size = 1 := by rw [e]; rfl
    omega
theorem parseA_text {l : List Od} (hl : l.length ≤ 64) (h : ∀ o ∈ l, chkO o = 0 ∧ I64 o.n) : parseA (txT l) = (l, 0) := by
  by_cases hne : l = []
  · subst hne
    exact if_pos rfl
  · obtain ⟨hp, hd⟩ := pieces_text hne h
    unfold parseA
    rw [if_neg hd, hp, if_pos]
    · rw [List.map_map]
      congr 1
      conv => rhs; rw [← List.map_id l]
      exact List.map_congr_left (fun o ho => by
        show (parseS ⟨(txO o).toArray⟩).1 = o
        rw [parseS_text (h o ho).1 (h o ho).2])
    · refine ⟨by rw [List.length_map]; exact hl, fun x hx => ?_⟩
      obtain ⟨o, ho, rfl⟩ := List.mem_map.1 hx
      rw [parseS_text (h o ho).1 (h o ho).2]
theorem num_text {o : Od} (hc : chkO o = 0) (hn : I64 o.n) : numOk ⟨(txO o).toArray⟩ = true := by
  have h3 := rd3_text (ok_of hc)
  rw [qW_text] at h3
  unfold numOk
  rw [h3]
  dsimp only
  split
  next h1 =>
    unfold tailW
    rw [if_pos h1.1, nextW 32 [] _ _ (ne32 (dec_in _))]
    show okPI (decL o.n) = true
    unfold okPI
    rw [parse_itoa hn]
  next => rfl
theorem nums_text {l : List Od} (h : ∀ o ∈ l, chkO o = 0 ∧ I64 o.n) : ∀ x ∈ piecesA (txT l), numOk x = true := by
  by_cases hne : l = []
  · subst hne
    intro x hx
    have hp : piecesA (txT []) = [⟨#[46]⟩] := by kernel_rfl
    rw [hp] at hx
    simp only [List.mem_cons, List.not_mem_nil, or_false] at hx
    have h46 : numOk ⟨#[46]⟩ = true := by kernel_rfl
    rw [hx]
    exact h46
  · intro x hx
    rw [(pieces_text hne h).1] at hx
    obtain ⟨o, ho, rfl⟩ := List.mem_map.1 hx
    exact num_text (h o ho).1 (h o ho).2
end Go.Proofs.YtpepgoelnagoaaaGreatDoor
namespace Go.Proofs.YtpepgoelnagoaaaGreatDoor
open Go.RowKit Go.Shelf
variable {K : Nat → Prop}
set_option linter.unusedSimpArgs false
set_option linter.unusedVariables false
attribute [local go_sem] Oper.semAt_some

theorem Rdr.below {t : TypeId} {w w' : World} {R S : Nat} {l : List Int} (h : Rdr K t w R S l) (hb : Below S w w') : Rdr K t w' R S l := by
  obtain ⟨ao, cap, h1, h2, h3, h4, h5, h6, h7, h8⟩ := h
  have ho : Only (fun j => S ≤ j) w w' := ⟨hb.os, hb.tape, hb.output, hb.size, fun k _ hn => hb.block k (by omega)⟩
  refine ⟨ao, cap, (hb.block R h7).trans h1, ho.rd h2 (fun a ha => by have := (h6 a ha).1.1; omega), h3, h4, h5, h6, h7, h8⟩
theorem rnum_lt {t : TypeId} {w : World} {R S : Nat} {l : List Int} (hR : Rdr K 77 w R S l) : (rnum l).1 < 18446744073709551616 ∧ (rnum l).2.2.length ≤ l.length := by
  rcases h : Plain.readN 0 0 l with _ | ⟨n, k⟩
  · rw [rnum_none h]; simp
  · rw [rnum_some h]
    exact ⟨(readN_lt hR h).1, by simp⟩
theorem rbytes_left (most : Int) (l : List Int) : (rbytes most l).2.2.length ≤ l.length := by
  have := rcount_left most l
  unfold rbytes
  split
  · split
    · simp
    · simp; omega
  · simp
/-- What reading a text answers. -/
def rtext (most : Int) (l : List Int) : ByteArray × Int × List Int := (strOfNums (rbytes most l).1, (rbytes most l).2.1, (rbytes most l).2.2)

set_option maxHeartbeats 1000000 in
set_option maxRecDepth 100000 in
theorem takeText_any (R S : Nat) (most : Int) (l : List Int) (w : World) (hR : Rdr K 77 w R S l) (hm : most ≤ 9223372036854775807) (hl47 : l.length ≤ 140737488355328) :
    Calls Tryz.prog 228 #[.pointer (some ⟨R, 0, none⟩), .int .i64 most] w fun e w' => e = .returned (.tuple #[.string (rtext most l).1, .int .i64 (rtext most l).2.1]) ∧ Rdr K 77 w' R S (rtext most l).2.2 ∧ w.grownBy w' (some R) := by
  have k := rbytes_any R S most l w hR hm hl47
  show Calls _ _ _ _ (fun e w' => e = .returned (.tuple #[.string (strOfNums (rbytes most l).1), .int .i64 (rbytes most l).2.1]) ∧ Rdr K 77 w' R S (rbytes most l).2.2 ∧ w.grownBy w' (some R))
  generalize rbytes most l = q at k ⊢
  obtain ⟨b, er, l'⟩ := q
  dsimp only at k ⊢
  go_enter Tryz.func228, Tryz.ntmps228
  go_wp2_with (go_at_call 229; refine k.mono ?_; rintro e w2 ⟨ao, cap, rfl, hown, hnil, hr2, hg⟩; have hcv := conv_rd (cap := cap) hown.rd rfl; have H2 := hide (And.intro hr2 hg); clear hr2 hg hown)
  go_ret2
  exact ⟨rfl, H2.out⟩

set_option maxHeartbeats 1000000 in
set_option maxRecDepth 100000 in
theorem takeKey_any (R S : Nat) (l : List Int) (w : World) (hR : Rdr K 77 w R S l) (hl47 : l.length ≤ 140737488355328) :
    Calls Tryz.prog 225 #[.pointer (some ⟨R, 0, none⟩)] w fun e w' => e = .returned (.tuple #[.string (rtext 64 l).1, .int .i64 (rtext 64 l).2.1]) ∧ Rdr K 77 w' R S (rtext 64 l).2.2 ∧ w.grownBy w' (some R) := by
  have k := takeText_any R S 64 l w hR (by omega) hl47
  generalize rtext 64 l = q at k ⊢
  obtain ⟨b, er, l'⟩ := q
  dsimp only at k ⊢
  go_enter Tryz.func225, Tryz.ntmps225
  go_wp2_with (go_at_call 228; refine k.mono ?_; rintro e w2 ⟨rfl, hr2⟩; have H2 := hide hr2; clear hr2)
  go_ret2
  exact ⟨rfl, H2.out⟩

/-- Whether all is read. -/
def endE (l : List Int) : Int := if l = [] then 0 else 4
set_option maxHeartbeats 1000000 in
set_option maxRecDepth 100000 in
theorem end_any (R S : Nat) (l : List Int) (w : World) (hR : Rdr K 77 w R S l) : Calls Tryz.prog 69 #[.pointer (some ⟨R, 0, none⟩)] w fun e w' => e = .returned (.int .i64 (endE l)) ∧ w = w' := by
  obtain ⟨ao, cap, c0, c1, f0, f1, hsz, hl⟩ := hR.cells
  have km := missing_no R w c1
  clear hR
  cases l with
  | nil =>
    go_enter Tryz.func69, Tryz.ntmps69
    go_wp2_with (go_at_call 75; refine (km).mono ?_; rintro e w1 ⟨rfl, h1⟩; have h1 := h1.symm; subst h1)
    go_ret
    exact ⟨rfl, rfl⟩
  | cons b r =>
    have hp : decide ((0 : Int) < ((b :: r).length : Int)) = true := by simp
    go_enter Tryz.func69, Tryz.ntmps69
    go_wp2_with (go_at_call 75; refine (km).mono ?_; rintro e w1 ⟨rfl, h1⟩; have h1 := h1.symm; subst h1)
    go_ret
    exact ⟨rfl, rfl⟩
/-- Where the bytes of a form stand, since the world w0. -/
structure FmSt (K : Nat → Prop) (w0 : World) (R : Nat) (q : List Int) (W : World) : Prop where
  rd : Rdr K 77 W R (R + 1) q
  old : Below w0.heap.size w0 W
  le : R + 1 ≤ W.heap.size
  len : q.length ≤ 140737488355328
structure FmIn (w0 : World) (R : Nat) : Prop where
  env : EnvO w0
  r : w0.heap.size ≤ R
theorem FmSt.below {w0 : World} {R : Nat} {q : List Int} {W W' : World} (hi : FmIn w0 R) (h : FmSt K w0 R q W) (hb : Below (R + 1) W W') : FmSt K w0 R q W' :=
  ⟨h.rd.below hb, h.old.trans (hb.mono (by have := hi.r; omega)), Nat.le_trans h.le hb.size, h.len⟩
theorem FmSt.env {w0 : World} {R : Nat} {q : List Int} {W : World} (hi : FmIn w0 R) (h : FmSt K w0 R q W) : EnvO W := hi.env.below h.old
theorem FmSt.step {w0 : World} {R : Nat} {q q' : List Int} {W W1 w2 : World} (hi : FmIn w0 R) (h : FmSt K w0 R q W) (hb : Below W.heap.size W W1) (hp : Rdr K 77 w2 R (R + 1) q') (hg : W1.grownBy w2 (some R)) (hl : q'.length ≤ q.length) : FmSt K w0 R q' w2 ∧ Only (fun j => j = R) W w2 := by
  have h1 := hi.r
  have h4 := h.le
  have h5 := hb.size
  have ho : Only (fun j => j = R) W1 w2 := (Only.ofGrown hg).mono (fun _ _ e => by simpa using e.symm)
  have h6 := ho.size
  refine ⟨⟨hp, (h.old.trans (hb.mono h.old.size)).trans (ho.below (Nat.le_trans h.old.size h5) (fun j hj => by omega)), by omega, Nat.le_trans hl h.len⟩, ((Only.ofBelow hb).mono (fun _ _ e => e.elim)).trans ho (fun j hj e => e)⟩
abbrev fmP (R : Nat) : Value := .pointer (some ⟨R, 0, none⟩)
abbrev fmV (R : Nat) : Value := .agg #[fmP R]
def fmD (q : List Int) : Int × Int × List Int := (if 7 < (rnum q).1 then 0 else ((rnum q).1 : Int), if 7 < (rnum q).1 then 4 else (rnum q).2.1, (rnum q).2.2)
def fmN (q : List Int) : Int × Int × List Int := (unfoldN ((rnum q).1 % 18446744073709551616), (rnum q).2.1, (rnum q).2.2)
theorem fmN_is {q : List Int} (h : (rnum q).1 < 18446744073709551616) : fmN q = (unfoldN (rnum q).1, (rnum q).2.1, (rnum q).2.2) := by unfold fmN; rw [Nat.mod_eq_of_lt h]
theorem fmN_i64 (q : List Int) : I64 (fmN q).1 := by
  have h : (rnum q).1 % 18446744073709551616 < 18446744073709551616 := Nat.mod_lt _ (by decide)
  show I64 (unfoldN ((rnum q).1 % 18446744073709551616))
  generalize (rnum q).1 % 18446744073709551616 = n at h
  unfold I64 unfoldN
  split <;> omega
theorem box102 {W : World} {R : Nat} : (W.alloc (.cells #[fmP R] 102)).cell? ⟨W.heap.size, 0, none⟩ = some (fmP R) := (cell_of_row _ _ 0 _ 102 (0, 0) (heap_alloc_new _ _)).trans rfl

set_option maxHeartbeats 1000000 in
set_option maxRecDepth 100000 in
theorem fmdo_st {w0 : World} {R : Nat} {q : List Int} {W : World} (hi : FmIn w0 R) (h : FmSt K w0 R q W) :
    Calls Tryz.prog 220 #[fmV R] W fun e w' => e = .returned (.tuple #[.int .i64 (fmD q).1, .int .i64 (fmD q).2.1]) ∧ FmSt K w0 R (fmD q).2.2 w' ∧ Only (fun j => j = R) W w' := by
  obtain ⟨W1, hW1⟩ : ∃ r, r = W.alloc (.cells #[fmP R] 102) := ⟨_, rfl⟩
  have d1 : Below W.heap.size W W1 := by rw [hW1]; exact (Below.refl _ W).alloc (Nat.le_refl _) _
  have k := rnumber_any R (R + 1) q W1 (h.below hi (d1.mono h.le)).rd
  unfold NumPost at k
  have c0 : W1.cell? ⟨W.heap.size, 0, none⟩ = some (fmP R) := by rw [hW1]; exact box102
  obtain ⟨hlt, hle⟩ := rnum_lt (t := 77) h.rd
  have hst := fun w2 hp hg => FmSt.step (q' := (rnum q).2.2) (w2 := w2) hi h d1 hp hg hle
  have hD : fmD q = (if 7 < (rnum q).1 then 0 else ((rnum q).1 : Int), if 7 < (rnum q).1 then 4 else (rnum q).2.1, (rnum q).2.2) := rfl
  rw [hD]
  clear hD
  generalize rnum q = Z at k hst hlt ⊢
  obtain ⟨n, er, l'⟩ := Z
  dsimp only at k hst hlt ⊢
  have HW := hide (And.intro hW1 hst)
  clear h hi d1 hst hW1 hle
  by_cases hn : 7 < n
  · have hnb : decide ((7 : Int) < (n : Int)) = true := by simp; omega
    simp only [hn, if_true]
    go_enter Tryz.func220, Tryz.ntmps220
    go_upto_region 1 with fail
    rw [← HW.out.1]
    go_wp2_with (go_at_call 177; refine k.mono ?_; rintro e w2 ⟨rfl, hp, hg⟩; have H2 := hide (HW.out.2 w2 hp hg); clear hp hg)
    go_ret2
    exact ⟨rfl, H2.out⟩
  · have hnb : decide ((7 : Int) < (n : Int)) = false := by simp; omega
    have hw64 : IntKind.i64.wrap (n : Int) = (n : Int) := by rw [IntKind.wrap_i64]; omega
    simp only [hn, if_false]
    go_enter Tryz.func220, Tryz.ntmps220
    go_upto_region 1 with fail
    rw [← HW.out.1]
    go_wp2_with (go_at_call 177; refine k.mono ?_; rintro e w2 ⟨rfl, hp, hg⟩; have H2 := hide (HW.out.2 w2 hp hg); clear hp hg)
    go_ret2
    exact ⟨rfl, H2.out⟩

set_option maxHeartbeats 1000000 in
set_option maxRecDepth 100000 in
theorem fmkey_st {w0 : World} {R : Nat} {q : List Int} {W : World} (hi : FmIn w0 R) (h : FmSt K w0 R q W) :
    Calls Tryz.prog 221 #[fmV R] W fun e w' => e = .returned (.tuple #[.string (rtext 64 q).1, .int .i64 (rtext 64 q).2.1]) ∧ FmSt K w0 R (rtext 64 q).2.2 w' ∧ Only (fun j => j = R) W w' := by
  obtain ⟨W1, hW1⟩ : ∃ r, r = W.alloc (.cells #[fmP R] 102) := ⟨_, rfl⟩
  have d1 : Below W.heap.size W W1 := by rw [hW1]; exact (Below.refl _ W).alloc (Nat.le_refl _) _
  have k := takeKey_any R (R + 1) q W1 (h.below hi (d1.mono h.le)).rd h.len
  have c0 : W1.cell? ⟨W.heap.size, 0, none⟩ = some (fmP R) := by rw [hW1]; exact box102
  have hle : (rtext 64 q).2.2.length ≤ q.length := rbytes_left 64 q
  have hst := fun w2 hp hg => FmSt.step (q' := (rtext 64 q).2.2) (w2 := w2) hi h d1 hp hg hle
  generalize rtext 64 q = Z at k hst ⊢
  obtain ⟨n, er, l'⟩ := Z
  dsimp only at k hst ⊢
  have HW := hide (And.intro hW1 hst)
  clear h hi d1 hst hW1 hle
  go_enter Tryz.func221, Tryz.ntmps221
  go_upto_region 1 with fail
  rw [← HW.out.1]
  go_wp2_with (go_at_call 225; refine k.mono ?_; rintro e w2 ⟨rfl, hp, hg⟩; have H2 := hide (HW.out.2 w2 hp hg); clear hp hg)
  go_ret2
  exact ⟨rfl, H2.out⟩

set_option maxHeartbeats 1000000 in
set_option maxRecDepth 100000 in
theorem fmtext_st {w0 : World} {R : Nat} {q : List Int} {W : World} (hi : FmIn w0 R) (h : FmSt K w0 R q W) :
    Calls Tryz.prog 224 #[fmV R] W fun e w' => e = .returned (.tuple #[.string (rtext 256 q).1, .int .i64 (rtext 256 q).2.1]) ∧ FmSt K w0 R (rtext 256 q).2.2 w' ∧ Only (fun j => j = R) W w' := by
  obtain ⟨W1, hW1⟩ : ∃ r, r = W.alloc (.cells #[fmP R] 102) := ⟨_, rfl⟩
  have d1 : Below W.heap.size W W1 := by rw [hW1]; exact (Below.refl _ W).alloc (Nat.le_refl _) _
  have k := takeText_any R (R + 1) 256 q W1 (h.below hi (d1.mono h.le)).rd (by omega) h.len
  have c0 : W1.cell? ⟨W.heap.size, 0, none⟩ = some (fmP R) := by rw [hW1]; exact box102
  have hle : (rtext 256 q).2.2.length ≤ q.length := rbytes_left 256 q
  have hst := fun w2 hp hg => FmSt.step (q' := (rtext 256 q).2.2) (w2 := w2) hi h d1 hp hg hle
  generalize rtext 256 q = Z at k hst ⊢
  obtain ⟨n, er, l'⟩ := Z
  dsimp only at k hst ⊢
  have HW := hide (And.intro hW1 hst)
  clear h hi d1 hst hW1 hle
  go_enter Tryz.func224, Tryz.ntmps224
  go_upto_region 1 with fail
  rw [← HW.out.1]
  go_wp2_with (go_at_call 228; refine k.mono ?_; rintro e w2 ⟨rfl, hp, hg⟩; have H2 := hide (HW.out.2 w2 hp hg); clear hp hg)
  go_ret2
  exact ⟨rfl, H2.out⟩

set_option maxHeartbeats 1000000 in
set_option maxRecDepth 100000 in
theorem fmnum_st {w0 : World} {R : Nat} {q : List Int} {W : World} (hi : FmIn w0 R) (h : FmSt K w0 R q W) :
    Calls Tryz.prog 222 #[fmV R] W fun e w' => e = .returned (.tuple #[.int .i64 (fmN q).1, .int .i64 (fmN q).2.1]) ∧ FmSt K w0 R (fmN q).2.2 w' ∧ Only (fun j => j = R) W w' := by
  obtain ⟨W1, hW1⟩ : ∃ r, r = W.alloc (.cells #[fmP R] 102) := ⟨_, rfl⟩
  have d1 : Below W.heap.size W W1 := by rw [hW1]; exact (Below.refl _ W).alloc (Nat.le_refl _) _
  obtain ⟨hlt, hle⟩ := rnum_lt (t := 77) h.rd
  have k := rsigned_any R (R + 1) q W1 (h.below hi (d1.mono h.le)).rd hlt
  have c0 : W1.cell? ⟨W.heap.size, 0, none⟩ = some (fmP R) := by rw [hW1]; exact box102
  have hst := fun w2 hp hg => FmSt.step (q' := (fmN q).2.2) (w2 := w2) hi h d1 hp hg hle
  have k : Calls Tryz.prog 226 #[.pointer (some ⟨R, 0, none⟩)] W1 (fun e w' => e = .returned (.tuple #[.int .i64 (fmN q).1, .int .i64 (fmN q).2.1]) ∧ Rdr K 77 w' R (R + 1) (fmN q).2.2 ∧ W1.grownBy w' (some R)) := by rw [fmN_is hlt]; exact k
  generalize fmN q = Z at k hst ⊢
  obtain ⟨n, er, l'⟩ := Z
  dsimp only at k hst ⊢
  have HW := hide (And.intro hW1 hst)
  clear h hi d1 hst hW1 hle hlt
  go_enter Tryz.func222, Tryz.ntmps222
  go_upto_region 1 with fail
  rw [← HW.out.1]
  go_wp2_with (go_at_call 226; refine k.mono ?_; rintro e w2 ⟨rfl, hp, hg⟩; have H2 := hide (HW.out.2 w2 hp hg); clear hp hg)
  go_ret2
  exact ⟨rfl, H2.out⟩
end Go.Proofs.YtpepgoelnagoaaaGreatDoor
namespace Go.Proofs.YtpepgoelnagoaaaGreatDoor
open Go.RowKit Go.Shelf
variable {K : Nat → Prop}
set_option linter.unusedSimpArgs false
set_option linter.unusedVariables false
attribute [local go_sem] Oper.semAt_some

/-- Reading texts in a row, till one is wrong. -/
def rstrs : Nat → List Int → List ByteArray × Int × List Int
  | 0, q => ([], 0, q)
  | n + 1, q => if (rtext 64 q).2.1 = 0 then ((rtext 64 q).1 :: (rstrs n (rtext 64 q).2.2).1, (rstrs n (rtext 64 q).2.2).2.1, (rstrs n (rtext 64 q).2.2).2.2) else ([], (rtext 64 q).2.1, (rtext 64 q).2.2)
theorem rstrs_succ (n : Nat) (q : List Int) : rstrs (n + 1) q = if (rtext 64 q).2.1 = 0 then ((rtext 64 q).1 :: (rstrs n (rtext 64 q).2.2).1, (rstrs n (rtext 64 q).2.2).2.1, (rstrs n (rtext 64 q).2.2).2.2) else ([], (rtext 64 q).2.1, (rtext 64 q).2.2) := rfl
/-- What reading a path answers. -/
def rpath (q : List Int) : List ByteArray × Int × List Int :=
  if (rcount 6 q).2.1 = 0 then (if (rstrs (rcount 6 q).1.toNat (rcount 6 q).2.2).2.1 = 0 then rstrs (rcount 6 q).1.toNat (rcount 6 q).2.2 else ([], (rstrs (rcount 6 q).1.toNat (rcount 6 q).2.2).2.1, q)) else ([], (rcount 6 q).2.1, q)
theorem grown_only {w w' : World} {R : Nat} (h : Only (fun j => j = R) w w') : w.grownBy w' (some R) := ⟨h.os, h.tape, h.output, h.size, fun k hk hn => h.block k hk (fun e => hn (by rw [e]))⟩
theorem only_grown {w w' : World} {R : Nat} (h : w.grownBy w' (some R)) : Only (fun j => j = R) w w' := (Only.ofGrown h).mono (fun _ _ e => by simpa using e.symm)
theorem was_blk {t : TypeId} {w w1 : World} {R : Nat} {x y : Value} (hg : Only (fun j => j = R) (w.alloc (.cells #[x, y] t)) w1) (hR : R < w.heap.size) : w1.heap[w.heap.size]? = some (.cells #[x, y] t (0, 0)) := by
  rw [hg.block w.heap.size (by simp) (by omega)]
  exact heap_alloc_new w _
theorem Os.grown {w w' : World} {B R : Nat} {v : Value} {L : List ByteArray} (h : Os w B v L) (hg : Only (fun j => j = R) w w') (hR : R < B) : Os w' B v L := h.only hg (fun k hk e => by have := (World.ownsRow.lt h k hk).1; omega)
/-- How far texts are read. -/
structure StL (K : Nat → Prop) (w1 : World) (R S n : Nat) (q1 : List Int) (j : Nat) (L : List ByteArray) (q : List Int) (W : World) : Prop where
  le : j ≤ n
  len : L.length = j
  all : rstrs n q1 = (L ++ (rstrs (n - j) q).1, (rstrs (n - j) q).2.1, (rstrs (n - j) q).2.2)
  rd : Rdr K 77 W R S q
  only : Only (fun k => k = R) w1 W
  sz : q.length ≤ 140737488355328

set_option maxHeartbeats 4000000 in
set_option maxRecDepth 100000 in
theorem strs227_any (R S : Nat) (l : List Int) (w : World) (hR : Rdr K 77 w R S l) (hl47 : l.length ≤ 140737488355328) (hSw : S ≤ w.heap.size) :
    Calls Tryz.prog 227 #[.pointer (some ⟨R, 0, none⟩), .int .i64 6, .func (.func 225) #[] #[]] w fun e w' => ∃ v, e = .returned (.tuple #[v, .int .i64 (rpath l).2.1]) ∧ Os w' w.heap.size v (rpath l).1 ∧ Rdr K 77 w' R S (rpath l).2.2 ∧ w.grownBy w' (some R) := by
  obtain ⟨ao, cap, c0, c1, f0, f1, hsz, hl⟩ := hR.cells
  obtain ⟨w1, hw1⟩ : ∃ r, r = w.alloc (.cells #[.slice ao l.length cap, .bool true] 77) := ⟨_, rfl⟩
  have hR1 : Rdr K 77 w1 R S l := by rw [hw1]; exact hR.kept (World.grownBy_alloc w _ none) (by simp)
  have k147 := rcount_any R S 6 l w1 hR1 (by omega)
  have h6 := rcount_le (most := 6) (l := l) (by omega)
  have hn0 := rcount_nonneg 6 l
  have hle := rcount_left 6 l
  have hrp : rpath l = if (rcount 6 l).2.1 = 0 then (if (rstrs (rcount 6 l).1.toNat (rcount 6 l).2.2).2.1 = 0 then rstrs (rcount 6 l).1.toNat (rcount 6 l).2.2 else ([], (rstrs (rcount 6 l).1.toNat (rcount 6 l).2.2).2.1, l)) else ([], (rcount 6 l).2.1, l) := rfl
  have he := rcount_err (most := 6) (l := l)
  have hz : (rcount 6 l).2.1 ≠ 0 → (rcount 6 l).1 = 0 := by
    unfold rcount
    rw [if_neg (by omega)]
    split
    · simp
    · split
      · simp
      · simp
  obtain ⟨X, hX⟩ : ∃ r, r = rpath l := ⟨_, rfl⟩
  rw [← hX] at hrp ⊢
  clear hX
  generalize rcount 6 l = C at k147 h6 hn0 hle hrp he hz
  obtain ⟨cn, ce, q1⟩ := C
  dsimp only at k147 h6 hn0 hle hrp he hz
  obtain ⟨n, rfl⟩ := Int.eq_ofNat_of_zero_le hn0
  have hn6 : n ≤ 6 := by omega
  rw [show ((n : Int)).toNat = n from rfl] at hrp
  have HRp := hide (And.intro hrp hz)
  have HW := hide (And.intro hw1 (And.intro hR hle))
  have km := missing_no R w c1
  have hnf : ∀ W, (binOp BinOp.eql 272 (.func (.func 225) #[] #[]) Value.nilFunc).run Tryz.prog W = .ok (.bool false) W := fun _ => rfl
  clear hrp h6 hn0 hle he hz hw1
  go_enter Tryz.func227, Tryz.ntmps227
  go_upto_region 1 with fail
  go_step3
  go_upto_region 3 with (go_at_call 75; refine km.mono ?_; rintro e wm ⟨rfl, hm⟩; have hm := hm.symm; subst hm)
  go_upto_region 4 with fail
  rw [← HW.out.1]
  go_upto_region 6 with (go_at_call 147; refine k147.mono ?_; rintro e w2 ⟨rfl, hr2, hg2⟩; have H2 := hide (And.intro hr2 (only_grown hg2)); clear hr2 hg2 k147)
  go_step3
  go_wp2
  have h11 : StL K w1 R S n q1 0 [] q1 w2 := ⟨Nat.zero_le _, rfl, by simp, H2.out.1, H2.out.2, Nat.le_trans HW.out.2.2 hl47⟩
  have H11 := hide h11
  clear h11
  go_loopw [10, 11, 30] (fun v10 v11 v30 wr => ∃ (j : Nat) (L : List ByteArray) (q : List Int) (a : Option Addr) (c : Nat), v10 = .int .i64 ce ∧ v11 = .slice a L.length c ∧ v30 = .int .i64 (j : Nat) ∧ Hid (Os wr w1.heap.size (.slice a L.length c) L) ∧ Hid (StL K w1 R S n q1 j L q wr))
    (fun _ _ v30 _ => n - (intOf v30).toNat)
  case atStart => exact ⟨0, [], q1, none, 0, rfl, rfl, rfl, hide (Os.nil _ _), H11⟩
  case round =>
    obtain ⟨j, L, q, a, c, rfl, rfl, rfl, HO, HS⟩ := hrel
    have hsz1 : w1.heap.size = wm.heap.size + 1 := by rw [HW.out.1]; simp
    have hos := HS.out.only.size
    by_cases hlt : j < n
    · have hce : ce = 0 := by
        apply Classical.byContradiction
        intro h
        have := HRp.out.2 h
        omega
      subst hce
      have k225 := takeKey_any R S q wr HS.out.rd HS.out.sz
      have hql := rbytes_left 64 q
      have hT : rtext 64 q = (strOfNums (rbytes 64 q).1, (rbytes 64 q).2.1, (rbytes 64 q).2.2) := rfl
      have hall := HS.out.all
      obtain ⟨m, hm⟩ : ∃ m, n - j = m + 1 := ⟨n - j - 1, by omega⟩
      rw [hm, rstrs_succ] at hall
      change (rtext 64 q).2.2.length ≤ q.length at hql
      clear hT
      generalize rtext 64 q = T at k225 hql hall
      obtain ⟨ts, te, q'⟩ := T
      dsimp only at k225 hql hall
      have HA := hide (And.intro hall (And.intro hql hm))
      clear hall hql
      by_cases hte : te = 0
      · subst hte
        go_upto_region 11 with (go_at_call 225; refine k225.mono ?_; rintro e w3 ⟨rfl, hr3, hg3⟩; have H3 := hide (And.intro hr3 (only_grown hg3)); clear hr3 hg3 k225)
        have hRs : R < w1.heap.size := by omega
        have hO3 := HO.out.grown H3.out.2 hRs
        have d3 : Below w3.heap.size w3 (w3.alloc (.cells #[.string ts] 9)) := (Below.refl _ _).alloc (Nat.le_refl _) _
        have hs3 := H3.out.2.size
        have hL6 : L.length + 1 ≤ 1000000 := by have := HS.out.len; omega
        obtain ⟨v8, w8, hr8, hO8, hg8, hb8⟩ := push_str (hO3.below d3) (heap_alloc_new w3 (.cells #[.string ts] 9)) hL6 (by simp; omega)
        obtain ⟨a8, c8, rfl, -, -, -, -⟩ := hO8.shape
        have hS8 : StL K w1 R S n q1 (j + 1) (L ++ [ts]) q' w8 := by
          refine ⟨by omega, by rw [List.length_append, HS.out.len]; rfl, ?_, ?_, ?_, Nat.le_trans HA.out.2.1 HS.out.sz⟩
          · have := HA.out.1
            simp only [if_true] at this
            rw [this, show n - (j + 1) = m by have := HA.out.2.2; omega, List.append_assoc]
            rfl
          · exact H3.out.1.below ((d3.mono (by omega)).trans (hb8.mono (by omega)))
          · exact ((HS.out.only.trans H3.out.2 (fun _ _ e => e)).alloc (.cells #[.string ts] 9)).trans (⟨hb8.os, hb8.tape, hb8.output, hb8.size, fun k _ hn => hb8.block k (by omega)⟩ : Only (fun k => w1.heap.size ≤ k) _ _) (fun k hk e => by omega)
        have H8 := hide (And.intro hO8 hS8)
        clear hO8 hS8 hO3 d3 hg8 hb8 hL6
        go_wp2_with (at_builtin; refine wpList_turn (OP := .call { callee := .builtin .append, args := #[.tmp 41, .tmp 43], argTypes := #[30, 30] }) (T := 30) rfl rfl rfl (exec_append rfl rfl hr8) ?_; clear hr8)
        go_roundw
        case rel => exact ⟨j + 1, L ++ [ts], q', a8, c8, rfl, by simp, by go_num, hide H8.out.1, hide H8.out.2⟩
        case measure => simp [intOf]; omega
      · have hte1 : (te != 0) = true := by simpa using hte
        have hrs : rstrs n q1 = (L, te, q') := by have := HA.out.1; rw [if_neg hte] at this; simpa using this
        have hXX : X = ([], te, l) := by
          have := HRp.out.1
          rw [if_pos rfl, hrs] at this
          simpa [hte] using this
        have HX := hide hXX
        clear hrs hXX
        go_upto_region 14 with (go_at_call 225; refine k225.mono ?_; rintro e w3 ⟨rfl, hr3, hg3⟩; have H3 := hide (And.intro hr3 (only_grown hg3)); clear hr3 hg3 k225)
        have ho3 : Only (fun k => k = R) w1 w3 := HS.out.only.trans H3.out.2 (fun _ _ e => e)
        have mb : w3.heap[wm.heap.size]? = some (.cells #[.slice ao l.length cap, .bool true] 77 (0, 0)) := was_blk (by rw [← HW.out.1]; exact ho3) hsz
        obtain ⟨b0, b1, -, -⟩ := cell_blk mb
        obtain ⟨ao3, cap3, y0, y1, g0, g1, -, -⟩ := H3.out.1.cells
        have hx := Rdr.restore HW.out.2.1 c0 (grown_only (((Only.refl _ wm).alloc (.cells #[.slice ao l.length cap, .bool true] 77)).trans (by rw [← HW.out.1]; exact ho3) (fun _ _ e => e))) H3.out.1
        have HXX := hide hx
        clear hx mb
        go_wp2
        unfold Exit.noGoto
        dsimp only
        go_ret2
        rw [HX.out]
        exact ⟨_, rfl, Os.nil _ _, HXX.out⟩
    · have hjn : n = j := by have := HS.out.le; omega
      have hfin : rstrs n q1 = (L, 0, q) := by
        have := HS.out.all
        rw [show n - j = 0 by omega] at this
        simpa [rstrs] using this
      by_cases hce : ce = 0
      · have hXX : X = (L, 0, q) := by
          have := HRp.out.1
          rw [if_pos hce, hfin] at this
          simpa using this
        have HX := hide hXX
        subst hce
        clear hfin hXX
        go_wp2
        go_ret2
        rw [HX.out]
        exact ⟨_, rfl, row_lift HO.out (by omega), HS.out.rd, grown_only (((Only.refl _ wm).alloc (.cells #[.slice ao l.length cap, .bool true] 77)).trans (by rw [← HW.out.1]; exact HS.out.only) (fun _ _ e => e))⟩
      · have hce1 : (ce != 0) = true := by simpa using hce
        have hXX : X = ([], ce, l) := by
          have := HRp.out.1
          rw [if_neg hce] at this
          exact this
        have HX := hide hXX
        clear hXX hfin
        have mb : wr.heap[wm.heap.size]? = some (.cells #[.slice ao l.length cap, .bool true] 77 (0, 0)) := was_blk (by rw [← HW.out.1]; exact HS.out.only) hsz
        obtain ⟨b0, b1, -, -⟩ := cell_blk mb
        obtain ⟨ao3, cap3, y0, y1, g0, g1, -, -⟩ := HS.out.rd.cells
        have hx := Rdr.restore HW.out.2.1 c0 (grown_only (((Only.refl _ wm).alloc (.cells #[.slice ao l.length cap, .bool true] 77)).trans (by rw [← HW.out.1]; exact HS.out.only) (fun _ _ e => e))) HS.out.rd
        have HXX := hide hx
        clear hx mb
        go_wp2
        unfold Exit.noGoto
        dsimp only
        go_ret2
        rw [HX.out]
        exact ⟨_, rfl, Os.nil _ _, HXX.out⟩
theorem rstrs_len : ∀ (n : Nat) (q : List Int), (rstrs n q).1.length ≤ n ∧ (rstrs n q).2.2.length ≤ q.length
  | 0, q => ⟨Nat.le_refl _, Nat.le_refl _⟩
  | n + 1, q => by
    have h := rbytes_left 64 q
    change (rtext 64 q).2.2.length ≤ q.length at h
    rw [rstrs_succ]
    split
    · obtain ⟨h1, h2⟩ := rstrs_len n (rtext 64 q).2.2
      exact ⟨by simpa using h1, Nat.le_trans h2 h⟩
    · exact ⟨by simp, h⟩
theorem rpath_len (q : List Int) : (rpath q).1.length ≤ 6 ∧ (rpath q).2.2.length ≤ q.length := by
  have h1 := rcount_le (most := 6) (l := q) (by omega)
  have h2 := rcount_left 6 q
  have h3 := rstrs_len (rcount 6 q).1.toNat (rcount 6 q).2.2
  unfold rpath
  split
  · split
    · exact ⟨by omega, Nat.le_trans h3.2 h2⟩
    · simp
  · simp

set_option maxHeartbeats 1000000 in
set_option maxRecDepth 100000 in
theorem fmpath_st {w0 : World} {R : Nat} {q : List Int} {W : World} (hi : FmIn w0 R) (h : FmSt K w0 R q W) :
    Calls Tryz.prog 223 #[fmV R] W fun e w' => ∃ x, e = .returned (.tuple #[x, .int .i64 (rpath q).2.1]) ∧ Os w' W.heap.size x (rpath q).1 ∧ FmSt K w0 R (rpath q).2.2 w' ∧ Only (fun j => j = R) W w' := by
  obtain ⟨W1, hW1⟩ : ∃ r, r = W.alloc (.cells #[fmP R] 102) := ⟨_, rfl⟩
  have d1 : Below W.heap.size W W1 := by rw [hW1]; exact (Below.refl _ W).alloc (Nat.le_refl _) _
  have k := strs227_any R (R + 1) q W1 (h.below hi (d1.mono h.le)).rd h.len (Nat.le_trans h.le d1.size)
  have c0 : W1.cell? ⟨W.heap.size, 0, none⟩ = some (fmP R) := by rw [hW1]; exact box102
  have hle : (rpath q).2.2.length ≤ q.length := (rpath_len q).2
  have hst := fun w2 hp hg => FmSt.step (q' := (rpath q).2.2) (w2 := w2) hi h d1 hp hg hle
  generalize rpath q = Z at k hst ⊢
  obtain ⟨n, er, l'⟩ := Z
  dsimp only at k hst ⊢
  have HW := hide (And.intro hW1 (And.intro hst d1.size))
  clear h hi d1 hst hW1 hle
  go_enter Tryz.func223, Tryz.ntmps223
  go_upto_region 1 with fail
  rw [← HW.out.1]
  go_wp2_with (go_at_call 227; refine k.mono ?_; rintro e w2 ⟨v, rfl, hos, hp, hg⟩; have H2 := hide (And.intro (HW.out.2.1 w2 hp hg) hos); clear hp hg hos)
  go_ret2
  exact ⟨_, rfl, row_lift H2.out.2 HW.out.2.2, H2.out.1⟩

/-- The source 'formed'. -/
def fmS (K : Nat → Prop) (w0 : World) (R : Nat) : Src (List Int) where
  T := 102
  v := fmV R
  fd := 220
  fp := 223
  fk := 221
  fn := 222
  ft := 224
  D := fun j => j = R
  B := R + 1
  St := FmSt K w0 R
  pd := fmD
  pp := rpath
  pk := rtext 64
  pn := fmN
  pt := rtext 256
  okn := fun _ => True
theorem enters220 : Enters Tryz.prog 220 := enters_of Tryz.func220 (by kernel_rfl) rfl
theorem enters221 : Enters Tryz.prog 221 := enters_of Tryz.func221 (by kernel_rfl) rfl
theorem enters222 : Enters Tryz.prog 222 := enters_of Tryz.func222 (by kernel_rfl) rfl
theorem enters223 : Enters Tryz.prog 223 := enters_of Tryz.func223 (by kernel_rfl) rfl
theorem enters224 : Enters Tryz.prog 224 := enters_of Tryz.func224 (by kernel_rfl) rfl
theorem fmMd (R : Nat) (W : World) : (method 385 102 (fmV R) "estuary/ops.do").run Tryz.prog W = .ok (220, fmV R) W := by kernel_rfl
theorem fmMp (R : Nat) (W : World) : (method 385 102 (fmV R) "estuary/ops.path").run Tryz.prog W = .ok (223, fmV R) W := by kernel_rfl
theorem fmMk (R : Nat) (W : World) : (method 385 102 (fmV R) "estuary/ops.key").run Tryz.prog W = .ok (221, fmV R) W := by kernel_rfl
theorem fmMn (R : Nat) (W : World) : (method 385 102 (fmV R) "estuary/ops.number").run Tryz.prog W = .ok (222, fmV R) W := by kernel_rfl
theorem fmMt (R : Nat) (W : World) : (method 385 102 (fmV R) "estuary/ops.text").run Tryz.prog W = .ok (224, fmV R) W := by kernel_rfl
theorem fmOk {w0 : World} {R : Nat} (hi : FmIn w0 R) : SrcOk (fmS K w0 R) where
  lt := fun j h => by have h : j = R := h; show j < R + 1; omega
  le := fun q W h => FmSt.le h
  stable := fun q W W' h hb => FmSt.below hi h hb
  env := fun q W h => FmSt.env hi h
  qd := fmMd R
  qp := fmMp R
  qk := fmMk R
  qn := fmMn R
  qt := fmMt R
  ed := enters220
  ep := enters223
  ek := enters221
  en := enters222
  et := enters224
  cd := fun q W h => fmdo_st hi h
  cp := fun q W h => fmpath_st hi h
  ck := fun q W h => fmkey_st hi h
  cn := fun q W h _ => fmnum_st hi h
  ct := fun q W h => fmtext_st hi h
  num := fun q => fmN_i64 q
  plen := fun q => by have := (rpath_len q).1; show (rpath q).1.length ≤ _; omega
end Go.Proofs.YtpepgoelnagoaaaGreatDoor
