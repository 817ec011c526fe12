/-
  OPS: the document's Parse 35.
-/
import Derived.Test.YtpepgoelnagoaaaGreatDoorMg23
import Derived.Test.YtpepgoelnagoaaaGreatDoorTxI
import Derived.Test.YtpepgoelnagoaaaGreatDoorMg20
namespace Go.Proofs.YtpepgoelnagoaaaGreatDoor
open Go.RowKit Go.Shelf
set_option linter.unusedSimpArgs false
set_option linter.unusedVariables false
attribute [local go_sem] Oper.semAt_some

theorem pieces32_no (x : List UInt8) : ∀ (cur : List UInt8), (∀ b ∈ x, b ≠ 32) → pieces32 cur x = [cur ++ x] := by
  induction x with
  | nil => intro cur _; simp [pieces32]
  | cons b t ih =>
    intro cur h
    rw [pieces32, if_neg (h b (by simp)), ih _ (fun c hc => h c (by simp [hc]))]
    simp
theorem pieces32_cut (x r : List UInt8) : ∀ (cur : List UInt8), (∀ b ∈ x, b ≠ 32) → pieces32 cur (x ++ 32 :: r) = (cur ++ x) :: pieces32 [] r := by
  induction x with
  | nil => intro cur _; simp [pieces32]
  | cons b t ih =>
    intro cur h
    rw [List.cons_append, pieces32, if_neg (h b (by simp)), ih _ (fun c hc => h c (by simp [hc]))]
    simp
theorem pieces32_join : ∀ (ws : List (List UInt8)), ws ≠ [] → (∀ x ∈ ws, ∀ b ∈ x, b ≠ 32) → pieces32 [] (Lib.join ws [32]) = ws
  | [], h, _ => absurd rfl h
  | [x], _, h => by rw [join_one, pieces32_no x [] (h x (by simp))]; simp
  | x :: y :: ws, _, h => by
    have ih := pieces32_join (y :: ws) (by simp) (fun z hz => h z (by simp [hz]))
    rw [join_cons, List.append_assoc, List.singleton_append, pieces32_cut x _ [] (h x (by simp)), ih]
    simp
theorem txW_in {o : Od} (ho : OkO o) : ∀ x ∈ txW o, ∀ b ∈ x, b ≠ 32 := by
  intro x hx
  have hd := doW_in o.d ho.d1 ho.d7
  unfold txW at hx
  simp only [List.cons_append, List.nil_append, List.mem_cons] at hx
  rcases hx with rfl | rfl | rfl | hx
  · exact ne32 hd.1
  · exact ne32 (word_in _)
  · exact ne32 (word_in _)
  · split at hx
    · simp only [List.mem_singleton] at hx; subst hx; exact ne32 (dec_in _)
    · split at hx
      · simp at hx
      · simp only [List.mem_singleton] at hx; subst hx; exact ne32 (word_in _)
/-- The words of an operation's text. -/
theorem wds_text {o : Od} (ho : OkO o) {s : ByteArray} (h : s.data.toList = txO o) : wdsB s = keysOf (txW o) := by
  unfold wdsB
  rw [h]
  unfold txO
  rw [pieces32_join _ (txW_ne o) (txW_in ho)]
  congr 1
  apply List.take_of_length_le
  unfold txW
  split
  · simp
  · split <;> simp
theorem parse_yes {s : ByteArray} {o : Od} (hc : chkO o = 0) (hn : I64 o.n) (ht : s.data.toList = txO o) : parseS s = (o, 0) := by
  have : s = ⟨(txO o).toArray⟩ := str_eq ht
  rw [this]
  exact parseS_text hc hn
theorem parse_no {s : ByteArray} (h : ∀ o, chkO o = 0 → I64 o.n → s.data.toList = txO o → False) : parseS s = (odZ, 4) := by
  by_cases hz : (parseS s).2 = 0
  · obtain ⟨a, b, c⟩ := parseS_inv hz
    exact (h _ b c a).elim
  · unfold parseS at hz ⊢
    split
    · rfl
    · rename_i hm
      rw [if_neg hm] at hz
      unfold readS at hz ⊢
      split
      · rename_i hc
        rw [if_pos hc] at hz
        exact absurd rfl hz
      · rfl
theorem do_iff (t : ByteArray) (i : Nat) (h1 : 1 ≤ i) (h7 : i ≤ 7) : (Ki.wordB Ki.doWs (i : Int) = t) ↔ (Ki.ofWB Ki.doWs t).1 = (i : Int) := by
  have hc : Ki.countL Ki.doWs = [(1, ⟨#[97, 100, 100]⟩), (2, ⟨#[105, 110, 115, 101, 114, 116]⟩), (3, ⟨#[114, 101, 109, 111, 118, 101]⟩), (4, ⟨#[119, 114, 105, 116, 101]⟩), (5, ⟨#[112, 117, 115, 104]⟩), (6, ⟨#[112, 111, 112]⟩), (7, ⟨#[97, 112, 112, 101, 110, 100]⟩)] := by decide
  constructor
  · intro h
    subst h
    rcases (by omega : i = 1 ∨ i = 2 ∨ i = 3 ∨ i = 4 ∨ i = 5 ∨ i = 6 ∨ i = 7) with rfl | rfl | rfl | rfl | rfl | rfl | rfl <;> decide
  · intro h
    unfold Ki.ofWB at h
    rcases hf : (Ki.countL Ki.doWs).find? (fun x => decide (x.2 = t)) with _ | x
    · rw [hf] at h; simp at h; omega
    · rw [hf] at h
      have e1 := List.find?_some hf
      have e2 := List.mem_of_find?_eq_some hf
      simp only [decide_eq_true_eq] at e1
      simp only [Option.elim_some] at h
      subst e1
      rw [← h]
      rw [hc] at e2
      simp only [List.mem_cons, List.not_mem_nil, or_false] at e2
      rcases e2 with rfl | rfl | rfl | rfl | rfl | rfl | rfl <;> decide
theorem ofW_range (t : ByteArray) : 0 ≤ (Ki.ofWB Ki.doWs t).1 ∧ (Ki.ofWB Ki.doWs t).1 ≤ 7 := by
  by_cases h : (Ki.ofWB Ki.doWs t).2 = true
  · obtain ⟨-, h1, h7, -⟩ := ofW_inv (t := t) (d := (Ki.ofWB Ki.doWs t).1) (Prod.ext rfl h)
    omega
  · unfold Ki.ofWB at h ⊢
    rcases hf : (Ki.countL Ki.doWs).find? (fun x => decide (x.2 = t)) with _ | x
    · rw [hf]; simp
    · rw [hf] at h; exact absurd rfl h
theorem sat_range (l : List UInt8) : I64 (Lib.intSat 64 l) := by
  unfold I64 Lib.intSat
  have e : (2 : Nat) ^ (64 - 1) = 9223372036854775808 := by decide
  rw [e]
  split <;> omega
theorem parse_any2 (s : ByteArray) (w : World) (hs : s.size ≤ 1000000) (hE : EnvE w) : Calls Tryz.prog 80 #[.string s, .int .i64 10, .int .i64 64] w fun e w' => ∃ v z, e = .returned (.tuple #[.int .i64 v, z]) ∧ I64 v ∧ (∀ n, Lib.parseIntB 64 s.data.toList = .ok n → v = n) ∧ Below w.heap.size w w' := by
  cases h : Lib.parseIntB 64 s.data.toList with
  | ok v =>
    refine (Tryz.strconv_ParseInt_10_at64_ok s (by omega) v h w).mono ?_
    rintro e w' ⟨rfl, hb⟩
    refine ⟨v, _, rfl, ok_range h, fun n hn => by simpa using hn, ?_⟩
    rcases hb with rfl | ⟨t, rfl⟩
    · exact Below.refl _ _
    · exact Lib.bytesWorld_below _ _ _
  | «syntax» =>
    obtain ⟨t, p, hc⟩ := hE.syn
    refine (Tryz.strconv_ParseInt_10_at64_syntax s (by omega) h _ w hc (.inr ⟨t, p, rfl⟩)).mono ?_
    rintro e w' ⟨N, rfl, _, _, hb⟩
    exact ⟨_, _, rfl, by unfold I64; simp, by simp, hb⟩
  | range =>
    obtain ⟨t, p, hc⟩ := hE.ran
    refine (Tryz.strconv_ParseInt_10_at64_range s (by omega) h _ w hc (.inr ⟨t, p, rfl⟩)).mono ?_
    rintro e w' ⟨N, rfl, _, _, hb⟩
    exact ⟨_, _, rfl, sat_range _, by simp, hb⟩
/-- How things stand while an operation is laid together. -/
structure QSt (w5 : World) (N : Nat) (v : Value) (k : Int) (s : ByteArray) (d n : Int) (t : ByteArray) (L : List ByteArray) (W : World) : Prop where
  opc : W.heap[N]? = some (.cells (oc6 v k s d n t) 34 (0, 0))
  own : Os W (N + 1) v L
  only : Only (fun j => j = N) w5 W
section
variable {w5 W W' : World} {N : Nat} {v : Value} {k : Int} {s : ByteArray} {d n : Int} {t : ByteArray} {L : List ByteArray}
theorem QSt.below (h : QSt w5 N v k s d n t L W) (hb : Below W.heap.size W W') : QSt w5 N v k s d n t L W' :=
  ⟨(hb.block _ (Array.getElem?_eq_some_iff.1 h.opc).1).trans h.opc, h.own.below hb, h.only.trans (Ki.below_only hb) (fun j _ e => e)⟩
theorem QSt.set (h : QSt w5 N v k s d n t L W) (i : Nat) (x : Value) (v' : Value) (k' : Int) (s' : ByteArray) (d' n' : Int) (t' : ByteArray) (L' : List ByteArray) (ho' : Os W (N + 1) v' L') (he : (oc6 v k s d n t).setIfInBounds i x = oc6 v' k' s' d' n' t') : QSt w5 N v' k' s' d' n' t' L' (W.setCell ⟨N, i, none⟩ x) := by
  obtain ⟨c, ho⟩ := Ki.set_one (i := i) x h.opc
  rw [he] at c
  exact ⟨c, ho'.only ho (fun j hj hd => by have := (World.ownsRow.lt ho' j hj).1; omega), h.only.trans ho (fun j _ e => e)⟩
theorem QSt.cells (h : QSt w5 N v k s d n t L W) : (W.cell? ⟨N, 0, none⟩ = some v ∧ W.cell? ⟨N, 1, none⟩ = some (.int .i64 k) ∧ W.cell? ⟨N, 2, none⟩ = some (.string s) ∧ W.cell? ⟨N, 3, none⟩ = some (.int .i64 d) ∧ W.cell? ⟨N, 4, none⟩ = some (.int .i64 n) ∧ W.cell? ⟨N, 5, none⟩ = some (.string t)) ∧
    (W.frozen? ⟨N, 0, none⟩ = false ∧ W.frozen? ⟨N, 1, none⟩ = false ∧ W.frozen? ⟨N, 2, none⟩ = false ∧ W.frozen? ⟨N, 3, none⟩ = false ∧ W.frozen? ⟨N, 4, none⟩ = false ∧ W.frozen? ⟨N, 5, none⟩ = false) := blk6 h.opc
theorem Os.rs' {B pc : Nat} {pa : Option Addr} (h : Os W B (.slice pa L.length pc) L) : Rs W pa L := by
  obtain ⟨ao, c, e, hr, -, -, -⟩ := h.shape
  simp only [Value.slice.injEq, true_and] at e
  obtain ⟨rfl, rfl⟩ := e
  exact hr
end
/-- What Split answers of a text. -/
def splR (l : List UInt8) : List ByteArray × Int := match splitB l with | some L => (keysOf L, 0) | none => ([], 4)
theorem splitE_is {w w' : World} {l : List UInt8} {e : Ending} (h : SplitE w w' (splitB l) e) : ∃ v, e = .returned (.tuple #[v, .int .i64 (splR l).2]) ∧ Os w' w.heap.size v (splR l).1 := by
  unfold splR
  rcases h with ⟨h1, h2⟩ | ⟨L, v, h1, h2, h3⟩
  · rw [h1]; exact ⟨_, h2, Os.nil _ _⟩
  · rw [h1]; exact ⟨v, h2, h3⟩
theorem splR_len (l : List UInt8) : (splR l).1.length ≤ 6 := by
  unfold splR
  split
  · rename_i L hL
    have := (split_sound hL).1
    exact (path_keys this).1
  · simp
theorem wds_sizes (s : ByteArray) : ∀ x ∈ wdsB s, x.size ≤ s.size := by
  have key : ∀ (l cur : List UInt8), ∀ x ∈ pieces32 cur l, x.length ≤ cur.length + l.length := by
    intro l
    induction l with
    | nil => intro cur x hx; simp [pieces32] at hx; subst hx; simp
    | cons b t ih =>
      intro cur x hx
      rw [pieces32] at hx
      split at hx
      · rcases List.mem_cons.1 hx with rfl | hx
        · simp
        · have := ih [] x hx; simp at this ⊢; omega
      · have := ih _ x hx; simp at this ⊢; omega
  intro x hx
  unfold wdsB keysOf at hx
  obtain ⟨y, hy, rfl⟩ := List.mem_map.1 hx
  have := key s.data.toList [] y (List.mem_of_mem_take hy)
  rw [arr_size, Lib.size_eq]
  simpa using this
/-- What is known of an operation's words. -/
structure WdO (o : Od) (W : List ByteArray) : Prop where
  len : W.length = if o.d = 6 then 3 else 4
  w0 : W[0]? = some ⟨(doW o.d).toArray⟩
  w1 : W[1]? = some ⟨(wordB (joinB o.p)).toArray⟩
  w2 : W[2]? = some ⟨(wordB o.s.data.toList).toArray⟩
  w3 : o.d ≠ 6 → W[3]? = some (if o.d = 1 then ⟨(decL o.n).toArray⟩ else ⟨(wordB o.t.data.toList).toArray⟩)
theorem wdO {o : Od} (ho : OkO o) {s : ByteArray} (h : s.data.toList = txO o) : WdO o (wdsB s) := by
  rw [wds_text ho h]
  unfold txW keysOf
  by_cases h1 : o.d = 1
  · rw [if_pos h1]
    exact ⟨by rw [if_neg (by omega)]; rfl, rfl, rfl, rfl, fun _ => by rw [if_pos h1]; rfl⟩
  · by_cases h6 : o.d = 6
    · rw [if_neg h1, if_pos h6]
      exact ⟨by rw [if_pos h6]; rfl, rfl, rfl, rfl, fun hn => absurd h6 hn⟩
    · rw [if_neg h1, if_neg h6]
      exact ⟨by rw [if_neg h6]; rfl, rfl, rfl, rfl, fun _ => by rw [if_neg h1]; rfl⟩
theorem un_word (x : List UInt8) : unP (unwordB (⟨(wordB x).toArray⟩ : ByteArray).data.toList) = (⟨x.toArray⟩, 0) := by
  show unP (unwordB (wordB x)) = _
  rw [unword_word]
  rfl
theorem spl_join {p : List ByteArray} (h : pathB p = true) : splR (⟨(joinB p).toArray⟩ : ByteArray).data.toList = (p, 0) := by
  show splR (joinB p) = _
  unfold splR
  rw [split_join h]
  show (keysOf _, (0 : Int)) = _
  rw [keysOf_map]
theorem dos_of {d : Int} (h1 : 1 ≤ d) (h7 : d ≤ 7) : (Ki.ofWB Ki.doWs ⟨(doW d).toArray⟩).1 = d := by rw [(doW_in d h1 h7).2.1]
/-- What an operation's words say. -/
theorem wd_fields {o : Od} (hc : chkO o = 0) {s : ByteArray} (h : s.data.toList = txO o) {WS : List ByteArray} (hW : WS = wdsB s) {s0 s1 s2 : ByteArray} (h0 : WS[0]? = some s0) (h1 : WS[1]? = some s1) (h2 : WS[2]? = some s2) :
    (Ki.ofWB Ki.doWs s0).1 = o.d ∧ unP (unwordB s1.data.toList) = (⟨(joinB o.p).toArray⟩, 0) ∧ splR (⟨(joinB o.p).toArray⟩ : ByteArray).data.toList = (o.p, 0) ∧ unP (unwordB s2.data.toList) = (o.s, 0) ∧ WS.length = (if o.d = 6 then 3 else 4) ∧ (∀ s3, WS[3]? = some s3 → s3 = if o.d = 1 then ⟨(decL o.n).toArray⟩ else ⟨(wordB o.t.data.toList).toArray⟩) := by
  have ho := ok_of hc
  obtain ⟨a, b, c, d, e⟩ := wdO ho h
  rw [← hW] at a b c d e
  rw [b] at h0
  rw [c] at h1
  rw [d] at h2
  simp only [Option.some.injEq] at h0 h1 h2
  subst h0 h1 h2
  refine ⟨dos_of ho.d1 ho.d7, un_word _, spl_join ho.path, by rw [un_word], a, fun s3 h3 => ?_⟩
  have h6 : o.d ≠ 6 := fun h6 => by
    rw [if_pos h6] at a
    have := (List.getElem?_eq_some_iff.1 h3).1
    omega
  rw [e h6] at h3
  simpa using h3.symm
theorem fin6 {w W : World} {pa : Option Addr} {pc N : Nat} {L : List ByteArray} {a' b' c' d' e' f' : Value} (h : Os W (N + 1) (.slice pa L.length pc) L) (hN : w.heap.size < N) (hb : Below w.heap.size w W) :
    Os ((((((W.setCell ⟨w.heap.size, 0, none⟩ a').setCell ⟨w.heap.size, 1, none⟩ b').setCell ⟨w.heap.size, 2, none⟩ c').setCell ⟨w.heap.size, 3, none⟩ d').setCell ⟨w.heap.size, 4, none⟩ e').setCell ⟨w.heap.size, 5, none⟩ f') w.heap.size (.slice pa L.length pc) L ∧
    Below w.heap.size w ((((((W.setCell ⟨w.heap.size, 0, none⟩ a').setCell ⟨w.heap.size, 1, none⟩ b').setCell ⟨w.heap.size, 2, none⟩ c').setCell ⟨w.heap.size, 3, none⟩ d').setCell ⟨w.heap.size, 4, none⟩ e').setCell ⟨w.heap.size, 5, none⟩ f') :=
  ⟨row_lift (h.only only6 (fun j hj hd => by have := (World.ownsRow.lt h j hj).1; omega)) (by omega), hb.trans (only6.below hb.size (fun j hj => by omega))⟩
theorem exec_eq9 {ev : Operand → Value} {x y : Operand} {T : TypeId} {a b : ByteArray} {r : Bool} {w : World} (hx : ev x = .string a) (hy : ev y = .string b) (hr : (a.toList == b.toList) = r) :
    (execOp ev { dst := none, op := .binOp .eql 9 x y 9, type := T, pos := "", after := #[], guard := none }).run Tryz.prog w = .ok (.value (.bool r)) w := by
  unfold execOp
  simp [hx, hy, go_sem]
  exact hr
theorem fin6z {w W : World} {a' b' c' d' e' f' : Value} (hb : Below w.heap.size w W) :
    Below w.heap.size w ((((((W.setCell ⟨w.heap.size, 0, none⟩ a').setCell ⟨w.heap.size, 1, none⟩ b').setCell ⟨w.heap.size, 2, none⟩ c').setCell ⟨w.heap.size, 3, none⟩ d').setCell ⟨w.heap.size, 4, none⟩ e').setCell ⟨w.heap.size, 5, none⟩ f') :=
  hb.trans (only6.below hb.size (fun j hj => by omega))


set_option maxHeartbeats 16000000 in
set_option maxRecDepth 100000 in
theorem dparse_any (s : ByteArray) (w : World) (hs : s.size ≤ 1000000) (hE : EnvO w) (hEE : EnvE w) : Calls Tryz.prog 35 #[.string s] w fun e w' => ∃ pa pc, e = .returned (.tuple #[odv pa (parseS s).1.p.length pc (parseS s).1, .int .i64 (parseS s).2]) ∧ Os w' w.heap.size (.slice pa (parseS s).1.p.length pc) (parseS s).1.p ∧ Below w.heap.size w w' := by
  obtain ⟨w1, hw1⟩ : ∃ r, r = w.alloc (.cells (oc6 (.slice none 0 0) 0 ⟨#[]⟩ 0 0 ⟨#[]⟩) 34) := ⟨_, rfl⟩
  have b1 : Below w.heap.size w w1 := by rw [hw1]; exact (Below.refl _ w).alloc (Nat.le_refl _) _
  have m1 : w1.heap[w.heap.size]? = some (.cells (oc6 (.slice none 0 0) 0 ⟨#[]⟩ 0 0 ⟨#[]⟩) 34 (0, 0)) := by rw [hw1]; exact heap_alloc_new _ _
  have k77 := words77_any s w1 hs
  have hsz := wds_sizes s
  obtain ⟨X, hX⟩ : ∃ r, r = parseS s := ⟨_, rfl⟩
  rw [← hX]
  obtain ⟨WS, hWS⟩ : ∃ r, r = wdsB s := ⟨_, rfl⟩
  rw [← hWS] at k77 hsz
  have HX := hide (And.intro hX hWS)
  have HW := hide (And.intro hw1 (And.intro b1 (And.intro m1 (And.intro hE (And.intro hEE hsz)))))
  clear hX hWS hw1 b1 m1 hE hEE hsz
  go_enter Tryz.func35, Tryz.ntmps35
  go_upto_region 1 with fail
  rw [← HW.out.1]
  go_upto_region 2 with (go_at_call 77; refine k77.mono ?_; rintro e w2 ⟨v, rfl, ho, hb⟩; obtain ⟨wa, wc, rfl, hrs, hblk, -, -⟩ := ho.shape; have H2 := hide (And.intro hrs (And.intro hblk hb)); clear ho hb hrs hblk k77)
  have HB2 : Hid (Below w.heap.size w w2) := hide (HW.out.2.1.trans (H2.out.2.2.mono HW.out.2.1.size))
  have HM2 : Hid (w2.heap[w.heap.size]? = some (.cells (oc6 (.slice none 0 0) 0 ⟨#[]⟩ 0 0 ⟨#[]⟩) 34 (0, 0)) ∧ w.heap.size < w1.heap.size ∧ w1.heap.size ≤ w2.heap.size) := hide ⟨(H2.out.2.2.block _ (Array.getElem?_eq_some_iff.1 HW.out.2.2.1).1).trans HW.out.2.2.1, (Array.getElem?_eq_some_iff.1 HW.out.2.2.1).1, H2.out.2.2.size⟩
  obtain ⟨n, hn⟩ : ∃ r, r = WS.length := ⟨_, rfl⟩
  have hne : ((WS.length : Nat) : Int) = (n : Int) := by rw [hn]
  have HN := hide hn
  rw [← hn]
  by_cases hlen : n = 3 ∨ n = 4
  case neg =>
    have HXX : Hid (X = (odZ, 4)) := hide (by
      rw [HX.out.1]
      refine parse_no (fun o hc hi ht => ?_)
      have hl := (wdO (ok_of hc) ht).len
      rw [← HX.out.2, ← HN.out] at hl
      split at hl <;> omega)
    obtain ⟨⟨u0, u1, u2, u3, u4, u5⟩, e0, e1, e2, e3, e4, e5⟩ := blk6 HM2.out.1
    clear hn hne
    by_cases h3 : n < 3
    · have y : decide ((n : Int) < 3) = true := by simp; omega
      clear hlen
      go_wp2
      refine ret_row_tmp w.heap.size (oc6 (.slice none 0 0) 0 ⟨#[]⟩ 0 0 ⟨#[]⟩).toList rfl rfl rfl Tryz.underlying34 rfl Tryz.info34z (set6 HM2.out.1) rfl ?_
      rw [HXX.out]
      exact ⟨none, 0, rfl, Os.nil _ _, fin6z HB2.out⟩
    · have y : decide ((n : Int) < 3) = false := by simp; omega
      have y2 : decide (4 < (n : Int)) = true := by simp; omega
      clear hlen
      go_wp2
      refine ret_row_tmp w.heap.size (oc6 (.slice none 0 0) 0 ⟨#[]⟩ 0 0 ⟨#[]⟩).toList rfl rfl rfl Tryz.underlying34 rfl Tryz.info34z (set6 HM2.out.1) rfl ?_
      rw [HXX.out]
      exact ⟨none, 0, rfl, Os.nil _ _, fin6z HB2.out⟩
  case pos =>
    have y : decide ((n : Int) < 3) = false := by simp; omega
    have y2 : decide (4 < (n : Int)) = false := by simp; omega
    have hn3 : 3 ≤ n := by omega
    have n0 : 0 < n := by omega
    have n1 : 1 < n := by omega
    have n2 : 2 < n := by omega
    have HL := hide hlen
    clear hlen hne
    obtain ⟨s0, hs0⟩ : ∃ r, WS[0]? = some r := ⟨_, List.getElem?_eq_getElem (by omega)⟩
    obtain ⟨s1, hs1⟩ : ∃ r, WS[1]? = some r := ⟨_, List.getElem?_eq_getElem (by omega)⟩
    obtain ⟨s2, hs2⟩ : ∃ r, WS[2]? = some r := ⟨_, List.getElem?_eq_getElem (by omega)⟩
    have z1 := HW.out.2.2.2.2.2 s1 (List.mem_of_getElem? hs1)
    have z2 := HW.out.2.2.2.2.2 s2 (List.mem_of_getElem? hs2)
    obtain ⟨wb, wo, hwa, c0⟩ := H2.out.1.at hs0
    obtain ⟨wb', wo', hwa', c1⟩ := H2.out.1.at hs1
    obtain ⟨wb'', wo'', hwa'', c2⟩ := H2.out.1.at hs2
    rw [hwa] at hwa' hwa''
    simp only [Option.some.injEq, Addr.mk.injEq, and_true] at hwa' hwa''
    obtain ⟨rfl, rfl⟩ := hwa'
    obtain ⟨rfl, rfl⟩ := hwa''
    have hwb : wb < w2.heap.size := (H2.out.2.1 _ hwa).2
    subst hwa
    have HC : Hid (∀ W, Only (fun j => j = w2.heap.size) w2 W → W.cell? ⟨wb, wo, none⟩ = some (.string s0) ∧ W.cell? ⟨wb, wo + 1, none⟩ = some (.string s1) ∧ W.cell? ⟨wb, wo + 2, none⟩ = some (.string s2) ∧ (∀ s3, WS[3]? = some s3 → W.cell? ⟨wb, wo + 3, none⟩ = some (.string s3))) := hide (fun W hW => ⟨hW.cell c0 (by show wb ≠ _; omega), hW.cell c1 (by show wb ≠ _; omega), hW.cell c2 (by show wb ≠ _; omega), fun s3 h3 => by
      obtain ⟨b3, o3, e3, c3⟩ := H2.out.1.at h3
      simp only [Option.some.injEq, Addr.mk.injEq, and_true] at e3
      obtain ⟨rfl, rfl⟩ := e3
      exact hW.cell c3 (by show wb ≠ _; omega)⟩)
    have HS := hide (And.intro hs0 (And.intro hs1 hs2))
    clear hs0 hs1 hs2 c0 c1 c2 hn
    go_upto_region 5 with fail
    obtain ⟨w5, hw5⟩ : ∃ r, r = w2.alloc (.cells (oc6 (.slice none 0 0) 0 ⟨#[]⟩ 0 0 ⟨#[]⟩) 34) := ⟨_, rfl⟩
    rw [← hw5]
    obtain ⟨Nb, hNb⟩ : ∃ r, r = w2.heap.size := ⟨_, rfl⟩
    have B5 : Below w2.heap.size w2 w5 := by rw [hw5]; exact (Below.refl _ w2).alloc (Nat.le_refl _) _
    have ST5 : QSt w5 Nb (.slice none 0 0) 0 ⟨#[]⟩ 0 0 ⟨#[]⟩ [] w5 := ⟨by rw [hw5, hNb]; exact heap_alloc_new _ _, Os.nil _ _, Only.refl _ _⟩
    have hcell : ∀ W, Only (fun j => j = Nb) w5 W → Only (fun j => j = w2.heap.size) w2 W := fun W hW => (Ki.below_only B5).trans (hW.mono (fun j _ e => e.trans hNb)) (fun j _ e => e)
    have HBW : Hid (∀ W, Only (fun j => j = Nb) w5 W → Below w.heap.size w W ∧ W.heap[w.heap.size]? = some (.cells (oc6 (.slice none 0 0) 0 ⟨#[]⟩ 0 0 ⟨#[]⟩) 34 (0, 0))) := hide (fun W hW => by
      have q := hcell W hW
      have q1 := HM2.out.2
      have q2 : Below w.heap.size w2 W := q.below (by omega) (fun j hj => by omega)
      exact ⟨HB2.out.trans q2, (q.block _ (by omega) (by omega)).trans HM2.out.1⟩)
    have HNw : Hid (w.heap.size < Nb) := hide (by rw [hNb]; have := HM2.out.2; omega)
    have HC := hide (fun W hW => HC.out W (hcell W hW))
    rw [← hNb]
    have ST5 := hide ST5
    clear hcell B5 hw5 hwb
    obtain ⟨D0, hD0⟩ : ∃ r, r = (Ki.ofWB Ki.doWs s0).1 := ⟨_, rfl⟩
    have hDr := ofW_range s0
    rw [← hD0] at hDr
    have HD := hide hD0

    clear hD0 hNb
    go_wp2
    go_loopw [6] (fun v6 wr => ∃ i : Nat, 1 ≤ i ∧ i ≤ 8 ∧ v6 = .int .i64 (i : Nat) ∧ Hid (QSt w5 Nb (.slice none 0 0) 0 ⟨#[]⟩ (if D0 < ((i : Nat) : Int) then D0 else 0) 0 ⟨#[]⟩ [] wr)) (fun v6 _ => 8 - (intOf v6).toNat)
    case atStart => exact ⟨1, by omega, by omega, rfl, hide (by rw [show (if D0 < ((1 : Nat) : Int) then D0 else 0) = 0 by split <;> omega]; exact ST5.out)⟩
    case round =>
      obtain ⟨i, hi1, hi8, rfl, HQ⟩ := hrel
      by_cases hlt : i < 8
      · have z : (i : Int) < 8 := by omega
        have hdo := do_iff s0 i hi1 (by omega)
        rw [← HD.out] at hdo
        obtain ⟨dd, hdd⟩ : ∃ r, r = if D0 < ((i : Nat) : Int) then D0 else 0 := ⟨_, rfl⟩
        rw [← hdd] at HQ
        have HDD := hide hdd
        clear hdd
        go_upto_region 8 with fail
        obtain ⟨c0, -, -, -⟩ := HC.out wr.drew (QSt.below HQ.out (Below.refl _ _).drew).only
        refine wp_region_held_drew (S := fun w' => w'.cell? ⟨wb, wo, none⟩ = some (.string s0)) (by kernel_rfl) c0 (fun hHeld => ?_)
        have sq := QSt.below HQ.out (Below.refl _ _).drew
        obtain ⟨Wd, hWd⟩ : ∃ r, r = wr.drew := ⟨_, rfl⟩
        rw [← hWd] at sq hHeld ⊢
        clear hWd c0
        have SQ := hide sq
        clear sq
        refine take_op (i := 1) (d := 27) (OP := Op.move (Operand.tmp 6)) (T := 3) (v := ?vogz1) rfl rfl rfl rfl (by kernel_rfl) (by kernel_rfl) (by kernel_rfl) (fun _ _ _ h => h) (by rfl) ?hogz1 hHeld ?rogz1
        case hogz1 => (intro w' hSw; (try dsimp only at hSw); go_simp <;> with_reducible rfl)
        try simp only [Act.put, List.setIfInBounds_toArray, List.set_cons_zero, List.set_cons_succ]
        refine take_op (i := 4) (d := 30) (OP := Op.move (Operand.tmp 4)) (T := 30) (v := ?vogz2) rfl rfl rfl rfl (by kernel_rfl) (by kernel_rfl) (by kernel_rfl) (fun _ _ _ h => h) (by rfl) ?hogz2 hHeld ?rogz2
        case hogz2 => (intro w' hSw; (try dsimp only at hSw); go_simp <;> with_reducible rfl)
        try simp only [Act.put, List.setIfInBounds_toArray, List.set_cons_zero, List.set_cons_succ]
        refine take_op (i := 5) (d := 31) (OP := Op.indexAddr 30 (Operand.tmp 30) (Operand.const (Value.int IntKind.i64 0))) (T := 0) (v := ?vogz3) rfl rfl rfl rfl (by kernel_rfl) (by kernel_rfl) (by kernel_rfl) (fun _ _ _ h => h) (by rfl) ?hogz3 hHeld ?rogz3
        case hogz3 => (intro w' hSw; (try dsimp only at hSw); go_simp <;> with_reducible rfl)
        try simp only [Act.put, List.setIfInBounds_toArray, List.set_cons_zero, List.set_cons_succ]
        refine take_op (i := 6) (d := 32) (OP := Op.load 9 (Operand.tmp 31)) (T := 9) (v := ?vogz4) rfl rfl rfl rfl (by kernel_rfl) (by kernel_rfl) (by kernel_rfl) (fun _ _ _ h => h) (by rfl) ?hogz4 hHeld ?rogz4
        case hogz4 => (intro w' hSw; (try dsimp only at hSw); go_simp <;> with_reducible rfl)
        try simp only [Act.put, List.setIfInBounds_toArray, List.set_cons_zero, List.set_cons_succ]
        refine call_op (i := 0) (d := 26) (OP := Op.call { callee := Callee.value (Operand.func 56), args := #[], argTypes := #[] }) (T := 30) (f := 56) (args := #[]) rfl rfl rfl rfl (by kernel_rfl) (by rfl) (by go_simp) ?_
        refine (Ki.words9 Wd).mono ?_
        rintro e y1 ⟨rfl, hy1⟩
        have dy1 : Below Wd.heap.size Wd y1 := by rw [hy1]; exact (Below.refl _ _).alloc (Nat.le_refl _) _
        have mW : y1.heap[Wd.heap.size]? = some (.cells ((⟨#[]⟩ :: Ki.doWs).map Value.string).toArray 9 (0, 0)) := by rw [hy1]; exact heap_alloc_new _ _
        have hdw := dw_cell mW hi1 (by omega)
        clear hy1 mW
        have SY := hide (SQ.out.below dy1)
        have hc0 := Ki.cell_stays hHeld dy1
        clear dy1 SQ
        obtain ⟨DW, hDW⟩ : ∃ r, r = Ki.wordB Ki.doWs (i : Int) := ⟨_, rfl⟩
        rw [← hDW] at hdw hdo
        refine ⟨_, rfl, hc0, ?_⟩
        refine wpAnyH_mono (S' := fun w' => (w'.cell? ⟨wb, wo, none⟩ = some (.string s0)) ∧ w'.cell? ⟨Wd.heap.size, i, none⟩ = some (.string DW)) (fun _ h => h.1) ?_
        replace hHeld := And.intro hc0 hdw
        clear hc0 hdw hDW
        try simp only [Act.put, List.setIfInBounds_toArray, List.set_cons_zero, List.set_cons_succ]
        refine take_op (i := 2) (d := 28) (OP := Op.indexAddr 30 (Operand.tmp 26) (Operand.tmp 27)) (T := 0) (v := ?vogz5) rfl rfl rfl rfl (by kernel_rfl) (by kernel_rfl) (by kernel_rfl) (fun _ _ _ h => h) (by rfl) ?hogz5 hHeld ?rogz5
        case hogz5 => (intro w' hSw; (try dsimp only at hSw); go_simp <;> with_reducible rfl)
        try simp only [Act.put, List.setIfInBounds_toArray, List.set_cons_zero, List.set_cons_succ]
        refine take_op (i := 3) (d := 29) (OP := Op.load 9 (Operand.tmp 28)) (T := 9) (v := ?vogz6) rfl rfl rfl rfl (by kernel_rfl) (by kernel_rfl) (by kernel_rfl) (fun _ _ _ h => h) (by rfl) ?hogz6 hHeld ?rogz6
        case hogz6 => (intro w' hSw; (try dsimp only at hSw); go_simp <;> with_reducible rfl)
        try simp only [Act.put, List.setIfInBounds_toArray, List.set_cons_zero, List.set_cons_succ]
        by_cases hDs : DW = s0
        · subst hDs
          have hDi : D0 = (i : Int) := hdo.1 rfl
          refine take_op (i := 7) (d := 33) (OP := Op.binOp BinOp.eql 9 (Operand.tmp 29) (Operand.tmp 32) 9) (T := 4) (v := (.bool true)) rfl rfl rfl rfl (by kernel_rfl) (by kernel_rfl) (by kernel_rfl) (fun _ _ _ h => h) (by rfl) ?hogy7 hHeld ?rogy7
          case hogy7 => (intro w' hSw; exact exec_eq9 rfl rfl (by simp))
          try simp only [Act.put, List.setIfInBounds_toArray, List.set_cons_zero, List.set_cons_succ]
          refine wpAnyH_done (by kernel_rfl) ?_ _
          obtain ⟨⟨x0, x1, x2, x3, x4, x5⟩, f0, f1, f2, f3, f4, f5⟩ := SY.out.cells
          go_upto_region 7 with fail
          obtain ⟨y2, hy2⟩ : ∃ r, r = y1.setCell ⟨Nb, 3, none⟩ (.int .i64 (i : Nat)) := ⟨_, rfl⟩
          rw [← hy2]
          have sy := SY.out.set 3 (.int .i64 (i : Nat)) (.slice none 0 0) 0 ⟨#[]⟩ (i : Nat) 0 ⟨#[]⟩ [] SY.out.own rfl
          rw [← hy2] at sy
          have SZ := hide sy
          clear sy hy2 SY x0 x1 x2 x3 x4 x5 f0 f1 f2 f3 f4 f5
          go_wp2
          go_roundw
          case rel => exact ⟨i + 1, by omega, by omega, by go_num, hide (by rw [if_pos (by omega), hDi]; exact SZ.out)⟩
          case measure => simp [intOf]; omega
        · have hDn : D0 ≠ (i : Int) := fun h => hDs (hdo.2 h)
          have hne := str_ne' hDs
          refine take_op (i := 7) (d := 33) (OP := Op.binOp BinOp.eql 9 (Operand.tmp 29) (Operand.tmp 32) 9) (T := 4) (v := (.bool false)) rfl rfl rfl rfl (by kernel_rfl) (by kernel_rfl) (by kernel_rfl) (fun _ _ _ h => h) (by rfl) ?hogx8 hHeld ?rogx8
          case hogx8 => (intro w' hSw; exact exec_eq9 rfl rfl hne)
          try simp only [Act.put, List.setIfInBounds_toArray, List.set_cons_zero, List.set_cons_succ]
          refine wpAnyH_done (by kernel_rfl) ?_ _
          go_wp2
          go_roundw
          case rel => exact ⟨i + 1, by omega, by omega, by go_num, hide (by have := SY.out; rw [HDD.out] at this; rw [show (if D0 < ((i + 1 : Nat) : Int) then D0 else 0) = (if D0 < ((i : Nat) : Int) then D0 else 0) by split <;> split <;> omega]; exact this)⟩
          case measure => simp [intOf]; omega
      · have hi : i = 8 := by omega
        subst hi
        have HQ8 : Hid (QSt w5 Nb (.slice none 0 0) 0 ⟨#[]⟩ D0 0 ⟨#[]⟩ [] wr) := hide (by have := HQ.out; rw [if_pos (by omega)] at this; exact this)
        clear HQ ST5 hlt hi1 hi8
        obtain ⟨⟨x0, x1, x2, x3, x4, x5⟩, f0, f1, f2, f3, f4, f5⟩ := HQ8.out.cells
        go_upto_region 11 with (go_at_call 52; refine (Ki.refOf_any D0 _).mono ?_; rintro e wy ⟨rfl, hy⟩; have hy := hy.symm; subst hy)
        obtain ⟨w7, hw7⟩ : ∃ r, r = wr.setCell ⟨Nb, 1, none⟩ (.int .i64 (Ki.ofD D0)) := ⟨_, rfl⟩
        rw [← hw7]
        have s7 := HQ8.out.set 1 (.int .i64 (Ki.ofD D0)) (.slice none 0 0) (Ki.ofD D0) ⟨#[]⟩ D0 0 ⟨#[]⟩ [] HQ8.out.own rfl
        rw [← hw7] at s7
        have S7 := hide s7
        clear s7 hw7 HQ8
        clear x0 x1 x2 x3 x4 x5 f0 f1 f2 f3 f4 f5
        obtain ⟨-, c1, -, -⟩ := HC.out w7 S7.out.only
        have k78 := refUnword_any s1 w7 (by omega)
        rw [unE_is] at k78
        have u1z := unP_sz (R := s1) (by omega)
        obtain ⟨U1, hU1⟩ : ∃ r, r = unP (unwordB s1.data.toList) := ⟨_, rfl⟩
        rw [← hU1] at k78 u1z
        have HU1 := hide hU1
        clear hU1
        obtain ⟨ps, e1⟩ := U1
        dsimp only at k78 u1z
        go_upto_region 12 with (go_at_call 78; refine k78.mono ?_; rintro e w8 ⟨rfl, b8⟩; have S8 := hide (S7.out.below b8); clear b8 k78 S7 c1)
        have k79 := refSplit_any ps w8 u1z
        have hpl := splR_len ps.data.toList
        obtain ⟨U2, hU2⟩ : ∃ r, r = splR ps.data.toList := ⟨_, rfl⟩
        have HU2 := hide hU2
        rw [← hU2] at hpl
        have h79 : ∀ e w9, SplitE w8 w9 (splitB ps.data.toList) e → ∃ v, e = .returned (.tuple #[v, .int .i64 U2.2]) ∧ Os w9 w8.heap.size v U2.1 := fun e w9 h => by rw [hU2]; exact splitE_is h
        clear hU2
        obtain ⟨L, e2⟩ := U2
        dsimp only at h79 hpl
        have H79 := hide h79
        clear h79
        go_upto_region 13 with (go_at_call 79; refine k79.mono ?_; rintro e w9 ⟨hs9, b9⟩; obtain ⟨v9, rfl, hO9⟩ := H79.out _ _ hs9; obtain ⟨pa, pc, hv9, -, -, -, -⟩ := hO9.shape; subst hv9; have S9 := hide (S8.out.below b9); have O9 := hide (row_lift hO9 (show Nb + 1 ≤ w8.heap.size from (Array.getElem?_eq_some_iff.1 S8.out.opc).1)); clear b9 k79 hs9 hO9 S8 H79)
        obtain ⟨⟨x0, x1, x2, x3, x4, x5⟩, f0, f1, f2, f3, f4, f5⟩ := S9.out.cells
        go_upto_region 14 with fail
        obtain ⟨w10, hw10⟩ : ∃ r, r = w9.setCell ⟨Nb, 0, none⟩ (.slice pa L.length pc) := ⟨_, rfl⟩
        rw [← hw10]
        have s10 := S9.out.set 0 (.slice pa L.length pc) (.slice pa L.length pc) (Ki.ofD D0) ⟨#[]⟩ D0 0 ⟨#[]⟩ L O9.out rfl
        rw [← hw10] at s10
        have S10 := hide s10
        clear s10 hw10 S9 O9 x0 x1 x2 x3 x4 x5 f0 f1 f2 f3 f4 f5
        obtain ⟨-, -, c2, -⟩ := HC.out w10 S10.out.only
        obtain ⟨⟨x0, x1, x2, x3, x4, x5⟩, f0, f1, f2, f3, f4, f5⟩ := S10.out.cells
        have k78 := refUnword_any s2 w10 (by omega)
        rw [unE_is] at k78
        obtain ⟨U3, hU3⟩ : ∃ r, r = unP (unwordB s2.data.toList) := ⟨_, rfl⟩
        rw [← hU3] at k78
        have HU3 := hide hU3
        clear hU3
        obtain ⟨KS, e3⟩ := U3
        dsimp only at k78
        go_upto_region 15 with (go_at_call 78; refine k78.mono ?_; rintro e w11 ⟨rfl, b11⟩; have S11 := hide (S10.out.below b11); clear b11 k78 S10 c2 x0 x1 x2 x3 x4 x5 f0 f1 f2 f3 f4 f5; obtain ⟨⟨x0, x1, x2, x3, x4, x5⟩, f0, f1, f2, f3, f4, f5⟩ := S11.out.cells)
        obtain ⟨w12, hw12⟩ : ∃ r, r = w11.setCell ⟨Nb, 2, none⟩ (.string KS) := ⟨_, rfl⟩
        rw [← hw12]
        have s12 := S11.out.set 2 (.string KS) (.slice pa L.length pc) (Ki.ofD D0) KS D0 0 ⟨#[]⟩ L S11.out.own rfl
        rw [← hw12] at s12
        have S12 := hide s12
        clear s12 hw12 S11 x0 x1 x2 x3 x4 x5 f0 f1 f2 f3 f4 f5
        obtain ⟨⟨x0, x1, x2, x3, x4, x5⟩, f0, f1, f2, f3, f4, f5⟩ := S12.out.cells
        have HFO : Hid (∀ o, chkO o = 0 → I64 o.n → s.data.toList = txO o → D0 = o.d ∧ e1 = 0 ∧ e2 = 0 ∧ L = o.p ∧ KS = o.s ∧ n = (if o.d = 6 then 3 else 4) ∧ (∀ s3, WS[3]? = some s3 → s3 = if o.d = 1 then ⟨(decL o.n).toArray⟩ else ⟨(wordB o.t.data.toList).toArray⟩)) := hide (fun o hc hi ht => by
          obtain ⟨q1, q2, q3, q4, q5, q6⟩ := wd_fields hc ht HX.out.2 HS.out.1 HS.out.2.1 HS.out.2.2
          have g1 := HU1.out.trans q2
          simp only [Prod.mk.injEq] at g1
          have g2 := HU2.out
          rw [g1.1, q3] at g2
          simp only [Prod.mk.injEq] at g2
          have g3 := HU3.out.trans q4
          simp only [Prod.mk.injEq] at g3
          exact ⟨HD.out.trans q1, g1.2, g2.2, g2.1, g3.1, by rw [HN.out]; exact q5, q6⟩)
        clear HU1 HU2 HU3 HD HS
        rcases HL.out with hn3 | hn4
        · have hnn := hn3
          subst hnn
          clear hn3 y y2
          go_upto_region 19 with fail
          have SX := S12
          have HEQ : Hid (∀ o, chkO o = 0 → I64 o.n → s.data.toList = txO o → (⟨L, Ki.ofD D0, KS, D0, 0, ⟨#[]⟩⟩ : Od) = o ∧ e1 = 0 ∧ e2 = 0) := hide (fun o hc hi ht => by
            obtain ⟨q1, q2, q3, q4, q5, q6, q7⟩ := HFO.out o hc hi ht
            have ho := ok_of hc
            have h6 : o.d = 6 := by split at q6 <;> omega
            refine ⟨?_, q2, q3⟩
            have a1 := ho.kind
            have a2 := ho.num (by omega)
            have a3 := ho.pop h6
            obtain ⟨op, ok, os, od, on, ot⟩ := o
            dsimp only at q1 q4 q5 a1 a2 a3 h6
            subst q1 q4 q5 a1 a2 a3
            rfl)
          have hi64 : I64 (0 : Int) := by unfold I64; omega
          clear HFO
          obtain ⟨⟨x0, x1, x2, x3, x4, x5⟩, f0, f1, f2, f3, f4, f5⟩ := SX.out.cells
          obtain ⟨HBZ, HMZ⟩ := HBW.out _ SX.out.only
          have HBZ := hide (And.intro HBZ HMZ)
          clear HMZ
          obtain ⟨⟨u0, u1, u2, u3, u4, u5⟩, g0, g1, g2, g3, g4, g5⟩ := blk6 HBZ.out.2
          have HNO : Hid ((∀ o, chkO o = 0 → I64 o.n → s.data.toList = txO o → False) → X = (odZ, 4)) := hide (fun h => by rw [HX.out.1]; exact parse_no h)
          by_cases he1 : e1 = 0
          case neg =>
            have he1b : (e1 != 0) = true := by simpa using he1
            have HXX : Hid (X = (odZ, 4)) := hide (HNO.out (fun o hc hi ht => he1 (HEQ.out o hc hi ht).2.1))
            go_wp2
            refine ret_row_tmp w.heap.size (oc6 (.slice none 0 0) 0 ⟨#[]⟩ 0 0 ⟨#[]⟩).toList rfl rfl rfl Tryz.underlying34 rfl Tryz.info34z (set6 HBZ.out.2) rfl ?_
            rw [HXX.out]
            exact ⟨none, 0, rfl, Os.nil _ _, fin6z HBZ.out.1⟩
          case pos =>
            subst he1
            by_cases he2 : e2 = 0
            case neg =>
              have he2b : (e2 != 0) = true := by simpa using he2
              have HXX : Hid (X = (odZ, 4)) := hide (HNO.out (fun o hc hi ht => he2 (HEQ.out o hc hi ht).2.2))
              go_wp2
              refine ret_row_tmp w.heap.size (oc6 (.slice none 0 0) 0 ⟨#[]⟩ 0 0 ⟨#[]⟩).toList rfl rfl rfl Tryz.underlying34 rfl Tryz.info34z (set6 HBZ.out.2) rfl ?_
              rw [HXX.out]
              exact ⟨none, 0, rfl, Os.nil _ _, fin6z HBZ.out.1⟩
            case pos =>
              subst he2
              have kC := refChk_any (pc := pc) ⟨L, Ki.ofD D0, KS, D0, 0, ⟨#[]⟩⟩ SX.out.own.rs'
              obtain ⟨cv, hcv⟩ : ∃ r, r = chkO ⟨L, Ki.ofD D0, KS, D0, 0, ⟨#[]⟩⟩ := ⟨_, rfl⟩
              rw [← hcv] at kC
              have HCV := hide hcv
              clear hcv
              by_cases hc0 : cv = 0
              case neg =>
                have hc0b : (cv != 0) = true := by simpa using hc0
                have HXX : Hid (X = (odZ, 4)) := hide (HNO.out (fun o hc hi ht => hc0 (HCV.out.trans (by rw [(HEQ.out o hc hi ht).1]; exact hc))))
                go_wp2_with (go_at_call 13; refine kC.mono ?_; rintro e wz ⟨rfl, bz⟩; have HB9 := hide (And.intro (HBZ.out.1.trans (bz.mono HBZ.out.1.size)) ((bz.block _ (Array.getElem?_eq_some_iff.1 HBZ.out.2).1).trans HBZ.out.2)); clear bz kC x0 x1 x2 x3 x4 x5 f0 f1 f2 f3 f4 f5 u0 u1 u2 u3 u4 u5 g0 g1 g2 g3 g4 g5; obtain ⟨⟨u0, u1, u2, u3, u4, u5⟩, g0, g1, g2, g3, g4, g5⟩ := blk6 HB9.out.2)
                refine ret_row_tmp w.heap.size (oc6 (.slice none 0 0) 0 ⟨#[]⟩ 0 0 ⟨#[]⟩).toList rfl rfl rfl Tryz.underlying34 rfl Tryz.info34z (set6 HB9.out.2) rfl ?_
                rw [HXX.out]
                exact ⟨none, 0, rfl, Os.nil _ _, fin6z HB9.out.1⟩
              case pos =>
                subst hc0
                have kT := fun W (hW : Below w12.heap.size w12 W) => refText16_any (pc := pc) ⟨L, Ki.ofD D0, KS, D0, 0, ⟨#[]⟩⟩ ((rp_of SX.out.own (by omega)).below hW) (ok_of HCV.out.symm) hi64 ((HW.out.2.2.2.1.below HBZ.out.1).below hW)
                obtain ⟨XT, hXT⟩ : ∃ r, r = (⟨(txO ⟨L, Ki.ofD D0, KS, D0, 0, ⟨#[]⟩⟩).toArray⟩ : ByteArray) := ⟨_, rfl⟩
                rw [← hXT] at kT
                have HXT := hide hXT
                clear hXT
                have CALLS : True := trivial
                by_cases hsx : XT = s
                · subst hsx
                  have HXX : Hid (X = (⟨L, Ki.ofD D0, KS, D0, 0, ⟨#[]⟩⟩, 0)) := hide (by rw [HX.out.1]; exact parse_yes HCV.out.symm hi64 (by rw [HXT.out]))
                  go_wp2_with (first
                    | (go_at_call 13; refine kC.mono ?_; rintro e wz ⟨rfl, bz⟩; have BZ := hide bz; have SZ := hide (SX.out.below bz); clear bz kC x0 x1 x2 x3 x4 x5 f0 f1 f2 f3 f4 f5; obtain ⟨⟨x0, x1, x2, x3, x4, x5⟩, f0, f1, f2, f3, f4, f5⟩ := SZ.out.cells)
                    | (go_at_call 16; refine (kT _ BZ.out).mono ?_; rintro e wy ⟨rfl, by'⟩; have SY := hide (SZ.out.below by'); have HB9 := hide (HBW.out _ SY.out.only); clear by' kT x0 x1 x2 x3 x4 x5 f0 f1 f2 f3 f4 f5 u0 u1 u2 u3 u4 u5 g0 g1 g2 g3 g4 g5; obtain ⟨⟨x0, x1, x2, x3, x4, x5⟩, f0, f1, f2, f3, f4, f5⟩ := SY.out.cells; obtain ⟨⟨u0, u1, u2, u3, u4, u5⟩, g0, g1, g2, g3, g4, g5⟩ := blk6 HB9.out.2))
                  refine ret_row_tmp w.heap.size (oc6 (.slice pa L.length pc) (Ki.ofD D0) KS D0 0 ⟨#[]⟩).toList rfl rfl rfl Tryz.underlying34 rfl Tryz.info34z (set6 HB9.out.2) rfl ?_
                  rw [HXX.out]
                  exact ⟨pa, pc, rfl, (fin6 SY.out.own HNw.out HB9.out.1).1, (fin6 SY.out.own HNw.out HB9.out.1).2⟩
                · have hne := str_ne' hsx
                  have HXX : Hid (X = (odZ, 4)) := hide (HNO.out (fun o hc hi ht => hsx (by rw [HXT.out, (HEQ.out o hc hi ht).1]; exact (str_eq ht).symm)))
                  go_wp2_with (first
                    | (go_at_call 13; refine kC.mono ?_; rintro e wz ⟨rfl, bz⟩; have BZ := hide bz; have SZ := hide (SX.out.below bz); clear bz kC x0 x1 x2 x3 x4 x5 f0 f1 f2 f3 f4 f5; obtain ⟨⟨x0, x1, x2, x3, x4, x5⟩, f0, f1, f2, f3, f4, f5⟩ := SZ.out.cells)
                    | (go_at_call 16; refine (kT _ BZ.out).mono ?_; rintro e wy ⟨rfl, by'⟩; have SY := hide (SZ.out.below by'); have HB9 := hide (HBW.out _ SY.out.only); clear by' kT x0 x1 x2 x3 x4 x5 f0 f1 f2 f3 f4 f5 u0 u1 u2 u3 u4 u5 g0 g1 g2 g3 g4 g5; obtain ⟨⟨u0, u1, u2, u3, u4, u5⟩, g0, g1, g2, g3, g4, g5⟩ := blk6 HB9.out.2))
                  refine ret_row_tmp w.heap.size (oc6 (.slice none 0 0) 0 ⟨#[]⟩ 0 0 ⟨#[]⟩).toList rfl rfl rfl Tryz.underlying34 rfl Tryz.info34z (set6 HB9.out.2) rfl ?_
                  rw [HXX.out]
                  exact ⟨none, 0, rfl, Os.nil _ _, fin6z HB9.out.1⟩
        · have hnn := hn4
          subst hnn
          clear hn4 y y2
          obtain ⟨s3, hs3⟩ : ∃ r, WS[3]? = some r := ⟨_, List.getElem?_eq_getElem (by have := HN.out; omega)⟩
          obtain ⟨-, -, -, c3⟩ := HC.out w12 S12.out.only
          have c3 := c3 s3 hs3
          have z3 := HW.out.2.2.2.2.2 s3 (List.mem_of_getElem? hs3)
          have HS3 := hide hs3
          clear hs3
          by_cases hd1 : D0 = 1
          · subst hd1
            have kP := parse_any2 s3 w12 (by omega) (by
              have := (HBW.out w12 S12.out.only).1
              exact HW.out.2.2.2.2.1.below this)
            go_upto_region 19 with (go_at_call 80; refine kP.mono ?_; rintro e w13 ⟨NN, zz, rfl, hi64, hpn, b13⟩; have S13 := hide (S12.out.below b13); have HPN := hide hpn; clear b13 kP S12 c3 hpn x0 x1 x2 x3 x4 x5 f0 f1 f2 f3 f4 f5; obtain ⟨⟨x0, x1, x2, x3, x4, x5⟩, f0, f1, f2, f3, f4, f5⟩ := S13.out.cells)
            obtain ⟨w14, hw14⟩ : ∃ r, r = w13.setCell ⟨Nb, 4, none⟩ (.int .i64 NN) := ⟨_, rfl⟩
            rw [← hw14]
            have s14 := S13.out.set 4 (.int .i64 NN) (.slice pa L.length pc) (Ki.ofD 1) KS 1 NN ⟨#[]⟩ L S13.out.own rfl
            rw [← hw14] at s14
            have SX := hide s14
            clear s14 hw14 S13 x0 x1 x2 x3 x4 x5 f0 f1 f2 f3 f4 f5
            have HEQ : Hid (∀ o, chkO o = 0 → I64 o.n → s.data.toList = txO o → (⟨L, Ki.ofD 1, KS, 1, NN, ⟨#[]⟩⟩ : Od) = o ∧ e1 = 0 ∧ e2 = 0) := hide (fun o hc hi ht => by
              obtain ⟨q1, q2, q3, q4, q5, q6, q7⟩ := HFO.out o hc hi ht
              have ho := ok_of hc
              have h7 := q7 s3 HS3.out
              rw [if_pos q1.symm] at h7
              have a2 : NN = o.n := HPN.out o.n (by rw [h7]; exact parse_itoa hi)
              refine ⟨?_, q2, q3⟩
              have a1 := ho.kind
              have a3 := ho.add q1.symm
              obtain ⟨op, ok, os, od, on, ot⟩ := o
              dsimp only at q1 q4 q5 a1 a2 a3
              subst q1 q4 q5 a1 a2 a3
              rfl)
            clear HFO
            obtain ⟨⟨x0, x1, x2, x3, x4, x5⟩, f0, f1, f2, f3, f4, f5⟩ := SX.out.cells
            obtain ⟨HBZ, HMZ⟩ := HBW.out _ SX.out.only
            have HBZ := hide (And.intro HBZ HMZ)
            clear HMZ
            obtain ⟨⟨u0, u1, u2, u3, u4, u5⟩, g0, g1, g2, g3, g4, g5⟩ := blk6 HBZ.out.2
            have HNO : Hid ((∀ o, chkO o = 0 → I64 o.n → s.data.toList = txO o → False) → X = (odZ, 4)) := hide (fun h => by rw [HX.out.1]; exact parse_no h)
            by_cases he1 : e1 = 0
            case neg =>
              have he1b : (e1 != 0) = true := by simpa using he1
              have HXX : Hid (X = (odZ, 4)) := hide (HNO.out (fun o hc hi ht => he1 (HEQ.out o hc hi ht).2.1))
              go_wp2
              refine ret_row_tmp w.heap.size (oc6 (.slice none 0 0) 0 ⟨#[]⟩ 0 0 ⟨#[]⟩).toList rfl rfl rfl Tryz.underlying34 rfl Tryz.info34z (set6 HBZ.out.2) rfl ?_
              rw [HXX.out]
              exact ⟨none, 0, rfl, Os.nil _ _, fin6z HBZ.out.1⟩
            case pos =>
              subst he1
              by_cases he2 : e2 = 0
              case neg =>
                have he2b : (e2 != 0) = true := by simpa using he2
                have HXX : Hid (X = (odZ, 4)) := hide (HNO.out (fun o hc hi ht => he2 (HEQ.out o hc hi ht).2.2))
                go_wp2
                refine ret_row_tmp w.heap.size (oc6 (.slice none 0 0) 0 ⟨#[]⟩ 0 0 ⟨#[]⟩).toList rfl rfl rfl Tryz.underlying34 rfl Tryz.info34z (set6 HBZ.out.2) rfl ?_
                rw [HXX.out]
                exact ⟨none, 0, rfl, Os.nil _ _, fin6z HBZ.out.1⟩
              case pos =>
                subst he2
                have kC := refChk_any (pc := pc) ⟨L, Ki.ofD 1, KS, 1, NN, ⟨#[]⟩⟩ SX.out.own.rs'
                obtain ⟨cv, hcv⟩ : ∃ r, r = chkO ⟨L, Ki.ofD 1, KS, 1, NN, ⟨#[]⟩⟩ := ⟨_, rfl⟩
                rw [← hcv] at kC
                have HCV := hide hcv
                clear hcv
                by_cases hc0 : cv = 0
                case neg =>
                  have hc0b : (cv != 0) = true := by simpa using hc0
                  have HXX : Hid (X = (odZ, 4)) := hide (HNO.out (fun o hc hi ht => hc0 (HCV.out.trans (by rw [(HEQ.out o hc hi ht).1]; exact hc))))
                  go_wp2_with (go_at_call 13; refine kC.mono ?_; rintro e wz ⟨rfl, bz⟩; have HB9 := hide (And.intro (HBZ.out.1.trans (bz.mono HBZ.out.1.size)) ((bz.block _ (Array.getElem?_eq_some_iff.1 HBZ.out.2).1).trans HBZ.out.2)); clear bz kC x0 x1 x2 x3 x4 x5 f0 f1 f2 f3 f4 f5 u0 u1 u2 u3 u4 u5 g0 g1 g2 g3 g4 g5; obtain ⟨⟨u0, u1, u2, u3, u4, u5⟩, g0, g1, g2, g3, g4, g5⟩ := blk6 HB9.out.2)
                  refine ret_row_tmp w.heap.size (oc6 (.slice none 0 0) 0 ⟨#[]⟩ 0 0 ⟨#[]⟩).toList rfl rfl rfl Tryz.underlying34 rfl Tryz.info34z (set6 HB9.out.2) rfl ?_
                  rw [HXX.out]
                  exact ⟨none, 0, rfl, Os.nil _ _, fin6z HB9.out.1⟩
                case pos =>
                  subst hc0
                  have kT := fun W (hW : Below w14.heap.size w14 W) => refText16_any (pc := pc) ⟨L, Ki.ofD 1, KS, 1, NN, ⟨#[]⟩⟩ ((rp_of SX.out.own (by omega)).below hW) (ok_of HCV.out.symm) hi64 ((HW.out.2.2.2.1.below HBZ.out.1).below hW)
                  obtain ⟨XT, hXT⟩ : ∃ r, r = (⟨(txO ⟨L, Ki.ofD 1, KS, 1, NN, ⟨#[]⟩⟩).toArray⟩ : ByteArray) := ⟨_, rfl⟩
                  rw [← hXT] at kT
                  have HXT := hide hXT
                  clear hXT
                  have CALLS : True := trivial
                  by_cases hsx : XT = s
                  · subst hsx
                    have HXX : Hid (X = (⟨L, Ki.ofD 1, KS, 1, NN, ⟨#[]⟩⟩, 0)) := hide (by rw [HX.out.1]; exact parse_yes HCV.out.symm hi64 (by rw [HXT.out]))
                    go_wp2_with (first
                      | (go_at_call 13; refine kC.mono ?_; rintro e wz ⟨rfl, bz⟩; have BZ := hide bz; have SZ := hide (SX.out.below bz); clear bz kC x0 x1 x2 x3 x4 x5 f0 f1 f2 f3 f4 f5; obtain ⟨⟨x0, x1, x2, x3, x4, x5⟩, f0, f1, f2, f3, f4, f5⟩ := SZ.out.cells)
                      | (go_at_call 16; refine (kT _ BZ.out).mono ?_; rintro e wy ⟨rfl, by'⟩; have SY := hide (SZ.out.below by'); have HB9 := hide (HBW.out _ SY.out.only); clear by' kT x0 x1 x2 x3 x4 x5 f0 f1 f2 f3 f4 f5 u0 u1 u2 u3 u4 u5 g0 g1 g2 g3 g4 g5; obtain ⟨⟨x0, x1, x2, x3, x4, x5⟩, f0, f1, f2, f3, f4, f5⟩ := SY.out.cells; obtain ⟨⟨u0, u1, u2, u3, u4, u5⟩, g0, g1, g2, g3, g4, g5⟩ := blk6 HB9.out.2))
                    refine ret_row_tmp w.heap.size (oc6 (.slice pa L.length pc) (Ki.ofD 1) KS 1 NN ⟨#[]⟩).toList rfl rfl rfl Tryz.underlying34 rfl Tryz.info34z (set6 HB9.out.2) rfl ?_
                    rw [HXX.out]
                    exact ⟨pa, pc, rfl, (fin6 SY.out.own HNw.out HB9.out.1).1, (fin6 SY.out.own HNw.out HB9.out.1).2⟩
                  · have hne := str_ne' hsx
                    have HXX : Hid (X = (odZ, 4)) := hide (HNO.out (fun o hc hi ht => hsx (by rw [HXT.out, (HEQ.out o hc hi ht).1]; exact (str_eq ht).symm)))
                    go_wp2_with (first
                      | (go_at_call 13; refine kC.mono ?_; rintro e wz ⟨rfl, bz⟩; have BZ := hide bz; have SZ := hide (SX.out.below bz); clear bz kC x0 x1 x2 x3 x4 x5 f0 f1 f2 f3 f4 f5; obtain ⟨⟨x0, x1, x2, x3, x4, x5⟩, f0, f1, f2, f3, f4, f5⟩ := SZ.out.cells)
                      | (go_at_call 16; refine (kT _ BZ.out).mono ?_; rintro e wy ⟨rfl, by'⟩; have SY := hide (SZ.out.below by'); have HB9 := hide (HBW.out _ SY.out.only); clear by' kT x0 x1 x2 x3 x4 x5 f0 f1 f2 f3 f4 f5 u0 u1 u2 u3 u4 u5 g0 g1 g2 g3 g4 g5; obtain ⟨⟨u0, u1, u2, u3, u4, u5⟩, g0, g1, g2, g3, g4, g5⟩ := blk6 HB9.out.2))
                    refine ret_row_tmp w.heap.size (oc6 (.slice none 0 0) 0 ⟨#[]⟩ 0 0 ⟨#[]⟩).toList rfl rfl rfl Tryz.underlying34 rfl Tryz.info34z (set6 HB9.out.2) rfl ?_
                    rw [HXX.out]
                    exact ⟨none, 0, rfl, Os.nil _ _, fin6z HB9.out.1⟩
          · have e1d : (D0 == 1) = false := by simpa using hd1
            have k78 := refUnword_any s3 w12 (by omega)
            rw [unE_is] at k78
            obtain ⟨U4, hU4⟩ : ∃ r, r = unP (unwordB s3.data.toList) := ⟨_, rfl⟩
            rw [← hU4] at k78
            have HU4 := hide hU4
            clear hU4
            obtain ⟨TT, e4⟩ := U4
            dsimp only at k78
            go_upto_region 19 with (go_at_call 78; refine k78.mono ?_; rintro e w13 ⟨rfl, b13⟩; have S13 := hide (S12.out.below b13); clear b13 k78 S12 c3 x0 x1 x2 x3 x4 x5 f0 f1 f2 f3 f4 f5; obtain ⟨⟨x0, x1, x2, x3, x4, x5⟩, f0, f1, f2, f3, f4, f5⟩ := S13.out.cells)
            obtain ⟨w14, hw14⟩ : ∃ r, r = w13.setCell ⟨Nb, 5, none⟩ (.string TT) := ⟨_, rfl⟩
            rw [← hw14]
            have s14 := S13.out.set 5 (.string TT) (.slice pa L.length pc) (Ki.ofD D0) KS D0 0 TT L S13.out.own rfl
            rw [← hw14] at s14
            have SX := hide s14
            clear s14 hw14 S13 x0 x1 x2 x3 x4 x5 f0 f1 f2 f3 f4 f5
            have HEQ : Hid (∀ o, chkO o = 0 → I64 o.n → s.data.toList = txO o → (⟨L, Ki.ofD D0, KS, D0, 0, TT⟩ : Od) = o ∧ e1 = 0 ∧ e2 = 0) := hide (fun o hc hi ht => by
              obtain ⟨q1, q2, q3, q4, q5, q6, q7⟩ := HFO.out o hc hi ht
              have ho := ok_of hc
              have h7 := q7 s3 HS3.out
              have hod : o.d ≠ 1 := fun h => hd1 (q1.trans h)
              rw [if_neg hod] at h7
              have a3 : TT = o.t := by
                have := HU4.out
                rw [h7, un_word] at this
                simp only [Prod.mk.injEq] at this
                exact this.1
              refine ⟨?_, q2, q3⟩
              have a1 := ho.kind
              have a2 := ho.num hod
              obtain ⟨op, ok, os, od, on, ot⟩ := o
              dsimp only at q1 q4 q5 a1 a2 a3
              subst q1 q4 q5 a1 a2 a3
              rfl)
            have hi64 : I64 (0 : Int) := by unfold I64; omega
            clear HFO
            obtain ⟨⟨x0, x1, x2, x3, x4, x5⟩, f0, f1, f2, f3, f4, f5⟩ := SX.out.cells
            obtain ⟨HBZ, HMZ⟩ := HBW.out _ SX.out.only
            have HBZ := hide (And.intro HBZ HMZ)
            clear HMZ
            obtain ⟨⟨u0, u1, u2, u3, u4, u5⟩, g0, g1, g2, g3, g4, g5⟩ := blk6 HBZ.out.2
            have HNO : Hid ((∀ o, chkO o = 0 → I64 o.n → s.data.toList = txO o → False) → X = (odZ, 4)) := hide (fun h => by rw [HX.out.1]; exact parse_no h)
            by_cases he1 : e1 = 0
            case neg =>
              have he1b : (e1 != 0) = true := by simpa using he1
              have HXX : Hid (X = (odZ, 4)) := hide (HNO.out (fun o hc hi ht => he1 (HEQ.out o hc hi ht).2.1))
              go_wp2
              refine ret_row_tmp w.heap.size (oc6 (.slice none 0 0) 0 ⟨#[]⟩ 0 0 ⟨#[]⟩).toList rfl rfl rfl Tryz.underlying34 rfl Tryz.info34z (set6 HBZ.out.2) rfl ?_
              rw [HXX.out]
              exact ⟨none, 0, rfl, Os.nil _ _, fin6z HBZ.out.1⟩
            case pos =>
              subst he1
              by_cases he2 : e2 = 0
              case neg =>
                have he2b : (e2 != 0) = true := by simpa using he2
                have HXX : Hid (X = (odZ, 4)) := hide (HNO.out (fun o hc hi ht => he2 (HEQ.out o hc hi ht).2.2))
                go_wp2
                refine ret_row_tmp w.heap.size (oc6 (.slice none 0 0) 0 ⟨#[]⟩ 0 0 ⟨#[]⟩).toList rfl rfl rfl Tryz.underlying34 rfl Tryz.info34z (set6 HBZ.out.2) rfl ?_
                rw [HXX.out]
                exact ⟨none, 0, rfl, Os.nil _ _, fin6z HBZ.out.1⟩
              case pos =>
                subst he2
                have kC := refChk_any (pc := pc) ⟨L, Ki.ofD D0, KS, D0, 0, TT⟩ SX.out.own.rs'
                obtain ⟨cv, hcv⟩ : ∃ r, r = chkO ⟨L, Ki.ofD D0, KS, D0, 0, TT⟩ := ⟨_, rfl⟩
                rw [← hcv] at kC
                have HCV := hide hcv
                clear hcv
                by_cases hc0 : cv = 0
                case neg =>
                  have hc0b : (cv != 0) = true := by simpa using hc0
                  have HXX : Hid (X = (odZ, 4)) := hide (HNO.out (fun o hc hi ht => hc0 (HCV.out.trans (by rw [(HEQ.out o hc hi ht).1]; exact hc))))
                  go_wp2_with (go_at_call 13; refine kC.mono ?_; rintro e wz ⟨rfl, bz⟩; have HB9 := hide (And.intro (HBZ.out.1.trans (bz.mono HBZ.out.1.size)) ((bz.block _ (Array.getElem?_eq_some_iff.1 HBZ.out.2).1).trans HBZ.out.2)); clear bz kC x0 x1 x2 x3 x4 x5 f0 f1 f2 f3 f4 f5 u0 u1 u2 u3 u4 u5 g0 g1 g2 g3 g4 g5; obtain ⟨⟨u0, u1, u2, u3, u4, u5⟩, g0, g1, g2, g3, g4, g5⟩ := blk6 HB9.out.2)
                  refine ret_row_tmp w.heap.size (oc6 (.slice none 0 0) 0 ⟨#[]⟩ 0 0 ⟨#[]⟩).toList rfl rfl rfl Tryz.underlying34 rfl Tryz.info34z (set6 HB9.out.2) rfl ?_
                  rw [HXX.out]
                  exact ⟨none, 0, rfl, Os.nil _ _, fin6z HB9.out.1⟩
                case pos =>
                  subst hc0
                  have kT := fun W (hW : Below w14.heap.size w14 W) => refText16_any (pc := pc) ⟨L, Ki.ofD D0, KS, D0, 0, TT⟩ ((rp_of SX.out.own (by omega)).below hW) (ok_of HCV.out.symm) hi64 ((HW.out.2.2.2.1.below HBZ.out.1).below hW)
                  obtain ⟨XT, hXT⟩ : ∃ r, r = (⟨(txO ⟨L, Ki.ofD D0, KS, D0, 0, TT⟩).toArray⟩ : ByteArray) := ⟨_, rfl⟩
                  rw [← hXT] at kT
                  have HXT := hide hXT
                  clear hXT
                  have CALLS : True := trivial
                  by_cases hsx : XT = s
                  · subst hsx
                    have HXX : Hid (X = (⟨L, Ki.ofD D0, KS, D0, 0, TT⟩, 0)) := hide (by rw [HX.out.1]; exact parse_yes HCV.out.symm hi64 (by rw [HXT.out]))
                    go_wp2_with (first
                      | (go_at_call 13; refine kC.mono ?_; rintro e wz ⟨rfl, bz⟩; have BZ := hide bz; have SZ := hide (SX.out.below bz); clear bz kC x0 x1 x2 x3 x4 x5 f0 f1 f2 f3 f4 f5; obtain ⟨⟨x0, x1, x2, x3, x4, x5⟩, f0, f1, f2, f3, f4, f5⟩ := SZ.out.cells)
                      | (go_at_call 16; refine (kT _ BZ.out).mono ?_; rintro e wy ⟨rfl, by'⟩; have SY := hide (SZ.out.below by'); have HB9 := hide (HBW.out _ SY.out.only); clear by' kT x0 x1 x2 x3 x4 x5 f0 f1 f2 f3 f4 f5 u0 u1 u2 u3 u4 u5 g0 g1 g2 g3 g4 g5; obtain ⟨⟨x0, x1, x2, x3, x4, x5⟩, f0, f1, f2, f3, f4, f5⟩ := SY.out.cells; obtain ⟨⟨u0, u1, u2, u3, u4, u5⟩, g0, g1, g2, g3, g4, g5⟩ := blk6 HB9.out.2))
                    refine ret_row_tmp w.heap.size (oc6 (.slice pa L.length pc) (Ki.ofD D0) KS D0 0 TT).toList rfl rfl rfl Tryz.underlying34 rfl Tryz.info34z (set6 HB9.out.2) rfl ?_
                    rw [HXX.out]
                    exact ⟨pa, pc, rfl, (fin6 SY.out.own HNw.out HB9.out.1).1, (fin6 SY.out.own HNw.out HB9.out.1).2⟩
                  · have hne := str_ne' hsx
                    have HXX : Hid (X = (odZ, 4)) := hide (HNO.out (fun o hc hi ht => hsx (by rw [HXT.out, (HEQ.out o hc hi ht).1]; exact (str_eq ht).symm)))
                    go_wp2_with (first
                      | (go_at_call 13; refine kC.mono ?_; rintro e wz ⟨rfl, bz⟩; have BZ := hide bz; have SZ := hide (SX.out.below bz); clear bz kC x0 x1 x2 x3 x4 x5 f0 f1 f2 f3 f4 f5; obtain ⟨⟨x0, x1, x2, x3, x4, x5⟩, f0, f1, f2, f3, f4, f5⟩ := SZ.out.cells)
                      | (go_at_call 16; refine (kT _ BZ.out).mono ?_; rintro e wy ⟨rfl, by'⟩; have SY := hide (SZ.out.below by'); have HB9 := hide (HBW.out _ SY.out.only); clear by' kT x0 x1 x2 x3 x4 x5 f0 f1 f2 f3 f4 f5 u0 u1 u2 u3 u4 u5 g0 g1 g2 g3 g4 g5; obtain ⟨⟨u0, u1, u2, u3, u4, u5⟩, g0, g1, g2, g3, g4, g5⟩ := blk6 HB9.out.2))
                    refine ret_row_tmp w.heap.size (oc6 (.slice none 0 0) 0 ⟨#[]⟩ 0 0 ⟨#[]⟩).toList rfl rfl rfl Tryz.underlying34 rfl Tryz.info34z (set6 HB9.out.2) rfl ?_
                    rw [HXX.out]
                    exact ⟨none, 0, rfl, Os.nil _ _, fin6z HB9.out.1⟩
end Go.Proofs.YtpepgoelnagoaaaGreatDoor
