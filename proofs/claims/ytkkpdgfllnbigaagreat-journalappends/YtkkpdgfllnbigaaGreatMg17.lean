/-
  register: the document's Behind (44), May (38), Sorted (40).
  stamp: a stamp's key is a key, and the stamp of it is that stamp.
  register and queue: what a map of elements tells, against the document's lists.
  register: a register tells just these elements (stands 41).
-/
import Derived.Test.YtkkpdgfllnbigaaGreatSort1
import Derived.Test.YtkkpdgfllnbigaaGreatMg15
import Derived.Test.YtkkpdgfllnbigaaGreatMg11
import Derived.Test.YtkkpdgfllnbigaaGreatMg16
namespace Go.Proofs.YtkkpdgfllnbigaaGreat
open Go.RowKit Go.Shelf
set_option linter.unusedSimpArgs false
attribute [local go_sem] Oper.semAt_some

/-- Is a stamp behind the last one's? -/
def behB (l : List El) (s : St) : Bool := match l.getLast? with
  | none => true
  | some y => decide (cmpT y.1 s = -1)
end Go.Proofs.YtkkpdgfllnbigaaGreat
namespace Go.Proofs.YtkkpdgfllnbigaaGreat
open Go.RowKit Go.Shelf
set_option linter.unusedSimpArgs false

theorem ofInt_nat (n : Nat) (h : n < 18446744073709551616) : (BitVec.ofInt 64 (n : Int)).toNat = n := by
  rw [BitVec.ofInt_natCast, BitVec.toNat_ofNat]
  exact Nat.mod_eq_of_lt (by omega)
theorem stepH_nat (n b : Nat) (hn : n < 36028797018963968) (hb : b < 256) : stepH (n : Int) (b : Int) = ((n * 256 + b : Nat) : Int) := by
  unfold stepH
  have hw : wrap64 ((n : Int) * 256) = ((n * 256 : Nat) : Int) := by unfold wrap64; omega
  rw [hw]
  show IntKind.i64.wrap ((BitVec.ofInt 64 ((n * 256 : Nat) : Int) ||| BitVec.ofInt 64 (b : Int)).toNat : Int) = _
  rw [BitVec.toNat_or, ofInt_nat _ (by omega), ofInt_nat _ (by omega)]
  have : n * 256 ||| b = n * 256 + b := by
    have := Nat.shiftLeft_add_eq_or_of_lt (i := 8) (b := b) (by omega) n
    rw [Nat.shiftLeft_eq] at this
    exact this.symm
  rw [this, IntKind.wrap_i64]
  omega
theorem ofHi_low : ∀ (k n a : Nat), a * 256 ^ k + n < 9223372036854775808 → n < 256 ^ k → (low n k).foldl stepH (a : Int) = ((a * 256 ^ k + n : Nat) : Int)
  | 0, n, a, _, h => by
    simp at h
    subst h
    simp [low]
  | k + 1, n, a, ha, h => by
    have hp : 0 < 256 ^ k := Nat.pow_pos (by omega)
    have hd : n / 256 ^ k < 256 := by rw [Nat.div_lt_iff_lt_mul hp]; rw [Nat.pow_succ] at h; omega
    have hdm := Nat.div_add_mod n (256 ^ k)
    have hm := Nat.mod_lt n hp
    rw [low, List.foldl_cons, ← low_mod n k k (Nat.le_refl _), Nat.mod_eq_of_lt hd]
    have e : a * 256 ^ (k + 1) + n = (a * 256 + n / 256 ^ k) * 256 ^ k + n % 256 ^ k := by
      rw [Nat.pow_succ, Nat.add_mul, Nat.mul_assoc, Nat.mul_comm 256, Nat.mul_comm (n / 256 ^ k)]
      omega
    have hle : a * 256 + n / 256 ^ k ≤ (a * 256 + n / 256 ^ k) * 256 ^ k := Nat.le_mul_of_pos_right _ hp
    rw [e] at ha ⊢
    have hsm : a < 36028797018963968 := by
      generalize (a * 256 + n / 256 ^ k) * 256 ^ k = M at ha hle
      generalize n / 256 ^ k = d at hle
      generalize n % 256 ^ k = m at ha
      clear e hdm hm hp hd h
      omega
    rw [stepH_nat a _ hsm hd]
    exact ofHi_low k _ _ ha hm
theorem ofHi_U (n : Nat) (h : n < 9223372036854775808) : ofHi (ints (U (low n 8))) = (n : Int) := by
  have : ints (U (low n 8)) = low n 8 := str_back (low_u8 n 8)
  rw [this]
  have := ofHi_low 8 n 0 (by omega) (by omega)
  simpa [ofHi] using this
theorem U_len (l : List Int) : (U l).length = l.length := by unfold U; rw [← Lib.size_eq, strOfNums_size]
theorem size_list (s : ByteArray) : s.size = s.data.toList.length := by rw [← Lib.size_eq]
theorem U_at (a : Int) (h0 : 0 ≤ a) (h1 : a < 256) : ((UInt8.ofNat a.toNat).toNat : Int) = a := by
  rw [UInt8.toNat_ofNat', Nat.mod_eq_of_lt (by omega)]
  omega
theorem key_back {g r n x : Int} {l : ByteArray} (h : stampV g r l n x = true) : 19 ≤ (keyS g r l n x).size ∧ okG (keyS g r l n x) = g ∧ okR (keyS g r l n x) = r ∧ okL (keyS g r l n x) = l ∧ okN (keyS g r l n x) = n ∧ okX (keyS g r l n x) = x := by
  obtain ⟨g0, g1, hn, x0, x1⟩ := stamp_parts h
  obtain ⟨hb, n0, n1⟩ := name_parts hn
  obtain ⟨r0, r1, hl⟩ := branch_parts hb
  have hk := keyS_list g r l n x
  have hA : (U (low g.toNat 8)).length = 8 := by rw [U_len, low_length]
  have hN : (U (low n.toNat 8)).length = 8 := by rw [U_len, low_length]
  have hl1 : 1 ≤ l.size := by
    unfold labelB at hl
    rw [size_list]
    simp only [Bool.and_eq_true, decide_eq_true_eq] at hl
    omega
  have hsz : (keyS g r l n x).size = l.size + 19 := by
    rw [size_list, hk, size_list]
    simp only [List.length_append, List.length_cons, U_len, low_length, List.length_nil]
    omega
  have hls := size_list l
  refine ⟨by omega, ?_, ?_, ?_, ?_, ?_⟩
  · unfold okG
    rw [ext_mid]
    simp only [hk, List.drop_zero, Nat.sub_zero]
    rw [List.take_left' hA, ofHi_U _ (by omega)]
    omega
  · unfold okR
    rw [hk, U_one]
    have : (U (low g.toNat 8) ++ ([UInt8.ofNat r.toNat] ++ (l.data.toList ++ 0 :: (U (low n.toNat 8) ++ U [x])))).getD 8 0 = UInt8.ofNat r.toNat := by
      rw [List.getD_eq_getElem?_getD, List.getElem?_append_right (by omega), hA]
      rfl
    rw [this]
    exact U_at r r0 (by omega)
  · unfold okL
    rw [ext_mid, hk, hsz]
    apply ba_ext
    have e1 : (U (low g.toNat 8) ++ (U [r] ++ (l.data.toList ++ 0 :: (U (low n.toNat 8) ++ U [x])))).drop 9 = l.data.toList ++ 0 :: (U (low n.toNat 8) ++ U [x]) := by
      rw [← List.append_assoc]
      exact List.drop_left' (by rw [List.length_append, hA, U_len]; rfl)
    rw [e1]
    show List.take _ _ = _
    rw [show l.size + 19 - 10 - 9 = l.size by omega]
    exact List.take_left' hls.symm
  · unfold okN
    rw [ext_mid, hk, hsz]
    have e1 : (U (low g.toNat 8) ++ (U [r] ++ (l.data.toList ++ 0 :: (U (low n.toNat 8) ++ U [x])))) = (U (low g.toNat 8) ++ U [r] ++ l.data.toList ++ [0]) ++ (U (low n.toNat 8) ++ U [x]) := by simp
    rw [e1, List.drop_left' (by simp only [List.length_append, U_len, low_length, List.length_cons, List.length_nil]; omega)]
    show ofHi (ints (List.take _ _)) = _
    rw [List.take_left' (by rw [hN]; omega), ofHi_U _ (by omega)]
    omega
  · unfold okX
    have hx1 : U [x] = [UInt8.ofNat x.toNat] := U_one x
    rw [hk, hsz, hx1]
    have e1 : (U (low g.toNat 8) ++ (U [r] ++ (l.data.toList ++ 0 :: (U (low n.toNat 8) ++ [UInt8.ofNat x.toNat])))) = (U (low g.toNat 8) ++ U [r] ++ l.data.toList ++ [0] ++ U (low n.toNat 8)) ++ [UInt8.ofNat x.toNat] := by simp
    rw [e1, List.getD_eq_getElem?_getD, List.getElem?_append_right (by simp only [List.length_append, U_len, low_length, List.length_cons, List.length_nil]; omega)]
    have : l.size + 19 - 1 - (U (low g.toNat 8) ++ U [r] ++ l.data.toList ++ [0] ++ U (low n.toNat 8)).length = 0 := by simp only [List.length_append, U_len, low_length, List.length_cons, List.length_nil]; omega
    rw [this]
    exact U_at x x0 (by omega)
theorem okV_key {s : St} (h : stV s = true) : okV (keyT s) = true := by
  obtain ⟨g, r, l, n, x⟩ := s
  have h' : stampV g r l n x = true := h
  obtain ⟨k0, k1, k2, k3, k4, k5⟩ := key_back h'
  show okV (keyS g r l n x) = true
  unfold okV
  rw [k1, k2, k3, k4, k5, h']
  simp [k0]
theorem ofT_key {s : St} (h : stV s = true) : ofT (keyT s) = s := by
  have hv := okV_key h
  obtain ⟨g, r, l, n, x⟩ := s
  have h' : stampV g r l n x = true := h
  obtain ⟨k0, k1, k2, k3, k4, k5⟩ := key_back h'
  have hv' : okV (keyS g r l n x) = true := hv
  show (kG (keyS g r l n x), kR (keyS g r l n x), kL (keyS g r l n x), kN (keyS g r l n x), kX (keyS g r l n x)) = _
  unfold kG kR kL kN kX
  simp only [hv', if_true, k1, k2, k3, k4, k5]
end Go.Proofs.YtkkpdgfllnbigaaGreat
namespace Go.Proofs.YtkkpdgfllnbigaaGreat
open Go.RowKit Go.Shelf

theorem okV_of {k : ByteArray} (h : okV k = true) : keyT (ofT k) = k ∧ stV (ofT k) = true := by
  have h' := h
  unfold okV at h'
  simp only [Bool.and_eq_true, decide_eq_true_eq] at h'
  have e : ofT k = (okG k, okR k, okL k, okN k, okX k) := by
    unfold ofT kG kR kL kN kX
    simp only [h, if_true]
  rw [e]
  exact ⟨h'.2.2, h'.2.1⟩
theorem cmp_keys {s t : St} (hs : stV s = true) (ht : stV t = true) : Pm.cmpB (keyT s) (keyT t) = cmpT s t := by
  obtain ⟨g, r, l, n, x⟩ := s
  obtain ⟨g', r', l', n', x'⟩ := t
  have ho := key_order hs ht
  rw [cmpS_eq] at ho
  exact ho
theorem okKv_el {x : Kv} (h : okKv x = true) : okV x.1 = true ∧ txtB x.2 = true := by simpa [okKv] using h
theorem may_mem {l : List Kv} (h : mayL l = true) {x : Kv} (hx : x ∈ l) : okKv x = true := List.all_eq_true.1 h x hx
theorem els_up {l : List Kv} (hm : mayL l = true) (hs : Pm.Srt l) : UpS (elsL l) := by
  rw [elsL, if_pos hm]
  unfold elsM UpS
  rw [List.pairwise_map]
  refine hs.imp_of_mem (fun {a b} ha hb h => ?_)
  have h1 := okV_of (okKv_el (may_mem hm ha)).1
  have h2 := okV_of (okKv_el (may_mem hm hb)).1
  have h3 := cmp_keys h1.2 h2.2
  rw [h1.1, h2.1] at h3
  exact h3.symm.trans h
theorem els_ok {l : List Kv} (hm : mayL l = true) : ∀ x ∈ elsL l, okEl x = true := fun x hx => by
  rw [elsL, if_pos hm] at hx
  obtain ⟨y, hy, rfl⟩ := List.mem_map.1 hx
  have h1 := okKv_el (may_mem hm hy)
  simp only [okEl, Bool.and_eq_true]
  exact ⟨(okV_of h1.1).2, h1.2⟩
theorem okKv_kv {x : El} (h : okEl x = true) : okKv (kvE x) = true := by
  simp only [okEl, Bool.and_eq_true] at h
  simp only [okKv, kvE, Bool.and_eq_true]
  exact ⟨okV_key h.1, h.2⟩
theorem els_srt {t : Pm.T} {l : List El} (hg : goodL l = true) (hp : t.list.Perm (l.map kvE)) (hs : Pm.Srt t.list) : mayL t.list = true ∧ elsL t.list = srtE l := by
  have hok : ∀ x ∈ l, okEl x = true := fun x hx => by simp only [goodL, Bool.and_eq_true] at hg; exact List.all_eq_true.1 hg.1 x hx
  have hm : mayL t.list = true := List.all_eq_true.2 (fun y hy => by
    obtain ⟨x, hx, rfl⟩ := List.mem_map.1 (hp.subset hy)
    exact okKv_kv (hok x hx))
  refine ⟨hm, up_eq (els_up hm hs) (srtE_up l ?_) ?_⟩
  · have := mayE_good l
    rw [hg] at this
    simp only [mayE, Bool.and_eq_true, decide_eq_true_eq] at this
    exact this.2
  · rw [elsL, if_pos hm]
    refine ((hp.map (fun x => ((ofT x.1, x.2) : El))).trans ?_).trans (srtE_perm l).symm
    rw [List.map_map]
    have : l.map ((fun x : Kv => ((ofT x.1, x.2) : El)) ∘ kvE) = l := by
      conv => rhs; rw [← List.map_id l]
      refine List.map_congr_left (fun x hx => ?_)
      have h := hok x hx
      simp only [okEl, Bool.and_eq_true] at h
      show (ofT (keyT x.1), x.2) = x
      rw [ofT_key h.1]
    rw [this]
theorem keyT_ahead {s : St} : Pm.cmpB ⟨#[]⟩ (keyT s) = -1 := by
  have h : 0 < (keyT s).data.toList.length := by
    obtain ⟨g, r, l, n, x⟩ := s
    show 0 < (keyS g r l n x).data.toList.length
    rw [keyS_list]
    simp [U_len, low_length]
    omega
  cases hk : (keyT s).data.toList with
  | nil => rw [hk] at h; cases h
  | cons a m => show Lib.compareBytes _ (keyT s).data.toList = -1; rw [hk]; rfl
/-- A write is taken just where the document says so. -/
theorem okWr_doc {l : List Kv} (hm : mayL l = true) (s : St) (x : ByteArray) : okWr l s x = ((stV s && txtB x) && behB (elsL l) s) := by
  unfold okWr
  rw [hm, Bool.and_true]
  cases hv : stV s with
  | false => rfl
  | true =>
    congr 1
    unfold behB
    have hg : (elsL l).getLast? = l.getLast?.map (fun x => ((ofT x.1, x.2) : El)) := by rw [elsL, if_pos hm]; unfold elsM; rw [List.getLast?_map]
    rw [hg]
    cases hl : l.getLast? with
    | none =>
      show decide (Pm.cmpB ⟨#[]⟩ (keyT s) = -1) = true
      rw [keyT_ahead]; rfl
    | some y =>
      have h1 := okV_of (okKv_el (may_mem hm (List.mem_of_getLast? hl))).1
      have h3 := cmp_keys h1.2 hv
      rw [h1.1] at h3
      show decide (Pm.cmpB y.1 (keyT s) = -1) = decide (cmpT (ofT y.1) s = -1)
      rw [h3]
end Go.Proofs.YtkkpdgfllnbigaaGreat
namespace Go.Proofs.YtkkpdgfllnbigaaGreat
open Go.RowKit Go.Shelf
set_option linter.unusedSimpArgs false
attribute [local go_sem] Oper.semAt_some

end Go.Proofs.YtkkpdgfllnbigaaGreat
