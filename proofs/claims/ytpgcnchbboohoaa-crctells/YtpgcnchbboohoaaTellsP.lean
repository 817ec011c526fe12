/-
  PLAIN LAWS for the law CrcTells: bits turned in bytes.
-/
import Derived.Test.YtpgcnchbboohoaaSumsW
namespace Go.Proofs.Ytpgcnchbboohoaa
open Go.RowKit Crc

/-- One bit turned, in bytes as the walks have them. -/
def flipI (l : List Int) (k : Nat) : List Int := l.set (k / 8) ((((l.getD (k / 8) 0).toNat ^^^ 2 ^ (k % 8) : Nat)) : Int)
theorem flipI_length (l : List Int) (k : Nat) : (flipI l k).length = l.length := by simp [flipI]
theorem nats_set (l : List Int) (q : Nat) (v : Nat) : nats (l.set q (v : Int)) = (nats l).set q v := by simp [nats, List.map_set]
theorem nats_getD (l : List Int) (q : Nat) : (nats l).getD q 0 = (l.getD q 0).toNat := by
  simp only [nats, List.getD_eq_getElem?_getD, List.getElem?_map]
  cases l[q]? <;> rfl
theorem nats_flipI (l : List Int) (k : Nat) : nats (flipI l k) = flip (nats l) k := by
  rw [flipI, nats_set, Crc.flip, nats_getD]
theorem pow8 (k : Nat) : 2 ^ (k % 8) < 256 := Nat.pow_lt_pow_right (a := 2) (by omega) (show k % 8 < 8 by omega)
theorem U8.getD {l : List Int} (h : U8 l) (q : Nat) : 0 ≤ l.getD q 0 ∧ l.getD q 0 ≤ 255 := by
  rw [List.getD_eq_getElem?_getD]
  cases hq : l[q]? with
  | none => simp
  | some b => exact h b (List.mem_of_getElem? hq)
theorem U8.set {l : List Int} (h : U8 l) (q v : Nat) (hv : v < 256) : U8 (l.set q (v : Int)) := by
  intro y hy
  rcases List.mem_or_eq_of_mem_set hy with h1 | h1
  · exact h y h1
  · rw [h1]; omega
theorem U8.flipI {l : List Int} (h : U8 l) (k : Nat) : U8 (flipI l k) := by
  have h1 := h.getD (k / 8)
  exact h.set _ _ (Nat.xor_lt_two_pow (n := 8) (by omega) (pow8 k))

/-- Some bits turned, one behind the other. -/
def flips (b : List Int) (kf : Nat → Nat) : Nat → List Int
  | 0 => b
  | j + 1 => flipI (flips b kf j) (kf j)
theorem flips_length (b : List Int) (kf : Nat → Nat) : ∀ j, (flips b kf j).length = b.length
  | 0 => rfl
  | j + 1 => by rw [flips, flipI_length, flips_length b kf j]
theorem flips_u8 {b : List Int} (h : U8 b) (kf : Nat → Nat) : ∀ j, U8 (flips b kf j)
  | 0 => h
  | j + 1 => (flips_u8 h kf j).flipI _
/-- Three bits turned: the sums part. -/
theorem three_flips (l : List Nat) (k0 k1 k2 : Nat) (h0 : k0 < 8 * l.length) (h1 : k1 < 8 * l.length) (h2 : k2 < 8 * l.length) : sum (flip (flip (flip l k0) k1) k2) ≠ sum l := by
  rw [sum_flip _ k2 (by rw [flip_length, flip_length]; exact h2), sum_flip _ k1 (by rw [flip_length]; exact h1), sum_flip l k0 h0]
  intro e
  refine three_bits (8 * l.length - k0) (8 * (flip l k0).length - k1) (8 * (flip (flip l k0) k1).length - k2) ?_
  have := congrArg (fun x => sum l ^^^ x) e
  simp only [Nat.xor_self] at this
  rw [← this, ← Nat.xor_assoc, ← Nat.xor_assoc, ← Nat.xor_assoc, Nat.xor_self, Nat.zero_xor]
/-- A burst that left a trace. -/
theorem burst_ne (l : List Nat) (t q v : Nat) (hv : v < 4294967296) (h : t = sum l ^^^ hs q v) (h0 : v ≠ 0) : t ≠ sum l := by
  intro e
  have hz : hs q v = 0 := by
    have := congrArg (fun x => sum l ^^^ x) (h.symm.trans e)
    simp only [Nat.xor_self] at this
    rwa [← Nat.xor_assoc, Nat.xor_self, Nat.zero_xor] at this
  exact hs_ne q hv h0 hz

/-- What a law's 'at' comes to: below so many bits. -/
theorem mod_abs (a : Int) (n : Nat) (h : 0 < n) : ∃ k : Nat, k < 8 * n ∧ ((0 ≤ k ∧ a.tmod (8 * (n : Int)) = k) ∨ (0 < k ∧ a.tmod (8 * (n : Int)) = -(k : Int))) := by
  refine ⟨(a.tmod (8 * (n : Int))).natAbs, ?_, ?_⟩
  · rw [Int.natAbs_tmod, show (8 * (n : Int)).natAbs = 8 * n by omega]; exact Nat.mod_lt _ (by omega)
  · by_cases hs : 0 ≤ a.tmod (8 * (n : Int))
    · exact .inl ⟨by omega, by omega⟩
    · exact .inr ⟨by omega, by omega⟩
theorem str_back {l : List Int} (h : U8 l) : (strOfNums l).data.toList.map (fun c => (c.toNat : Int)) = l := by
  rw [strOfNums_data, List.map_map]
  have : ∀ n ∈ l, ((fun c : UInt8 => (c.toNat : Int)) ∘ fun n : Int => UInt8.ofNat n.toNat) n = n := fun n hn => by
    have := h n hn
    simp only [Function.comp, UInt8.toNat_ofNat']
    omega
  rw [List.map_congr_left this, List.map_id']
theorem str_ne {l m : List Int} (hl : U8 l) (hm : U8 m) (h : l ≠ m) : ((strOfNums l).toList == (strOfNums m).toList) = false := by
  rw [beq_eq_false_iff_ne]
  intro e
  rw [ByteArray.toList_eq, ByteArray.toList_eq] at e
  exact h (by rw [← str_back hl, ← str_back hm, e])
/-- Bytes that are laid one behind the other over noughts. -/
def gl (n : Nat) (f : Nat → Int) (j : Nat) : List Int := (List.range n).map fun i => if i < j then f i else 0
theorem gl_length (n j : Nat) (f : Nat → Int) : (gl n f j).length = n := by simp [gl]
theorem gl_at {n i j : Nat} {f : Nat → Int} (h : i < n) : (gl n f j)[i]? = some (if i < j then f i else 0) := by simp [gl, h]
theorem gl_set {n j : Nat} {f : Nat → Int} (h : j < n) : (gl n f j).set j (f j) = gl n f (j + 1) := by
  apply List.ext_getElem?
  intro i
  rw [List.getElem?_set, gl_length]
  by_cases hi : j = i
  · subst hi; rw [if_pos rfl, if_pos h, gl_at h, if_pos (by omega)]
  · rw [if_neg hi]
    by_cases hn : i < n
    · rw [gl_at hn, gl_at hn]
      congr 1
      by_cases h1 : i < j
      · rw [if_pos h1, if_pos (by omega)]
      · rw [if_neg h1, if_neg (by omega)]
    · rw [List.getElem?_eq_none (by rw [gl_length]; omega), List.getElem?_eq_none (by rw [gl_length]; omega)]
theorem gl_zero (n : Nat) (f : Nat → Int) : gl n f 0 = List.replicate n 0 := by
  apply List.ext_getElem?
  intro i
  by_cases h : i < n
  · rw [gl_at h, if_neg (by omega), List.getElem?_replicate, if_pos h]
  · rw [List.getElem?_eq_none (by rw [gl_length]; omega), List.getElem?_eq_none (by simp; omega)]
theorem gl_same {n j : Nat} {f : Nat → Int} (h : f j = 0) : gl n f (j + 1) = gl n f j := by
  apply List.ext_getElem?
  intro i
  by_cases hn : i < n
  · rw [gl_at hn, gl_at hn]
    congr 1
    by_cases h1 : i < j
    · rw [if_pos h1, if_pos (by omega)]
    · rw [if_neg h1]
      by_cases h2 : i < j + 1
      · rw [if_pos h2, show i = j by omega, h]
      · rw [if_neg h2]
  · rw [List.getElem?_eq_none (by rw [gl_length]; omega), List.getElem?_eq_none (by rw [gl_length]; omega)]
theorem gl_u8 {n j : Nat} {f : Nat → Int} (h : ∀ i, 0 ≤ f i ∧ f i ≤ 255) : U8 (gl n f j) := by
  intro y hy
  simp only [gl, List.mem_map] at hy
  obtain ⟨i, _, rfl⟩ := hy
  split
  · exact h i
  · omega
/-- Three texts, byte by byte. -/
def xor3 (b x z : List Int) (i : Nat) : Int := (((b.getD i 0).toNat ^^^ (x.getD i 0).toNat ^^^ (z.getD i 0).toNat : Nat) : Int)
theorem xor3_u8 {b x z : List Int} (hb : U8 b) (hx : U8 x) (hz : U8 z) (i : Nat) : 0 ≤ xor3 b x z i ∧ xor3 b x z i ≤ 255 := by
  have h1 := hb.getD i
  have h2 := hx.getD i
  have h3 := hz.getD i
  have h4 : (b.getD i 0).toNat ^^^ (x.getD i 0).toNat < 256 := Nat.xor_lt_two_pow (n := 8) (by omega) (by omega)
  have h5 : (b.getD i 0).toNat ^^^ (x.getD i 0).toNat ^^^ (z.getD i 0).toNat < 256 := Nat.xor_lt_two_pow (n := 8) h4 (by omega)
  unfold xor3
  omega
theorem nats_get (l : List Int) (i : Nat) (h : i < l.length) : (nats l)[i]? = some (l.getD i 0).toNat := by
  rw [nats, List.getElem?_map, List.getD_eq_getElem?_getD, List.getElem?_eq_getElem h]; rfl
theorem nats_xor3 (b x z : List Int) (hx : x.length = b.length) (hz : z.length = b.length) :
    nats (gl b.length (xor3 b x z) b.length) = List.zipWith (· ^^^ ·) (List.zipWith (· ^^^ ·) (nats b) (nats x)) (nats z) := by
  apply List.ext_getElem?
  intro i
  by_cases h : i < b.length
  · rw [nats, List.getElem?_map, gl_at h, if_pos h, List.getElem?_zipWith, List.getElem?_zipWith, nats_get b i h, nats_get x i (by omega), nats_get z i (by omega)]
    simp [xor3]
  · rw [List.getElem?_eq_none (by rw [nats_length, gl_length]; omega), List.getElem?_eq_none (by simp [nats_length]; omega)]
theorem sum_xor3 (b x z : List Int) (hx : x.length = b.length) (hz : z.length = b.length) : sum (nats b) ^^^ sum (nats x) ^^^ sum (nats z) = sum (nats (gl b.length (xor3 b x z) b.length)) := by
  rw [nats_xor3 b x z hx hz]
  exact sum_three _ _ _ (by rw [nats_length, nats_length, hx]) (by rw [nats_length, nats_length, hz])
theorem made_u8 (n : Nat) : (madeCells (Value.int .u8 0).cells (n * 1)).toList = u8s (List.replicate n 0) := by
  rw [Nat.mul_one]
  show (madeCells #[.int .u8 0] n).toList = _
  rw [toList_madeCells_one]
  simp [u8s]
theorem flips_ne (b : List Int) (kf : Nat → Nat) (h : ∀ j, kf j < 8 * b.length) : sum (nats (flips b kf 3)) ≠ sum (nats b) := by
  show sum (nats (flipI (flipI (flipI b (kf 0)) (kf 1)) (kf 2))) ≠ _
  rw [nats_flipI, nats_flipI, nats_flipI]
  exact three_flips _ _ _ _ (by rw [nats_length]; exact h 0) (by rw [nats_length]; exact h 1) (by rw [nats_length]; exact h 2)
end Go.Proofs.Ytpgcnchbboohoaa
