/-
  How many bits are 1, 0 ahead and 0 behind: plain facts that join the library's ways of counting with the document's. No program is looked at.
-/
import Derived.Test.YtfbgejgapdpjcaaDoorNumSpec
import Derived.Lib.BitFns
import Derived.Lib.TrailingZeros
namespace Go.Proofs.YtfbgejgapdpjcaaDoor

def msk (c : Nat) : Nat → Nat
  | 0 => 0
  | k + 1 => c + 256 * msk c k
def lanes (f : Nat → Nat) : Nat → Nat → Nat
  | 0, _ => 0
  | k + 1, x => f (x % 256) + 256 * lanes f k (x / 256)

theorem and_lane (b r m M : Nat) (hb : b < 256) (hm : m < 256) : (b + 256 * r) &&& (m + 256 * M) = (b &&& m) + 256 * (r &&& M) := by
  have h1 : ((b + 256 * r) &&& (m + 256 * M)) % 2 ^ 8 = ((b + 256 * r) % 2 ^ 8) &&& ((m + 256 * M) % 2 ^ 8) := Nat.and_mod_two_pow
  have h2 : ((b + 256 * r) &&& (m + 256 * M)) / 2 ^ 8 = ((b + 256 * r) / 2 ^ 8) &&& ((m + 256 * M) / 2 ^ 8) := Nat.and_div_two_pow
  rw [show (b + 256 * r) % 2 ^ 8 = b by omega, show (m + 256 * M) % 2 ^ 8 = m by omega] at h1
  rw [show (b + 256 * r) / 2 ^ 8 = r by omega, show (m + 256 * M) / 2 ^ 8 = M by omega] at h2
  omega

def g1 (b : Nat) : Nat := (b / 2 &&& 85) + (b &&& 85)
def g2 (b : Nat) : Nat := (b / 4 &&& 51) + (b &&& 51)
def g3 (b : Nat) : Nat := (b / 16 + b) &&& 15

theorem lane1 : ∀ b : Fin 256, ∀ t : Fin 2, (b.val / 2 + 128 * t.val) &&& 85 = b.val / 2 &&& 85 := by decide +kernel
theorem lane2 : ∀ b : Fin 256, ∀ t : Fin 4, (b.val / 4 + 64 * t.val) &&& 51 = b.val / 4 &&& 51 := by decide +kernel
theorem lane3 : ∀ b : Fin 256, g1 b.val < 256 ∧ g2 (g1 b.val) < 256 ∧ g2 (g1 b.val) % 16 ≤ 4 ∧ g2 (g1 b.val) / 16 ≤ 4 := by decide +kernel

theorem all1 : ∀ k x, (x / 2 &&& msk 85 k) + (x &&& msk 85 k) = lanes g1 k x
  | 0, x => by simp [msk, lanes]
  | k + 1, x => by
    have ih := all1 k (x / 256)
    have hb : x % 256 < 256 := Nat.mod_lt _ (by decide)
    have e1 : x / 2 = (x % 256 / 2 + 128 * (x / 256 % 2)) + 256 * (x / 256 / 2) := by omega
    have e2 : x = x % 256 + 256 * (x / 256) := by omega
    have a1 := and_lane (x % 256 / 2 + 128 * (x / 256 % 2)) (x / 256 / 2) 85 (msk 85 k) (by omega) (by decide)
    have a2 := and_lane (x % 256) (x / 256) 85 (msk 85 k) hb (by decide)
    have l1 := lane1 ⟨x % 256, hb⟩ ⟨x / 256 % 2, Nat.mod_lt _ (by decide)⟩
    simp only at l1
    rw [← e1, l1] at a1
    rw [← e2] at a2
    simp only [msk, lanes, g1]
    omega
theorem all2 : ∀ k x, (x / 4 &&& msk 51 k) + (x &&& msk 51 k) = lanes g2 k x
  | 0, x => by simp [msk, lanes]
  | k + 1, x => by
    have ih := all2 k (x / 256)
    have hb : x % 256 < 256 := Nat.mod_lt _ (by decide)
    have e1 : x / 4 = (x % 256 / 4 + 64 * (x / 256 % 4)) + 256 * (x / 256 / 4) := by omega
    have e2 : x = x % 256 + 256 * (x / 256) := by omega
    have a1 := and_lane (x % 256 / 4 + 64 * (x / 256 % 4)) (x / 256 / 4) 51 (msk 51 k) (by omega) (by decide)
    have a2 := and_lane (x % 256) (x / 256) 51 (msk 51 k) hb (by decide)
    have l1 := lane2 ⟨x % 256, hb⟩ ⟨x / 256 % 4, Nat.mod_lt _ (by decide)⟩
    simp only at l1
    rw [← e1, l1] at a1
    rw [← e2] at a2
    simp only [msk, lanes, g2]
    omega
theorem lanes_lanes (f g : Nat → Nat) (hg : ∀ b, b < 256 → g b < 256) : ∀ k x, lanes f k (lanes g k x) = lanes (fun b => f (g b)) k x
  | 0, _ => rfl
  | k + 1, x => by
    have hb := hg (x % 256) (Nat.mod_lt _ (by decide))
    have ih := lanes_lanes f g hg k (x / 256)
    simp only [lanes]
    rw [show (g (x % 256) + 256 * lanes g k (x / 256)) % 256 = g (x % 256) by omega, show (g (x % 256) + 256 * lanes g k (x / 256)) / 256 = lanes g k (x / 256) by omega, ih]
theorem all3 (h : Nat → Nat) (hh : ∀ b, b < 256 → h b < 256 ∧ h b % 16 ≤ 4 ∧ h b / 16 ≤ 4) : ∀ k x, (lanes h k x / 16 + lanes h k x) &&& msk 15 k = lanes (fun b => g3 (h b)) k x
  | 0, x => by simp [msk, lanes]
  | k + 1, x => by
    have ih := all3 h hh k (x / 256)
    have hb := hh (x % 256) (Nat.mod_lt _ (by decide))
    have ht : lanes h k (x / 256) % 16 ≤ 4 := by
      cases k with
      | zero => simp [lanes]
      | succ j =>
        have := hh (x / 256 % 256) (Nat.mod_lt _ (by decide))
        simp only [lanes]; omega
    simp only [msk, lanes]
    generalize lanes h k (x / 256) = z at *
    generalize h (x % 256) = c at *
    have e1 : (c + 256 * z) / 16 + (c + 256 * z) = (c / 16 + c + 16 * (z % 16)) + 256 * (z / 16 + z) := by omega
    rw [e1, and_lane _ _ 15 (msk 15 k) (by omega) (by decide), ih]
    have e2 : (c / 16 + c + 16 * (z % 16)) &&& 15 = g3 c := by
      unfold g3
      rw [show (15 : Nat) = 2 ^ 4 - 1 by decide, Nat.and_two_pow_sub_one_eq_mod, Nat.and_two_pow_sub_one_eq_mod]
      omega
    rw [e2]

def pop8n (b : Nat) : Nat := b % 2 + b / 2 % 2 + b / 4 % 2 + b / 8 % 2 + b / 16 % 2 + b / 32 % 2 + b / 64 % 2 + b / 128 % 2
theorem pop8n_is : ∀ b : Fin 256, g3 (g2 (g1 b.val)) = pop8n b.val ∧ pop8n b.val ≤ 8 := by decide +kernel
theorem pop8n_lib : ∀ b : Fin 256, Lib.onesCount b.val = pop8n b.val := by decide +kernel

theorem bit_nat (x i : Nat) : ((x : Int) / 2 ^ i % 2).toNat = x / 2 ^ i % 2 := by
  have h : (x : Int) / 2 ^ i % 2 = ((x / 2 ^ i % 2 : Nat) : Int) := by push_cast; rfl
  rw [h]; rfl
theorem pcr_eight (x : Nat) : ∀ n, pcr (n + 8) (x : Int) = pop8n (x % 256) + pcr n ((x / 256 : Nat) : Int)
  | 0 => by
    simp only [pcr, pop8n, bit_nat]
    have e0 : x % 256 % 2 = x / 2 ^ 0 % 2 := by omega
    have e1 : x % 256 / 2 % 2 = x / 2 ^ 1 % 2 := by omega
    have e2 : x % 256 / 4 % 2 = x / 2 ^ 2 % 2 := by omega
    have e3 : x % 256 / 8 % 2 = x / 2 ^ 3 % 2 := by omega
    have e4 : x % 256 / 16 % 2 = x / 2 ^ 4 % 2 := by omega
    have e5 : x % 256 / 32 % 2 = x / 2 ^ 5 % 2 := by omega
    have e6 : x % 256 / 64 % 2 = x / 2 ^ 6 % 2 := by omega
    have e7 : x % 256 / 128 % 2 = x / 2 ^ 7 % 2 := by omega
    rw [e0, e1, e2, e3, e4, e5, e6, e7]
    simp
  | n + 1 => by
    have ih := pcr_eight x n
    have e : x / 2 ^ (n + 8) = x / 256 / 2 ^ n := by
      rw [Nat.div_div_eq_div_mul, show (256 : Nat) = 2 ^ 8 by decide, ← Nat.pow_add, Nat.add_comm]
    show pcr (n + 8) (x : Int) + ((x : Int) / 2 ^ (n + 8) % 2).toNat = pop8n (x % 256) + (pcr n ((x / 256 : Nat) : Int) + (((x / 256 : Nat) : Int) / 2 ^ n % 2).toNat)
    rw [bit_nat, bit_nat, ih, e]
    omega

/-- The sum of the bytes' counts. -/
def popN : Nat → Nat → Nat
  | 0, _ => 0
  | k + 1, x => pop8n (x % 256) + popN k (x / 256)
theorem pcr_popN : ∀ k x, pcr (8 * k) ((x : Nat) : Int) = popN k x
  | 0, _ => rfl
  | k + 1, x => by rw [show 8 * (k + 1) = 8 * k + 8 by omega, pcr_eight, pcr_popN k]; rfl

theorem lanes_congr {f g : Nat → Nat} (h : ∀ b, b < 256 → f b = g b) : ∀ k x, lanes f k x = lanes g k x
  | 0, _ => rfl
  | k + 1, x => by simp only [lanes]; rw [h _ (Nat.mod_lt _ (by decide)), lanes_congr h k]

theorem sum_bytes {a0 a1 a2 a3 a4 a5 a6 a7 : Nat} (h0 : a0 ≤ 8) (h1 : a1 ≤ 8) (h2 : a2 ≤ 8) (h3 : a3 ≤ 8) (h4 : a4 ≤ 8) (h5 : a5 ≤ 8) (h6 : a6 ≤ 8) (h7 : a7 ≤ 8) :
    let y := a0 + 256 * (a1 + 256 * (a2 + 256 * (a3 + 256 * (a4 + 256 * (a5 + 256 * (a6 + 256 * (a7 + 256 * 0)))))))
    (y + y / 256 + (y + y / 256) / 65536 + (y + y / 256 + (y + y / 256) / 65536) / 4294967296) % 128 = a0 + (a1 + (a2 + (a3 + (a4 + (a5 + (a6 + (a7 + 0))))))) := by
  intro y
  have hy : y / 256 = a1 + 256 * (a2 + 256 * (a3 + 256 * (a4 + 256 * (a5 + 256 * (a6 + 256 * a7))))) := by
    show (a0 + 256 * _) / 256 = _
    rw [Nat.add_mul_div_left _ _ (by decide), Nat.div_eq_of_lt (by omega)]; omega
  have hz : y + y / 256 = ((a0 + a1) + 256 * (a1 + a2)) + 65536 * ((a2 + a3) + 256 * ((a3 + a4) + 256 * ((a4 + a5) + 256 * ((a5 + a6) + 256 * ((a6 + a7) + 256 * a7))))) := by
    rw [hy]; show a0 + 256 * _ + _ = _; omega
  rw [hz]
  have hz2 : (((a0 + a1) + 256 * (a1 + a2)) + 65536 * ((a2 + a3) + 256 * ((a3 + a4) + 256 * ((a4 + a5) + 256 * ((a5 + a6) + 256 * ((a6 + a7) + 256 * a7)))))) / 65536 = (a2 + a3) + 256 * ((a3 + a4) + 256 * ((a4 + a5) + 256 * ((a5 + a6) + 256 * ((a6 + a7) + 256 * a7)))) := by
    rw [Nat.add_mul_div_left _ _ (by decide), Nat.div_eq_of_lt (by omega)]; omega
  rw [hz2]
  have hw : ((a0 + a1) + 256 * (a1 + a2)) + 65536 * ((a2 + a3) + 256 * ((a3 + a4) + 256 * ((a4 + a5) + 256 * ((a5 + a6) + 256 * ((a6 + a7) + 256 * a7))))) + ((a2 + a3) + 256 * ((a3 + a4) + 256 * ((a4 + a5) + 256 * ((a5 + a6) + 256 * ((a6 + a7) + 256 * a7)))))
      = ((a0 + a1 + a2 + a3) + 256 * ((a1 + a2 + a3 + a4) + 256 * ((a2 + a3 + a4 + a5) + 256 * (a3 + a4 + a5 + a6)))) + 4294967296 * ((a4 + a5 + a6 + a7) + 256 * ((a5 + a6 + a7) + 256 * ((a6 + a7) + 256 * a7))) := by omega
  rw [hw, Nat.add_mul_div_left _ _ (by decide), Nat.div_eq_of_lt (by omega)]
  omega
theorem pop_sum (x : Nat) : ∃ A B C D Y : Nat, x / 2 &&& 6148914691236517205 = A ∧ x &&& 6148914691236517205 = B ∧ (A + B) / 4 &&& 3689348814741910323 = C ∧ (A + B) &&& 3689348814741910323 = D
    ∧ ((C + D) / 16 + (C + D)) &&& 1085102592571150095 = Y ∧ A ≤ 6148914691236517205 ∧ B ≤ 6148914691236517205 ∧ C ≤ 3689348814741910323 ∧ D ≤ 3689348814741910323 ∧ Y ≤ 1085102592571150095
    ∧ (Y + Y / 256 + (Y + Y / 256) / 65536 + (Y + Y / 256 + (Y + Y / 256) / 65536) / 4294967296) % 128 = pcr 64 (x : Int) := by
  refine ⟨_, _, _, _, _, rfl, rfl, rfl, rfl, rfl, Nat.and_le_right, Nat.and_le_right, Nat.and_le_right, Nat.and_le_right, Nat.and_le_right, ?_⟩
  have m1 : msk 85 8 = 6148914691236517205 := by decide +kernel
  have m2 : msk 51 8 = 3689348814741910323 := by decide +kernel
  have m3 : msk 15 8 = 1085102592571150095 := by decide +kernel
  rw [← m1, ← m2, ← m3, all1, all2, lanes_lanes g2 g1 (fun b hb => (lane3 ⟨b, hb⟩).1), all3 (fun b => g2 (g1 b)) (fun b hb => (lane3 ⟨b, hb⟩).2), lanes_congr (fun b hb => (pop8n_is ⟨b, hb⟩).1), pcr_popN 8 x]
  have p : ∀ y : Nat, pop8n (y % 256) ≤ 8 := fun y => (pop8n_is ⟨y % 256, Nat.mod_lt _ (by decide)⟩).2
  simp only [lanes, popN]
  have p0 := p x
  have p1 := p (x / 256)
  have p2 := p (x / 256 / 256)
  have p3 := p (x / 256 / 256 / 256)
  have p4 := p (x / 256 / 256 / 256 / 256)
  have p5 := p (x / 256 / 256 / 256 / 256 / 256)
  have p6 := p (x / 256 / 256 / 256 / 256 / 256 / 256)
  have p7 := p (x / 256 / 256 / 256 / 256 / 256 / 256 / 256)
  generalize pop8n (x % 256) = a0 at *
  generalize pop8n (x / 256 % 256) = a1 at *
  generalize pop8n (x / 256 / 256 % 256) = a2 at *
  generalize pop8n (x / 256 / 256 / 256 % 256) = a3 at *
  generalize pop8n (x / 256 / 256 / 256 / 256 % 256) = a4 at *
  generalize pop8n (x / 256 / 256 / 256 / 256 / 256 % 256) = a5 at *
  generalize pop8n (x / 256 / 256 / 256 / 256 / 256 / 256 % 256) = a6 at *
  generalize pop8n (x / 256 / 256 / 256 / 256 / 256 / 256 / 256 % 256) = a7 at *
  exact sum_bytes p0 p1 p2 p3 p4 p5 p6 p7

/-- Zeros behind. -/
theorem bit_is (x i : Nat) : ((x : Int) / 2 ^ i % 2 = 1) = (x / 2 ^ i % 2 = 1) := by
  have h : (x : Int) / 2 ^ i % 2 = ((x / 2 ^ i % 2 : Nat) : Int) := by push_cast; rfl
  rw [h]; exact propext ⟨fun e => by omega, fun e => by omega⟩
theorem tzr_ctzFrom : ∀ (f i X : Nat), tzr f i (X : Int) = Lib.ctzFrom f (X / 2 ^ i)
  | 0, _, _ => rfl
  | f + 1, i, X => by
    have ih := tzr_ctzFrom f (i + 1) X
    rw [Nat.pow_succ, ← Nat.div_div_eq_div_mul] at ih
    simp only [tzr, Lib.ctzFrom, bit_is, ih]
    split <;> omega
theorem ctzFrom_zero : ∀ f, Lib.ctzFrom f 0 = f
  | 0 => rfl
  | f + 1 => by simp only [Lib.ctzFrom]; rw [if_neg (by decide), show 0 / 2 = 0 by decide, ctzFrom_zero f]; omega
theorem tz_lib (f X : Nat) : Lib.ctz f X = tzr f 0 (X : Int) := by
  rw [tzr_ctzFrom, Nat.pow_zero, Nat.div_one]
  unfold Lib.ctz
  split
  · rename_i h; rw [h, ctzFrom_zero]
  · rfl

/-- Zeros ahead. -/
theorem lz_lib : ∀ (n x : Nat), n ≤ 64 → x < 2 ^ n → lzr n (x : Int) = n - Lib.bitLen x ∧ Lib.bitLen x ≤ n
  | 0, x, _, h => by
    obtain rfl : x = 0 := by omega
    exact ⟨rfl, by decide +kernel⟩
  | n + 1, x, hn, h => by
    have hle := Lib.bitLen_le x (n + 1) hn h
    refine ⟨?_, hle⟩
    simp only [lzr, bit_is]
    split
    · rename_i h1
      have hp : 0 < 2 ^ n := Nat.pow_pos (by decide)
      have hx : 2 ^ n ≤ x := by
        refine Nat.le_of_not_lt fun hlt => ?_
        rw [Nat.div_eq_of_lt hlt] at h1; omega
      have h64 : x < 2 ^ 64 := Nat.lt_of_lt_of_le h (Nat.pow_le_pow_right (by decide) hn)
      have hs := Lib.bitLen_shift n x hx h64
      have hq : x / 2 ^ n = 1 := by
        have : x / 2 ^ n < 2 := by rw [Nat.div_lt_iff_lt_mul hp, Nat.mul_comm, ← Nat.pow_succ]; exact h
        have : 0 < x / 2 ^ n := Nat.div_pos hx hp
        omega
      rw [hq, show Lib.bitLen 1 = 1 by decide +kernel] at hs
      omega
    · rename_i h1
      have hp : 0 < 2 ^ n := Nat.pow_pos (by decide)
      have hx : x < 2 ^ n := by
        refine Nat.lt_of_not_le fun hge => ?_
        have : x / 2 ^ n < 2 := by rw [Nat.div_lt_iff_lt_mul hp, Nat.mul_comm, ← Nat.pow_succ]; exact h
        have : 0 < x / 2 ^ n := Nat.div_pos hge hp
        omega
      have ih := lz_lib n x (by omega) hx
      omega
end Go.Proofs.YtfbgejgapdpjcaaDoor
