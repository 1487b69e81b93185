/- How many bits of a word are 1, as the library counts them: by pairs, by fours, by bytes. Plain numbers; nothing here speaks of the program. -/
import Derived.Test.YthchemgkfjmhjaaBit
namespace Go.Proofs.Ythchemgkfjmhjaa

/-- k bytes of m each. -/
def rep (m : Nat) : Nat → Nat
  | 0 => 0
  | k + 1 => 256 * rep m k + m
theorem land_256 (a b c d : Nat) (hb : b < 256) (hd : d < 256) : (256 * a + b) &&& (256 * c + d) = 256 * (a &&& c) + (b &&& d) := by
  have h1 : ((256 * a + b) &&& (256 * c + d)) / 2 ^ 8 = a &&& c := by
    rw [Nat.and_div_two_pow]; congr 1 <;> omega
  have h2 : ((256 * a + b) &&& (256 * c + d)) % 2 ^ 8 = b &&& d := by
    rw [Nat.and_mod_two_pow]
    congr 1 <;> omega
  omega
theorem land_small (b d : Nat) (hd : d < 256) : b &&& d = b % 256 &&& d := by
  have := land_256 (b / 256) (b % 256) 0 d (by omega) hd
  rw [Nat.and_zero] at this
  rw [show 256 * (b / 256) + b % 256 = b by omega, show 256 * 0 + d = d by omega] at this
  omega

/-- One step on a byte: two neighbours' counts are put together. -/
def st1 (x : Nat) : Nat := (x / 2 &&& 85) + (x &&& 85)
def st2 (x : Nat) : Nat := (x / 4 &&& 51) + (x &&& 51)
def st3 (x : Nat) : Nat := (x / 16 + x) &&& 15
theorem byte_pop : ∀ b : Fin 256, st3 (st2 (st1 b.val)) = pop b.val := by decide +kernel
theorem byte_bounds : ∀ b : Fin 256, st1 b.val < 256 ∧ st2 (st1 b.val) < 128 ∧ st2 (st1 b.val) / 16 + st2 (st1 b.val) % 16 < 16 ∧ pop b.val ≤ 8 := by decide +kernel

theorem step1 (q b k : Nat) (hb : b < 256) : ((256 * q + b) / 2 &&& rep 85 (k + 1)) + ((256 * q + b) &&& rep 85 (k + 1)) = 256 * ((q / 2 &&& rep 85 k) + (q &&& rep 85 k)) + st1 b := by
  have e : (256 * q + b) / 2 = 256 * (q / 2) + (128 * (q % 2) + b / 2) := by omega
  have e2 : (128 * (q % 2) + b / 2) &&& 85 = b / 2 &&& 85 := by
    have h : ∀ p : Fin 2, ∀ b : Fin 256, (128 * p.val + b.val / 2) &&& 85 = b.val / 2 &&& 85 := by decide +kernel
    exact h ⟨q % 2, by omega⟩ ⟨b, hb⟩
  rw [rep, e, land_256 _ _ _ _ (by omega) (by omega), land_256 _ _ _ _ hb (by omega), e2]
  unfold st1; omega
theorem step2 (q b k : Nat) (hb : b < 256) : ((256 * q + b) / 4 &&& rep 51 (k + 1)) + ((256 * q + b) &&& rep 51 (k + 1)) = 256 * ((q / 4 &&& rep 51 k) + (q &&& rep 51 k)) + st2 b := by
  have e : (256 * q + b) / 4 = 256 * (q / 4) + (64 * (q % 4) + b / 4) := by omega
  have e2 : (64 * (q % 4) + b / 4) &&& 51 = b / 4 &&& 51 := by
    have h : ∀ p : Fin 4, ∀ b : Fin 256, (64 * p.val + b.val / 4) &&& 51 = b.val / 4 &&& 51 := by decide +kernel
    exact h ⟨q % 4, by omega⟩ ⟨b, hb⟩
  rw [rep, e, land_256 _ _ _ _ (by omega) (by omega), land_256 _ _ _ _ hb (by omega), e2]
  unfold st2; omega
theorem nibbles : ∀ b : Fin 256, st2 (st1 b.val) < 256 ∧ st2 (st1 b.val) % 16 ≤ 4 ∧ st2 (st1 b.val) / 16 ≤ 4 := by decide +kernel
theorem nib15 : ∀ p q : Fin 5, ∀ r : Fin 5, (16 * p.val + q.val + (16 * q.val + r.val)) &&& 15 = (q.val + (16 * q.val + r.val)) &&& 15 := by decide +kernel

def f1 (x k : Nat) : Nat := (x / 2 &&& rep 85 k) + (x &&& rep 85 k)
def f2 (x k : Nat) : Nat := (x / 4 &&& rep 51 k) + (x &&& rep 51 k)
def f3 (x k : Nat) : Nat := (x / 16 + x) &&& rep 15 k
theorem f1_step (q b k : Nat) (hb : b < 256) : f1 (256 * q + b) (k + 1) = 256 * f1 q k + st1 b := step1 q b k hb
theorem f2_step (q b k : Nat) (hb : b < 256) : f2 (256 * q + b) (k + 1) = 256 * f2 q k + st2 b := step2 q b k hb
theorem f3_step (q c k : Nat) (hq : q % 16 ≤ 4) (h1 : c % 16 ≤ 4) (h2 : c / 16 ≤ 4) : f3 (256 * q + c) (k + 1) = 256 * f3 q k + st3 c := by
  have e := nib15 ⟨q % 16, by omega⟩ ⟨c / 16, by omega⟩ ⟨c % 16, by omega⟩
  have e2 : 16 * (c / 16) + c % 16 = c := by omega
  simp only [e2] at e
  have e3 : (256 * q + c) / 16 + (256 * q + c) = 256 * (q / 16 + q) + (16 * (q % 16) + c / 16 + c) := by omega
  unfold f3
  rw [rep, e3, land_256 _ _ _ _ (by omega) (by omega), e]
  unfold st3; rfl

/-- The bytes' counts, byte by byte. -/
def pb (x : Nat) : Nat → Nat
  | 0 => 0
  | k + 1 => 256 * pb (x / 256) k + pop (x % 256)
theorem f2_low (x k : Nat) : f2 (f1 x k) k % 16 ≤ 4 := by
  cases k with
  | zero => simp [f2, f1, rep]
  | succ k =>
    have hb : x % 256 < 256 := by omega
    have h1 := f1_step (x / 256) (x % 256) k hb
    rw [show 256 * (x / 256) + x % 256 = x by omega] at h1
    have h2 : st1 (x % 256) < 256 := (byte_bounds ⟨x % 256, hb⟩).1
    rw [h1, f2_step _ _ _ h2]
    have h3 : st2 (st1 (x % 256)) % 16 ≤ 4 := (nibbles ⟨x % 256, hb⟩).2.1
    omega
theorem bytes_all (k : Nat) : ∀ x, f3 (f2 (f1 x k) k) k = pb x k := by
  induction k with
  | zero => intro x; simp [f3, rep, pb]
  | succ k ih =>
    intro x
    have hb : x % 256 < 256 := by omega
    have h1 := f1_step (x / 256) (x % 256) k hb
    rw [show 256 * (x / 256) + x % 256 = x by omega] at h1
    have h2 := (byte_bounds ⟨x % 256, hb⟩).1
    have h3 := nibbles ⟨x % 256, hb⟩
    simp only at h2 h3
    rw [h1, f2_step _ _ _ h2, f3_step _ _ _ (f2_low _ _) h3.2.1 h3.2.2, ih, pb]
    have := byte_pop ⟨x % 256, hb⟩
    simp only at this
    rw [this]

theorem pop_join (j : Nat) : ∀ b q, b < 2 ^ j → pop (2 ^ j * q + b) = pop q + pop b := by
  induction j with
  | zero => intro b q hb; have : b = 0 := by simpa using hb
            subst this; simp [pop_zero]
  | succ j ih =>
    intro b q hb
    rw [pop_step (2 ^ (j + 1) * q + b), pop_step b]
    have e1 : (2 ^ (j + 1) * q + b) / 2 = 2 ^ j * q + b / 2 := by rw [Nat.pow_succ, Nat.mul_comm (2 ^ j) 2, Nat.mul_assoc]; omega
    have e2 : (2 ^ (j + 1) * q + b) % 2 = b % 2 := by rw [Nat.pow_succ, Nat.mul_comm (2 ^ j) 2, Nat.mul_assoc]; omega
    rw [e1, e2, ih _ _ (by rw [Nat.pow_succ] at hb; omega)]
    omega
theorem pop_256 (x : Nat) : pop x = pop (x / 256) + pop (x % 256) := by
  have := pop_join 8 (x % 256) (x / 256) (by omega)
  rwa [show 2 ^ 8 * (x / 256) + x % 256 = x by omega] at this
theorem pop_byte (x : Nat) : pop (x % 256) ≤ 8 := pop_le 8 _ (by omega)

/-- The bytes' counts are put together. -/
def s1 (x : Nat) : Nat := x + x / 256
def s2 (x : Nat) : Nat := x + x / 65536
def s3 (x : Nat) : Nat := x + x / 4294967296
theorem div1 (y a : Nat) (ha : a < 256) : (256 * y + a) / 256 = y := by omega
theorem div2 (y a b : Nat) (ha : a < 256) (hb : b < 256) : (256 * (256 * y + b) + a) / 65536 = y := by omega
theorem div4 (y a b c d : Nat) (ha : a < 256) (hb : b < 256) (hc : c < 256) (hd : d < 256) : (256 * (256 * (256 * (256 * y + d) + c) + b) + a) / 4294967296 = y := by
  rw [show 4294967296 = 65536 * 65536 by rfl, ← Nat.div_div_eq_div_mul, div2 _ _ _ ha hb, div2 _ _ _ hc hd]
theorem sum_one (c0 c1 c2 c3 c4 c5 c6 c7 : Nat) (h0 : c0 ≤ 8) (_h1 : c1 ≤ 8) (_h2 : c2 ≤ 8) (_h3 : c3 ≤ 8) (_h4 : c4 ≤ 8) (_h5 : c5 ≤ 8) (_h6 : c6 ≤ 8) (_h7 : c7 ≤ 8) : s1 (256 * (256 * (256 * (256 * (256 * (256 * (256 * (256 * (0) + c7) + c6) + c5) + c4) + c3) + c2) + c1) + c0) = 256 * (256 * (256 * (256 * (256 * (256 * (256 * (256 * (0) + (c7)) + (c6 + c7)) + (c5 + c6)) + (c4 + c5)) + (c3 + c4)) + (c2 + c3)) + (c1 + c2)) + (c0 + c1) := by
  unfold s1; rw [div1 _ _ (by omega)]; omega
theorem sum_two (c0 c1 c2 c3 c4 c5 c6 c7 : Nat) (h0 : c0 ≤ 8) (h1 : c1 ≤ 8) (h2 : c2 ≤ 8) (_h3 : c3 ≤ 8) (_h4 : c4 ≤ 8) (_h5 : c5 ≤ 8) (_h6 : c6 ≤ 8) (_h7 : c7 ≤ 8) : s2 (256 * (256 * (256 * (256 * (256 * (256 * (256 * (256 * (0) + (c7)) + (c6 + c7)) + (c5 + c6)) + (c4 + c5)) + (c3 + c4)) + (c2 + c3)) + (c1 + c2)) + (c0 + c1)) = 256 * (256 * (256 * (256 * (256 * (256 * (256 * (256 * (0) + (c7)) + (c6 + c7)) + (c5 + c6 + c7)) + (c4 + c5 + c6 + c7)) + (c3 + c4 + c5 + c6)) + (c2 + c3 + c4 + c5)) + (c1 + c2 + c3 + c4)) + (c0 + c1 + c2 + c3) := by
  unfold s2; rw [div2 _ _ _ (by omega) (by omega)]; omega
theorem sum_four (c0 c1 c2 c3 c4 c5 c6 c7 : Nat) (h0 : c0 ≤ 8) (h1 : c1 ≤ 8) (h2 : c2 ≤ 8) (h3 : c3 ≤ 8) (h4 : c4 ≤ 8) (h5 : c5 ≤ 8) (h6 : c6 ≤ 8) (_h7 : c7 ≤ 8) : s3 (256 * (256 * (256 * (256 * (256 * (256 * (256 * (256 * (0) + (c7)) + (c6 + c7)) + (c5 + c6 + c7)) + (c4 + c5 + c6 + c7)) + (c3 + c4 + c5 + c6)) + (c2 + c3 + c4 + c5)) + (c1 + c2 + c3 + c4)) + (c0 + c1 + c2 + c3)) = 256 * (256 * (256 * (256 * (256 * (256 * (256 * (256 * (0) + (c7)) + (c6 + c7)) + (c5 + c6 + c7)) + (c4 + c5 + c6 + c7)) + (c3 + c4 + c5 + c6 + c7)) + (c2 + c3 + c4 + c5 + c6 + c7)) + (c1 + c2 + c3 + c4 + c5 + c6 + c7)) + (c0 + c1 + c2 + c3 + c4 + c5 + c6 + c7) := by
  unfold s3; rw [div4 _ _ _ _ _ (by omega) (by omega) (by omega) (by omega)]; omega
theorem sum_all (c0 c1 c2 c3 c4 c5 c6 c7 : Nat) (h0 : c0 ≤ 8) (h1 : c1 ≤ 8) (h2 : c2 ≤ 8) (h3 : c3 ≤ 8) (h4 : c4 ≤ 8) (h5 : c5 ≤ 8) (h6 : c6 ≤ 8) (h7 : c7 ≤ 8) : 256 * (256 * (256 * (256 * (256 * (256 * (256 * (256 * (0) + c7) + c6) + c5) + c4) + c3) + c2) + c1) + c0 ≤ 578721382704613384 ∧ s3 (s2 (s1 (256 * (256 * (256 * (256 * (256 * (256 * (256 * (256 * (0) + c7) + c6) + c5) + c4) + c3) + c2) + c1) + c0))) % 128 = c0 + c1 + c2 + c3 + c4 + c5 + c6 + c7 := by
  refine ⟨by omega, ?_⟩
  rw [sum_one c0 c1 c2 c3 c4 c5 c6 c7 h0 h1 h2 h3 h4 h5 h6 h7, sum_two c0 c1 c2 c3 c4 c5 c6 c7 h0 h1 h2 h3 h4 h5 h6 h7, sum_four c0 c1 c2 c3 c4 c5 c6 c7 h0 h1 h2 h3 h4 h5 h6 h7]
  omega
theorem pop_all {x : Nat} (hx : x < 2 ^ 64) : pb x 8 ≤ 578721382704613384 ∧ s3 (s2 (s1 (pb x 8))) % 128 = pop x := by
  have h8 : x / 256 / 256 / 256 / 256 / 256 / 256 / 256 / 256 = 0 := by
    simp only [Nat.div_div_eq_div_mul]
    exact Nat.div_eq_of_lt hx
  have hp : pop x = pop (x % 256) + pop (x / 256 % 256) + pop (x / 256 / 256 % 256) + pop (x / 256 / 256 / 256 % 256) + pop (x / 256 / 256 / 256 / 256 % 256) + pop (x / 256 / 256 / 256 / 256 / 256 % 256) + pop (x / 256 / 256 / 256 / 256 / 256 / 256 % 256) + pop (x / 256 / 256 / 256 / 256 / 256 / 256 / 256 % 256) := by
    rw [pop_256 (x), pop_256 (x / 256), pop_256 (x / 256 / 256), pop_256 (x / 256 / 256 / 256), pop_256 (x / 256 / 256 / 256 / 256), pop_256 (x / 256 / 256 / 256 / 256 / 256), pop_256 (x / 256 / 256 / 256 / 256 / 256 / 256), pop_256 (x / 256 / 256 / 256 / 256 / 256 / 256 / 256), h8, pop_zero]
    omega
  have := sum_all (pop (x % 256)) (pop (x / 256 % 256)) (pop (x / 256 / 256 % 256)) (pop (x / 256 / 256 / 256 % 256)) (pop (x / 256 / 256 / 256 / 256 % 256)) (pop (x / 256 / 256 / 256 / 256 / 256 % 256)) (pop (x / 256 / 256 / 256 / 256 / 256 / 256 % 256)) (pop (x / 256 / 256 / 256 / 256 / 256 / 256 / 256 % 256)) (pop_byte _) (pop_byte _) (pop_byte _) (pop_byte _) (pop_byte _) (pop_byte _) (pop_byte _) (pop_byte _)
  rw [hp]
  exact this
end Go.Proofs.Ythchemgkfjmhjaa
